/-
  Filtered complexes: laws.szFiltered, toFiltered, eqFiltered by their contracts; the box of a filtered complex.
-/
import Derived.Test.YtobfeleoafdmpaaSz
import Derived.Test.YtobfeleoafdmpaaSpIs
namespace Go.Proofs.Ytobfeleoafdmpaa
open Go.RowKit

structure Fi (lo : Nat) (w : World) (dv mv lv : Value) (ds : List Int) (ms : List (List (List Int))) (ls : List (List Int)) : Prop where
  cx : Cx lo w dv mv ds ms
  lv : L2 lo w lv ls
theorem Fi.below {lo : Nat} {w w' : World} {dv mv lv : Value} {ds : List Int} {ms : List (List (List Int))} {ls : List (List Int)} (h : Fi lo w dv mv lv ds ms ls) (hb : Below w.heap.size w w') : Fi lo w' dv mv lv ds ms ls := ⟨h.cx.below hb, h.lv.below hb⟩
theorem Fi.zero {lo : Nat} {w : World} {dv mv lv : Value} {ds : List Int} {ms : List (List (List Int))} {ls : List (List Int)} (h : Fi lo w dv mv lv ds ms ls) : Fi 0 w dv mv lv ds ms ls := ⟨h.cx.zero, h.lv.lower (Nat.zero_le _)⟩
theorem Fi.drew {lo : Nat} {w : World} {dv mv lv : Value} {ds : List Int} {ms : List (List (List Int))} {ls : List (List Int)} (h : Fi lo w dv mv lv ds ms ls) : Fi lo w.drew dv mv lv ds ms ls := h.below (Below.refl _ _).drew
theorem Fi.shapes {lo : Nat} {w : World} {dv mv lv : Value} {ds : List Int} {ms : List (List (List Int))} {ls : List (List Int)} (h : Fi lo w dv mv lv ds ms ls) : (∃ a c, dv = .slice a ds.length c) ∧ (∃ a c, mv = .slice a ms.length c) ∧ ∃ a c, lv = .slice a ls.length c := ⟨h.cx.shapes.1, h.cx.shapes.2, Sl.shape h.lv⟩

/-- What stands in the box of a filtered complex, in whatever later world. -/
structure Fx (w wr : World) (b : Nat) (p : Int) (dv mv lv : Value) (ds : List Int) (ms : List (List (List Int))) (ls : List (List Int)) : Prop where
  below : Below w.heap.size w wr
  c0 : wr.cell? ⟨b, 0, none⟩ = some (.int .i64 p)
  c1 : wr.cell? ⟨b, 1, none⟩ = some dv
  c2 : wr.cell? ⟨b, 2, none⟩ = some mv
  c3 : wr.cell? ⟨b, 3, none⟩ = some lv
  lt : b < wr.heap.size
  fi : Fi 0 wr dv mv lv ds ms ls
theorem Fx.next {w wr w' : World} {b : Nat} {p : Int} {dv mv lv : Value} {ds : List Int} {ms : List (List (List Int))} {ls : List (List Int)} (h : Fx w wr b p dv mv lv ds ms ls) (hb : Below wr.heap.size wr w') : Fx w w' b p dv mv lv ds ms ls :=
  ⟨h.below.trans (hb.mono h.below.size), later hb (Nat.le_refl _) h.c0, later hb (Nat.le_refl _) h.c1, later hb (Nat.le_refl _) h.c2, later hb (Nat.le_refl _) h.c3, Nat.lt_of_lt_of_le h.lt hb.size, h.fi.below hb⟩
theorem Fx.start {w : World} {p : Int} {dv mv lv : Value} {ds : List Int} {ms : List (List (List Int))} {ls : List (List Int)} (t : TypeId) (h : Fi 0 w dv mv lv ds ms ls) : Fx w (w.alloc (.cells #[.int .i64 p, dv, mv, lv] t)) w.heap.size p dv mv lv ds ms ls :=
  ⟨(Below.refl _ _).alloc (Nat.le_refl _) _, by simp, by simp, by simp, by simp, by simp, h.below ((Below.refl _ _).alloc (Nat.le_refl _) _)⟩

set_option maxHeartbeats 800000 in
theorem szFiltered_any (p : Int) (dv mv lv : Value) (ds : List Int) (ms : List (List (List Int))) (ls : List (List Int)) (left : Int) (w : World) (h : Fi 0 w dv mv lv ds ms ls) (h0 : 0 ≤ left) (h1 : left ≤ 1048576)
    (hdl : ds.length ≤ 9223372036854775807) (hml : Bd3 9223372036854775807 ms) (hll : Bd2 9223372036854775807 ls) :
    Calls Try.prog 8 #[.agg #[.int .i64 p, dv, mv, lv], .int .i64 left] w (SzB left (ds.length ≤ 1048576 ∧ Bd3 1048576 ms ∧ Bd2 1048576 ls) w) := by
  have HML := Lib.hid hml
  have HLL := Lib.hid hll
  have HX0 := Lib.hid (Fx.start (p := p) 28 h)
  clear hml hll h
  go_enter Try.func8, Try.ntmps8
  go_wp2_with fail
  refine (szComplex_any p dv mv ds ms left _ HX0.out.fi.cx.dims HX0.out.fi.cx.maps h0 h1 hdl HML.out).mono ?_
  rintro e w' ⟨r, rfl, hb1, hpost⟩
  have HX1 := Lib.hid (HX0.out.next hb1)
  clear hb1 HX0
  have c3 := HX1.out.c3
  rcases hpost with rfl | ⟨hp0, hp1, hp2⟩
  · go_wp2
    go_ret
    exact ⟨_, rfl, HX1.out.below, Or.inl rfl⟩
  · have HP2 := Lib.hid hp2
    clear hp2
    go_wp2_with fail
    refine (sz2_any (lo := 0) lv ls r _ HX1.out.fi.lv hp0 (by omega) HLL.out).mono ?_
    rintro e w' ⟨r2, rfl, rfl, hpost⟩
    rcases hpost with rfl | ⟨hq0, hq1, hq2⟩
    · go_wp2
      go_ret
      exact ⟨_, rfl, HX1.out.below, Or.inl rfl⟩
    · have HQ2 := Lib.hid hq2
      clear hq2
      go_wp2
      go_ret
      exact ⟨_, rfl, HX1.out.below, Or.inr ⟨hq0, by omega, HP2.out.1, HP2.out.2, HQ2.out⟩⟩

def ToF (p : Int) (ds : List Int) (ms : List (List (List Int))) (ls : List (List Int)) (w : World) (e : Ending) (w' : World) : Prop :=
  ∃ dv mv lv, e = .returned (.agg #[.int .i64 p, dv, mv, lv]) ∧ Fi w.heap.size w' dv mv lv ds ms ls ∧ Below w.heap.size w w'

set_option maxHeartbeats 1600000 in
theorem toFiltered_any (p : Int) (dv mv lv : Value) (ds : List Int) (ms : List (List (List Int))) (ls : List (List Int)) (w : World) (h : Fi 0 w dv mv lv ds ms ls) (hd : ds.length ≤ 1048576) (hm : Bd3 1048576 ms) (hl : Bd2 1048576 ls) :
    Calls Try.prog 10 #[.agg #[.int .i64 p, dv, mv, lv]] w (ToF p ds ms ls w) := by
  have HM := Lib.hid hm
  have HL := Lib.hid hl
  have H := Lib.hid h
  clear hm hl h
  have hres : Try.f10.results = #[.cell 2 33] := by kernel_rfl
  have HRES := Lib.hid hres
  clear hres
  go_enter Try.func10, Try.ntmps10
  go_wp2_with fail
  have hb0 : Below w.heap.size w (((w.alloc (.cells #[.int .i64 p, dv, mv, lv] 28)).alloc (.cells #[.int .i64 0, .slice none 0 0, .slice none 0 0, .slice none 0 0] 33)).alloc (.cells #[.int .i64 0, .slice none 0 0, .slice none 0 0, .slice none 0 0] 33)) :=
    (((Below.refl _ _).alloc (Nat.le_refl _) _).alloc (by simp) _).alloc (by simp; omega) _
  have HB0 := Lib.hid hb0
  clear hb0
  refine (toComplex_any p dv mv ds ms _ (H.out.cx.below HB0.out) hd HM.out).mono ?_
  rintro e w1 ⟨dv1, mv1, rfl, hcx1, hb1⟩
  obtain ⟨⟨ad1, cap1, rfl⟩, ⟨am1, capm1, rfl⟩⟩ := hcx1.shapes
  have hz : w.heap.size + 3 ≤ w1.heap.size := by have := hb1.size; simp at this; omega
  obtain ⟨hc, hf⟩ := bcell hb1
  have HR1 := Lib.hid hcx1
  have HB1 := Lib.hid hb1
  clear hcx1 hb1
  have hz1b : w.heap.size + 1 < w1.heap.size := by omega
  have hz1 : w.heap.size + 1 + 1 < w1.heap.size := by omega
  clear hc hf
  have hc' : (∀ b o, b < w.heap.size + 3 → w1.cell? ⟨b, o, none⟩ = (((w.alloc (.cells #[.int .i64 p, dv, mv, lv] 28)).alloc (.cells #[.int .i64 0, .slice none 0 0, .slice none 0 0, .slice none 0 0] 33)).alloc (.cells #[.int .i64 0, .slice none 0 0, .slice none 0 0, .slice none 0 0] 33)).cell? ⟨b, o, none⟩) := fun b o h => (bcell HB1.out).1 b o (by simp; omega)
  have hf' : (∀ b o, b < w.heap.size + 3 → w1.frozen? ⟨b, o, none⟩ = (((w.alloc (.cells #[.int .i64 p, dv, mv, lv] 28)).alloc (.cells #[.int .i64 0, .slice none 0 0, .slice none 0 0, .slice none 0 0] 33)).alloc (.cells #[.int .i64 0, .slice none 0 0, .slice none 0 0, .slice none 0 0] 33)).frozen? ⟨b, o, none⟩) := fun b o h => (bcell HB1.out).2 b o (by simp; omega)
  have a0 : w1.cell? ⟨w.heap.size, 3, none⟩ = some lv := by rw [hc' _ _ (by omega)]; go_simp
  have b0 : w1.cell? ⟨w.heap.size + 1 + 1, 0, none⟩ = some (.int .i64 0) := by rw [hc' _ _ (by omega)]; go_simp
  have b1 : w1.cell? ⟨w.heap.size + 1 + 1, 1, none⟩ = some (.slice none 0 0) := by rw [hc' _ _ (by omega)]; go_simp
  have b2 : w1.cell? ⟨w.heap.size + 1 + 1, 2, none⟩ = some (.slice none 0 0) := by rw [hc' _ _ (by omega)]; go_simp
  have b3 : w1.cell? ⟨w.heap.size + 1 + 1, 3, none⟩ = some (.slice none 0 0) := by rw [hc' _ _ (by omega)]; go_simp
  have e0 : w1.cell? ⟨w.heap.size + 1, 0, none⟩ = some (.int .i64 0) := by rw [hc' _ _ (by omega)]; go_simp
  have e1 : w1.cell? ⟨w.heap.size + 1, 1, none⟩ = some (.slice none 0 0) := by rw [hc' _ _ (by omega)]; go_simp
  have e2 : w1.cell? ⟨w.heap.size + 1, 2, none⟩ = some (.slice none 0 0) := by rw [hc' _ _ (by omega)]; go_simp
  have e3 : w1.cell? ⟨w.heap.size + 1, 3, none⟩ = some (.slice none 0 0) := by rw [hc' _ _ (by omega)]; go_simp
  have f0 : ∀ o, w1.frozen? ⟨w.heap.size + 1 + 1, o, none⟩ = false := fun o => by rw [hf' _ _ (by omega)]; go_simp
  have f1 : ∀ o, w1.frozen? ⟨w.heap.size + 1, o, none⟩ = false := fun o => by rw [hf' _ _ (by omega)]; go_simp
  have HBW := Lib.hid (HB0.out.trans (HB1.out.mono (by simp; omega)))
  clear hc' hf'
  go_wp2_with fail
  generalize hw2 : ((w1.setCell ⟨w.heap.size + 1 + 1, 0, none⟩ (.int .i64 p)).setCell ⟨w.heap.size + 1 + 1, 1, none⟩ (.slice ad1 ds.length cap1)).setCell ⟨w.heap.size + 1 + 1, 2, none⟩ (.slice am1 ms.length capm1) = w2
  have hs2 : w2.heap.size = w1.heap.size := by rw [← hw2]; simp [World.setCell]
  have hk2 : Keep (w.heap.size + 1 + 1 + 1) w1 w2 := by rw [← hw2]; exact ((Keep.set _ (by omega)).trans (Keep.set _ (by omega))).trans (Keep.set _ (by omega))
  have hbw2 : Below w.heap.size w w2 := by rw [← hw2]; exact (((HBW.out).setCell (by show w.heap.size ≤ w.heap.size + 1 + 1; omega) _).setCell (by show w.heap.size ≤ w.heap.size + 1 + 1; omega) _).setCell (by show w.heap.size ≤ w.heap.size + 1 + 1; omega) _
  have HCX2 : Hid (Cx (w.heap.size + 1 + 1 + 1) w2 (.slice ad1 ds.length cap1) (.slice am1 ms.length capm1) ds ms) := Lib.hid (by
    have h := HR1.out.lower (lo' := w.heap.size + 1 + 1 + 1) (by simp)
    exact ⟨stable1 _ _ _ _ _ hk2 h.dims, stable3 _ _ _ _ _ hk2 h.maps⟩)
  have HBW2 := Lib.hid hbw2
  have g0 : w2.cell? ⟨w.heap.size + 1 + 1, 0, none⟩ = some (.int .i64 p) := by subst hw2; go_simp
  have g1 : w2.cell? ⟨w.heap.size + 1 + 1, 1, none⟩ = some (.slice ad1 ds.length cap1) := by subst hw2; go_simp
  have g2 : w2.cell? ⟨w.heap.size + 1 + 1, 2, none⟩ = some (.slice am1 ms.length capm1) := by subst hw2; go_simp
  have g3 : w2.cell? ⟨w.heap.size + 1 + 1, 3, none⟩ = some (.slice none 0 0) := by subst hw2; go_simp
  have q0 : w2.cell? ⟨w.heap.size + 1, 0, none⟩ = some (.int .i64 0) := by subst hw2; go_simp
  have q1 : w2.cell? ⟨w.heap.size + 1, 1, none⟩ = some (.slice none 0 0) := by subst hw2; go_simp
  have q2 : w2.cell? ⟨w.heap.size + 1, 2, none⟩ = some (.slice none 0 0) := by subst hw2; go_simp
  have q3 : w2.cell? ⟨w.heap.size + 1, 3, none⟩ = some (.slice none 0 0) := by subst hw2; go_simp
  have p0 : ∀ o, w2.frozen? ⟨w.heap.size + 1 + 1, o, none⟩ = false := fun o => by subst hw2; go_simp
  have p1 : ∀ o, w2.frozen? ⟨w.heap.size + 1, o, none⟩ = false := fun o => by subst hw2; go_simp
  clear hw2 hk2 hbw2 a0 b0 b1 b2 b3 e0 e1 e2 e3 f0 f1 HB1 HR1 hz1b
  refine (to2_any lv ls _ (H.out.lv.below HBW2.out) HL.out).mono ?_
  rintro e w3 ⟨u3, rfl, hr3, hb3⟩
  obtain ⟨ad3, cap3, rfl⟩ := Sl.shape hr3
  have hz3 : w2.heap.size ≤ w3.heap.size := hb3.size
  have hzB : w.heap.size + 1 + 1 < w3.heap.size := by omega
  have hzC : w.heap.size + 1 < w3.heap.size := by omega
  have HCX3 := Lib.hid (HCX2.out.below hb3)
  have HB3 := Lib.hid (HBW2.out.trans (hb3.mono HBW2.out.size))
  have HR3 := Lib.hid (hr3.lower (lo' := w.heap.size + 1 + 1 + 1) (by omega))
  have g0 := later hb3 (Nat.le_refl _) g0
  have g1 := later hb3 (Nat.le_refl _) g1
  have g2 := later hb3 (Nat.le_refl _) g2
  have g3 := later hb3 (Nat.le_refl _) g3
  have q0 := later hb3 (Nat.le_refl _) q0
  have q1 := later hb3 (Nat.le_refl _) q1
  have q2 := later hb3 (Nat.le_refl _) q2
  have q3 := later hb3 (Nat.le_refl _) q3
  have p0 : ∀ o, w3.frozen? ⟨w.heap.size + 1 + 1, o, none⟩ = false := fun o => by rw [(bcell hb3).2 _ _ (by omega)]; exact p0 o
  have p1 : ∀ o, w3.frozen? ⟨w.heap.size + 1, o, none⟩ = false := fun o => by rw [(bcell hb3).2 _ _ (by omega)]; exact p1 o
  clear hr3 hb3 HCX2 HBW2
  go_wp2
  refine bodyPost_ret (v := .agg #[.int .i64 p, .slice ad1 ds.length cap1, .slice am1 ms.length capm1, .slice ad3 ls.length cap3]) ?_ rfl ?_
  · simp only [results, HRES.out]
    go_simp
  · have hk : ∀ u v0 v1 v2 v3, Keep (w.heap.size + 1 + 1 + 1) w3 (((((w3.setCell ⟨w.heap.size + 1 + 1, 3, none⟩ u).setCell ⟨w.heap.size + 1, 0, none⟩ v0).setCell ⟨w.heap.size + 1, 1, none⟩ v1).setCell ⟨w.heap.size + 1, 2, none⟩ v2).setCell ⟨w.heap.size + 1, 3, none⟩ v3) := fun u v0 v1 v2 v3 =>
      ((((Keep.set _ (by omega)).trans (Keep.set _ (by omega))).trans (Keep.set _ (by omega))).trans (Keep.set _ (by omega))).trans (Keep.set _ (by omega))
    refine ⟨_, _, _, rfl, ⟨⟨?_, ?_⟩, ?_⟩, ?_⟩
    · exact (stable1 _ _ _ _ _ (hk _ _ _ _ _) HCX3.out.dims).lower (by omega)
    · exact (stable3 _ _ _ _ _ (hk _ _ _ _ _) HCX3.out.maps).lower (by omega)
    · exact (stable2 _ _ _ _ _ (hk _ _ _ _ _) HR3.out).lower (by omega)
    · exact (((((HB3.out).setCell (by show w.heap.size ≤ w.heap.size + 1 + 1; omega) _).setCell (by show w.heap.size ≤ w.heap.size + 1; omega) _).setCell (by show w.heap.size ≤ w.heap.size + 1; omega) _).setCell (by show w.heap.size ≤ w.heap.size + 1; omega) _).setCell (by show w.heap.size ≤ w.heap.size + 1; omega) _

set_option maxHeartbeats 800000 in
theorem eqFiltered_true (p : Int) (dv mv lv dv2 mv2 lv2 : Value) (ds : List Int) (ms : List (List (List Int))) (ls : List (List Int)) (w : World) (h : Fi 0 w dv mv lv ds ms ls) (h2 : Fi 0 w dv2 mv2 lv2 ds ms ls) (hd : ds.length ≤ 1048576) (hm : Bd3 1048576 ms) (hl : Bd2 1048576 ls) :
    Calls Try.prog 12 #[.agg #[.int .i64 p, dv, mv, lv], .agg #[.int .i64 p, dv2, mv2, lv2]] w (BR (.bool true) w) := by
  have HM := Lib.hid hm
  have HL := Lib.hid hl
  have hb0 : Below w.heap.size w ((w.alloc (.cells #[.int .i64 p, dv, mv, lv] 33)).alloc (.cells #[.int .i64 p, dv2, mv2, lv2] 33)) :=
    ((Below.refl _ _).alloc (Nat.le_refl _) _).alloc (by simp) _
  have HB0 := Lib.hid hb0
  have H := Lib.hid (h.below hb0)
  have H2 := Lib.hid (h2.below hb0)
  clear hm hl h h2 hb0
  go_enter Try.func12, Try.ntmps12
  go_wp2_with fail
  generalize hW : ((w.alloc (.cells #[.int .i64 p, dv, mv, lv] 33)).alloc (.cells #[.int .i64 p, dv2, mv2, lv2] 33)) = W at *
  have d3 : W.cell? ⟨w.heap.size, 3, none⟩ = some lv := by subst hW; go_simp
  have d7 : W.cell? ⟨w.heap.size + 1, 3, none⟩ = some lv2 := by subst hW; go_simp
  clear hW
  refine (eqComplex_true p dv mv dv2 mv2 ds ms _ H.out.cx H2.out.cx hd HM.out).mono ?_
  rintro e w' ⟨rfl, hb1⟩
  have d3 := later hb1 (Nat.le_refl _) d3
  have d7 := later hb1 (Nat.le_refl _) d7
  have HB1 := Lib.hid (HB0.out.trans (hb1.mono HB0.out.size))
  have HX := Lib.hid (H.out.lv.below hb1)
  have HX2 := Lib.hid (H2.out.lv.below hb1)
  clear hb1
  go_wp2_with fail
  have h1 := eq2_any lv lv2 ls ls _ HX.out HX2.out HL.out HL.out
  rw [decide_eq_true rfl] at h1
  refine h1.mono ?_
  clear h1
  rintro e w' ⟨rfl, m2, rfl⟩
  go_wp2
  go_ret
  exact ⟨rfl, HB1.out.trans ((drewN_below _ m2).mono HB1.out.size)⟩
end Go.Proofs.Ytobfeleoafdmpaa
