/-
  Desks: laws.szDesk, toDesk, eqDesk, IsDesk on both sides, by their contracts; the box of a desk.
-/
import Derived.Test.YtpdkfidmmjlmnabQg
namespace Go.Proofs.Ytpdkfidmmjlmnab
open Go.RowKit

structure Dk (lo : Nat) (w : World) (dv mv lv ev nv : Value) (ds : List Int) (ms : List (List (List Int))) (ls : List (List Int)) (es : List Int) (ns : List (List (List Int))) : Prop where
  fi : Fi lo w dv mv lv ds ms ls
  cx : Cx lo w ev nv es ns
/-- The sizes that the measure leaves. -/
structure DkB (k : Nat) (ds : List Int) (ms : List (List (List Int))) (ls : List (List Int)) (es : List Int) (ns : List (List (List Int))) : Prop where
  hd : ds.length ≤ k
  hm : Bd3 k ms
  hl : Bd2 k ls
  he : es.length ≤ k
  hn : Bd3 k ns
section
variable {lo : Nat} {w w' wr : World} {b : Nat} {p : Int} {dv mv lv : Value} {q : Int} {ev nv : Value} {ds : List Int} {ms : List (List (List Int))} {ls : List (List Int)} {es : List Int} {ns : List (List (List Int))}
theorem Dk.below (h : Dk lo w dv mv lv ev nv ds ms ls es ns) (hb : Below w.heap.size w w') : Dk lo w' dv mv lv ev nv ds ms ls es ns := ⟨h.fi.below hb, h.cx.below hb⟩
theorem Dk.zero (h : Dk lo w dv mv lv ev nv ds ms ls es ns) : Dk 0 w dv mv lv ev nv ds ms ls es ns := ⟨h.fi.zero, h.cx.zero⟩
theorem Dk.drew (h : Dk lo w dv mv lv ev nv ds ms ls es ns) : Dk lo w.drew dv mv lv ev nv ds ms ls es ns := h.below (Below.refl _ _).drew
theorem Dk.shapes (h : Dk lo w dv mv lv ev nv ds ms ls es ns) : (∃ a c, dv = .slice a ds.length c) ∧ (∃ a c, mv = .slice a ms.length c) ∧ (∃ a c, lv = .slice a ls.length c) ∧ (∃ a c, ev = .slice a es.length c) ∧ ∃ a c, nv = .slice a ns.length c :=
  ⟨h.fi.shapes.1, h.fi.shapes.2.1, h.fi.shapes.2.2, h.cx.shapes.1, h.cx.shapes.2⟩

/-- What stands in the box of a desk, in whatever later world. -/
structure Dx (w wr : World) (b : Nat) (p : Int) (dv mv lv : Value) (q : Int) (ev nv : Value) (ds : List Int) (ms : List (List (List Int))) (ls : List (List Int)) (es : List Int) (ns : List (List (List Int))) : Prop where
  below : Below w.heap.size w wr
  c0 : wr.cell? ⟨b, 0, none⟩ = some (.int .i64 p)
  c1 : wr.cell? ⟨b, 1, none⟩ = some dv
  c2 : wr.cell? ⟨b, 2, none⟩ = some mv
  c3 : wr.cell? ⟨b, 3, none⟩ = some lv
  c4 : wr.cell? ⟨b, 4, none⟩ = some (.int .i64 q)
  c5 : wr.cell? ⟨b, 5, none⟩ = some ev
  c6 : wr.cell? ⟨b, 6, none⟩ = some nv
  lt : b < wr.heap.size
  dk : Dk 0 wr dv mv lv ev nv ds ms ls es ns
theorem Dx.next (h : Dx w wr b p dv mv lv q ev nv ds ms ls es ns) (hb : Below wr.heap.size wr w') : Dx w w' b p dv mv lv q ev nv ds ms ls es ns :=
  ⟨h.below.trans (hb.mono h.below.size), later hb (Nat.le_refl _) h.c0, later hb (Nat.le_refl _) h.c1, later hb (Nat.le_refl _) h.c2, later hb (Nat.le_refl _) h.c3, later hb (Nat.le_refl _) h.c4, later hb (Nat.le_refl _) h.c5, later hb (Nat.le_refl _) h.c6, Nat.lt_of_lt_of_le h.lt hb.size, h.dk.below hb⟩
theorem Dx.start (t : TypeId) (h : Dk 0 w dv mv lv ev nv ds ms ls es ns) : Dx w (w.alloc (.cells #[.int .i64 p, dv, mv, lv, .int .i64 q, ev, nv] t)) w.heap.size p dv mv lv q ev nv ds ms ls es ns :=
  ⟨(Below.refl _ _).alloc (Nat.le_refl _) _, by simp, by simp, by simp, by simp, by simp, by simp, by simp, by simp, h.below ((Below.refl _ _).alloc (Nat.le_refl _) _)⟩
end

set_option maxHeartbeats 800000 in
theorem szDesk_any (p : Int) (dv mv lv : Value) (q : Int) (ev nv : Value) (ds : List Int) (ms : List (List (List Int))) (ls : List (List Int)) (es : List Int) (ns : List (List (List Int))) (left : Int) (w : World) (h : Dk 0 w dv mv lv ev nv ds ms ls es ns) (h0 : 0 ≤ left) (h1 : left ≤ 1048576) (hB : DkB 9223372036854775807 ds ms ls es ns) :
    Calls Try.prog 81 #[.agg #[.int .i64 p, dv, mv, lv, .int .i64 q, ev, nv], .int .i64 left] w (SzB left (DkB 1048576 ds ms ls es ns) w) := by
  have HX0 := Lib.hid (Dx.start (p := p) (q := q) 84 h)
  have HB := Lib.hid hB
  clear hB h
  go_enter Try.func81, Try.ntmps81
  go_wp2_with fail
  refine (szFiltered_any p dv mv lv ds ms ls left _ HX0.out.dk.fi h0 h1 HB.out.hd HB.out.hm HB.out.hl).mono ?_
  rintro e w' ⟨r, rfl, hb1, hpost⟩
  have HX1 := Lib.hid (HX0.out.next hb1)
  clear hb1 HX0
  have c4 := HX1.out.c4
  have c5 := HX1.out.c5
  have c6 := HX1.out.c6
  rcases hpost with rfl | ⟨hp0, hp1, hp2⟩
  · go_wp2
    go_ret
    exact ⟨_, rfl, HX1.out.below, Or.inl rfl⟩
  · have HP2 := Lib.hid hp2
    clear hp2
    go_wp2_with fail
    refine (szComplex_any q ev nv es ns r _ HX1.out.dk.cx.dims HX1.out.dk.cx.maps hp0 (by omega) HB.out.he HB.out.hn).mono ?_
    rintro e w' ⟨r2, rfl, hb2, hpost⟩
    have HX2 := Lib.hid (HX1.out.next hb2)
    clear hb2 HX1 c4 c5 c6
    rcases hpost with rfl | ⟨hq0, hq1, hq2⟩
    · go_wp2
      go_ret
      exact ⟨_, rfl, HX2.out.below, Or.inl rfl⟩
    · have HQ2 := Lib.hid hq2
      clear hq2
      go_wp2
      go_ret
      exact ⟨_, rfl, HX2.out.below, Or.inr ⟨hq0, by omega, HP2.out.1, HP2.out.2.1, HP2.out.2.2, HQ2.out.1, HQ2.out.2⟩⟩

def ToD (p q : Int) (ds : List Int) (ms : List (List (List Int))) (ls : List (List Int)) (es : List Int) (ns : List (List (List Int))) (w : World) (e : Ending) (w' : World) : Prop :=
  ∃ dv mv lv ev nv, e = .returned (.agg #[.int .i64 p, dv, mv, lv, .int .i64 q, ev, nv]) ∧ Dk w.heap.size w' dv mv lv ev nv ds ms ls es ns ∧ Below w.heap.size w w'

set_option maxHeartbeats 3200000 in
theorem toDesk_any (p : Int) (dv mv lv : Value) (q : Int) (ev nv : Value) (ds : List Int) (ms : List (List (List Int))) (ls : List (List Int)) (es : List Int) (ns : List (List (List Int))) (w : World) (h : Dk 0 w dv mv lv ev nv ds ms ls es ns) (hB : DkB 1048576 ds ms ls es ns) :
    Calls Try.prog 83 #[.agg #[.int .i64 p, dv, mv, lv, .int .i64 q, ev, nv]] w (ToD p q ds ms ls es ns w) := by
  have HB := Lib.hid hB
  have H := Lib.hid h
  clear hB h
  have hres : Try.f83.results = #[.cell 2 88] := by kernel_rfl
  have HRES := Lib.hid hres
  clear hres
  go_enter Try.func83, Try.ntmps83
  go_wp2_with fail
  have hb0 : Below w.heap.size w (((w.alloc (.cells #[.int .i64 p, dv, mv, lv, .int .i64 q, ev, nv] 84)).alloc (.cells #[.int .i64 0, .slice none 0 0, .slice none 0 0, .slice none 0 0, .int .i64 0, .slice none 0 0, .slice none 0 0] 88)).alloc (.cells #[.int .i64 0, .slice none 0 0, .slice none 0 0, .slice none 0 0, .int .i64 0, .slice none 0 0, .slice none 0 0] 88)) :=
    (((Below.refl _ _).alloc (Nat.le_refl _) _).alloc (by simp) _).alloc (by simp; omega) _
  have HB0 := Lib.hid hb0
  clear hb0
  refine (toFiltered_any p dv mv lv ds ms ls _ (H.out.fi.below HB0.out) HB.out.hd HB.out.hm HB.out.hl).mono ?_
  rintro e w1 ⟨dv1, mv1, lv1, rfl, hcx1, hb1⟩
  obtain ⟨⟨ad1, cap1, rfl⟩, ⟨am1, capm1, rfl⟩, ⟨al1, capl1, rfl⟩⟩ := hcx1.shapes
  have hz : w.heap.size + 3 ≤ w1.heap.size := by have := hb1.size; simp at this; omega
  have HR1 := Lib.hid hcx1
  have HB1 := Lib.hid hb1
  clear hcx1 hb1
  have hz1b : w.heap.size + 1 < w1.heap.size := by omega
  have hz1 : w.heap.size + 1 + 1 < w1.heap.size := by omega
  have hc' : (∀ b o, b < w.heap.size + 3 → w1.cell? ⟨b, o, none⟩ = (((w.alloc (.cells #[.int .i64 p, dv, mv, lv, .int .i64 q, ev, nv] 84)).alloc (.cells #[.int .i64 0, .slice none 0 0, .slice none 0 0, .slice none 0 0, .int .i64 0, .slice none 0 0, .slice none 0 0] 88)).alloc (.cells #[.int .i64 0, .slice none 0 0, .slice none 0 0, .slice none 0 0, .int .i64 0, .slice none 0 0, .slice none 0 0] 88)).cell? ⟨b, o, none⟩) := fun b o h => (bcell HB1.out).1 b o (by simp; omega)
  have hf' : (∀ b o, b < w.heap.size + 3 → w1.frozen? ⟨b, o, none⟩ = (((w.alloc (.cells #[.int .i64 p, dv, mv, lv, .int .i64 q, ev, nv] 84)).alloc (.cells #[.int .i64 0, .slice none 0 0, .slice none 0 0, .slice none 0 0, .int .i64 0, .slice none 0 0, .slice none 0 0] 88)).alloc (.cells #[.int .i64 0, .slice none 0 0, .slice none 0 0, .slice none 0 0, .int .i64 0, .slice none 0 0, .slice none 0 0] 88)).frozen? ⟨b, o, none⟩) := fun b o h => (bcell HB1.out).2 b o (by simp; omega)
  have a4 : w1.cell? ⟨w.heap.size, 4, none⟩ = some (.int .i64 q) := by rw [hc' _ _ (by omega)]; go_simp
  have a5 : w1.cell? ⟨w.heap.size, 5, none⟩ = some ev := by rw [hc' _ _ (by omega)]; go_simp
  have a6 : w1.cell? ⟨w.heap.size, 6, none⟩ = some nv := by rw [hc' _ _ (by omega)]; go_simp
  have b0 : w1.cell? ⟨w.heap.size + 1 + 1, 0, none⟩ = some (.int .i64 0) := by rw [hc' _ _ (by omega)]; go_simp
  have b1 : w1.cell? ⟨w.heap.size + 1 + 1, 1, none⟩ = some (.slice none 0 0) := by rw [hc' _ _ (by omega)]; go_simp
  have b2 : w1.cell? ⟨w.heap.size + 1 + 1, 2, none⟩ = some (.slice none 0 0) := by rw [hc' _ _ (by omega)]; go_simp
  have b3 : w1.cell? ⟨w.heap.size + 1 + 1, 3, none⟩ = some (.slice none 0 0) := by rw [hc' _ _ (by omega)]; go_simp
  have b4 : w1.cell? ⟨w.heap.size + 1 + 1, 4, none⟩ = some (.int .i64 0) := by rw [hc' _ _ (by omega)]; go_simp
  have b5 : w1.cell? ⟨w.heap.size + 1 + 1, 5, none⟩ = some (.slice none 0 0) := by rw [hc' _ _ (by omega)]; go_simp
  have b6 : w1.cell? ⟨w.heap.size + 1 + 1, 6, none⟩ = some (.slice none 0 0) := by rw [hc' _ _ (by omega)]; go_simp
  have e0 : w1.cell? ⟨w.heap.size + 1, 0, none⟩ = some (.int .i64 0) := by rw [hc' _ _ (by omega)]; go_simp
  have e1 : w1.cell? ⟨w.heap.size + 1, 1, none⟩ = some (.slice none 0 0) := by rw [hc' _ _ (by omega)]; go_simp
  have e2 : w1.cell? ⟨w.heap.size + 1, 2, none⟩ = some (.slice none 0 0) := by rw [hc' _ _ (by omega)]; go_simp
  have e3 : w1.cell? ⟨w.heap.size + 1, 3, none⟩ = some (.slice none 0 0) := by rw [hc' _ _ (by omega)]; go_simp
  have e4 : w1.cell? ⟨w.heap.size + 1, 4, none⟩ = some (.int .i64 0) := by rw [hc' _ _ (by omega)]; go_simp
  have e5 : w1.cell? ⟨w.heap.size + 1, 5, none⟩ = some (.slice none 0 0) := by rw [hc' _ _ (by omega)]; go_simp
  have e6 : w1.cell? ⟨w.heap.size + 1, 6, none⟩ = some (.slice none 0 0) := by rw [hc' _ _ (by omega)]; go_simp
  have f0 : ∀ o, w1.frozen? ⟨w.heap.size + 1 + 1, o, none⟩ = false := fun o => by rw [hf' _ _ (by omega)]; go_simp
  have f1 : ∀ o, w1.frozen? ⟨w.heap.size + 1, o, none⟩ = false := fun o => by rw [hf' _ _ (by omega)]; go_simp
  have HBW := Lib.hid (HB0.out.trans (HB1.out.mono (by simp; omega)))
  clear hc' hf'
  go_wp2_with fail
  generalize hw2 : ((((w1.setCell ⟨w.heap.size + 1 + 1, 0, none⟩ (.int .i64 p)).setCell ⟨w.heap.size + 1 + 1, 1, none⟩ (.slice ad1 ds.length cap1)).setCell ⟨w.heap.size + 1 + 1, 2, none⟩ (.slice am1 ms.length capm1)).setCell ⟨w.heap.size + 1 + 1, 3, none⟩ (.slice al1 ls.length capl1)) = w2
  have hs2 : w2.heap.size = w1.heap.size := by rw [← hw2]; simp [World.setCell]
  have hk2 : Keep (w.heap.size + 1 + 1 + 1) w1 w2 := by rw [← hw2]; exact ((((Keep.set _ (by omega)).trans (Keep.set _ (by omega))).trans (Keep.set _ (by omega))).trans (Keep.set _ (by omega)))
  have hbw2 : Below w.heap.size w w2 := by rw [← hw2]; exact (((((HBW.out).setCell (by show w.heap.size ≤ w.heap.size + 1 + 1; omega) _).setCell (by show w.heap.size ≤ w.heap.size + 1 + 1; omega) _).setCell (by show w.heap.size ≤ w.heap.size + 1 + 1; omega) _).setCell (by show w.heap.size ≤ w.heap.size + 1 + 1; omega) _)
  have HFI2 : Hid (Fi (w.heap.size + 1 + 1 + 1) w2 (.slice ad1 ds.length cap1) (.slice am1 ms.length capm1) (.slice al1 ls.length capl1) ds ms ls) := Lib.hid (by
    have h := HR1.out
    exact ⟨⟨stable1 _ _ _ _ _ hk2 (h.cx.dims.lower (by simp)), stable3 _ _ _ _ _ hk2 (h.cx.maps.lower (by simp))⟩, stable2 _ _ _ _ _ hk2 (h.lv.lower (by simp))⟩)
  have HBW2 := Lib.hid hbw2
  have g0 : w2.cell? ⟨w.heap.size + 1 + 1, 0, none⟩ = some (.int .i64 p) := by subst hw2; go_simp
  have g1 : w2.cell? ⟨w.heap.size + 1 + 1, 1, none⟩ = some (.slice ad1 ds.length cap1) := by subst hw2; go_simp
  have g2 : w2.cell? ⟨w.heap.size + 1 + 1, 2, none⟩ = some (.slice am1 ms.length capm1) := by subst hw2; go_simp
  have g3 : w2.cell? ⟨w.heap.size + 1 + 1, 3, none⟩ = some (.slice al1 ls.length capl1) := by subst hw2; go_simp
  have g4 : w2.cell? ⟨w.heap.size + 1 + 1, 4, none⟩ = some (.int .i64 0) := by subst hw2; go_simp
  have g5 : w2.cell? ⟨w.heap.size + 1 + 1, 5, none⟩ = some (.slice none 0 0) := by subst hw2; go_simp
  have g6 : w2.cell? ⟨w.heap.size + 1 + 1, 6, none⟩ = some (.slice none 0 0) := by subst hw2; go_simp
  have q0 : w2.cell? ⟨w.heap.size + 1, 0, none⟩ = some (.int .i64 0) := by subst hw2; go_simp
  have q1 : w2.cell? ⟨w.heap.size + 1, 1, none⟩ = some (.slice none 0 0) := by subst hw2; go_simp
  have q2 : w2.cell? ⟨w.heap.size + 1, 2, none⟩ = some (.slice none 0 0) := by subst hw2; go_simp
  have q3 : w2.cell? ⟨w.heap.size + 1, 3, none⟩ = some (.slice none 0 0) := by subst hw2; go_simp
  have q4 : w2.cell? ⟨w.heap.size + 1, 4, none⟩ = some (.int .i64 0) := by subst hw2; go_simp
  have q5 : w2.cell? ⟨w.heap.size + 1, 5, none⟩ = some (.slice none 0 0) := by subst hw2; go_simp
  have q6 : w2.cell? ⟨w.heap.size + 1, 6, none⟩ = some (.slice none 0 0) := by subst hw2; go_simp
  have p0 : ∀ o, w2.frozen? ⟨w.heap.size + 1 + 1, o, none⟩ = false := fun o => by subst hw2; go_simp
  have p1 : ∀ o, w2.frozen? ⟨w.heap.size + 1, o, none⟩ = false := fun o => by subst hw2; go_simp
  clear hw2 hk2 hbw2 b0 b1 b2 b3 b4 b5 b6 e0 e1 e2 e3 e4 e5 e6 a4 a5 a6 f0 f1 HB1 HR1 hz1b
  refine (toComplex_any q ev nv es ns _ (H.out.cx.below HBW2.out) HB.out.he HB.out.hn).mono ?_
  rintro e w3 ⟨u3, u4, rfl, hr3, hb3⟩
  obtain ⟨⟨ad3, cap3, rfl⟩, ⟨am3, capm3, rfl⟩⟩ := hr3.shapes
  have hz3 : w2.heap.size ≤ w3.heap.size := hb3.size
  have hzB : w.heap.size + 1 + 1 < w3.heap.size := by omega
  have hzC : w.heap.size + 1 < w3.heap.size := by omega
  have HFI3 := Lib.hid (HFI2.out.below hb3)
  have HB3 := Lib.hid (HBW2.out.trans (hb3.mono HBW2.out.size))
  have HR3 := Lib.hid (hr3.lower (lo' := w.heap.size + 1 + 1 + 1) (by omega))
  have g0 := later hb3 (Nat.le_refl _) g0
  have g1 := later hb3 (Nat.le_refl _) g1
  have g2 := later hb3 (Nat.le_refl _) g2
  have g3 := later hb3 (Nat.le_refl _) g3
  have g4 := later hb3 (Nat.le_refl _) g4
  have g5 := later hb3 (Nat.le_refl _) g5
  have g6 := later hb3 (Nat.le_refl _) g6
  have q0 := later hb3 (Nat.le_refl _) q0
  have q1 := later hb3 (Nat.le_refl _) q1
  have q2 := later hb3 (Nat.le_refl _) q2
  have q3 := later hb3 (Nat.le_refl _) q3
  have q4 := later hb3 (Nat.le_refl _) q4
  have q5 := later hb3 (Nat.le_refl _) q5
  have q6 := later hb3 (Nat.le_refl _) q6
  have p0 : ∀ o, w3.frozen? ⟨w.heap.size + 1 + 1, o, none⟩ = false := fun o => by rw [(bcell hb3).2 _ _ (by omega)]; exact p0 o
  have p1 : ∀ o, w3.frozen? ⟨w.heap.size + 1, o, none⟩ = false := fun o => by rw [(bcell hb3).2 _ _ (by omega)]; exact p1 o
  clear hr3 hb3 HFI2 HBW2
  go_wp2
  refine bodyPost_ret (v := .agg #[.int .i64 p, .slice ad1 ds.length cap1, .slice am1 ms.length capm1, .slice al1 ls.length capl1, .int .i64 q, .slice ad3 es.length cap3, .slice am3 ns.length capm3]) ?_ rfl ?_
  · simp only [results, HRES.out]
    go_simp
  · have hk : ∀ u0 u1 u2 v0 v1 v2 v3 v4 v5 v6, Keep (w.heap.size + 1 + 1 + 1) w3 ((((((((((w3.setCell ⟨w.heap.size + 1 + 1, 4, none⟩ u0).setCell ⟨w.heap.size + 1 + 1, 5, none⟩ u1).setCell ⟨w.heap.size + 1 + 1, 6, none⟩ u2).setCell ⟨w.heap.size + 1, 0, none⟩ v0).setCell ⟨w.heap.size + 1, 1, none⟩ v1).setCell ⟨w.heap.size + 1, 2, none⟩ v2).setCell ⟨w.heap.size + 1, 3, none⟩ v3).setCell ⟨w.heap.size + 1, 4, none⟩ v4).setCell ⟨w.heap.size + 1, 5, none⟩ v5).setCell ⟨w.heap.size + 1, 6, none⟩ v6) := fun u0 u1 u2 v0 v1 v2 v3 v4 v5 v6 => ((((((((((Keep.set _ (by omega)).trans (Keep.set _ (by omega))).trans (Keep.set _ (by omega))).trans (Keep.set _ (by omega))).trans (Keep.set _ (by omega))).trans (Keep.set _ (by omega))).trans (Keep.set _ (by omega))).trans (Keep.set _ (by omega))).trans (Keep.set _ (by omega))).trans (Keep.set _ (by omega)))
    refine ⟨_, _, _, _, _, rfl, ⟨⟨⟨?_, ?_⟩, ?_⟩, ⟨?_, ?_⟩⟩, ?_⟩
    · exact (stable1 _ _ _ _ _ (hk _ _ _ _ _ _ _ _ _ _) HFI3.out.cx.dims).lower (by omega)
    · exact (stable3 _ _ _ _ _ (hk _ _ _ _ _ _ _ _ _ _) HFI3.out.cx.maps).lower (by omega)
    · exact (stable2 _ _ _ _ _ (hk _ _ _ _ _ _ _ _ _ _) HFI3.out.lv).lower (by omega)
    · exact (stable1 _ _ _ _ _ (hk _ _ _ _ _ _ _ _ _ _) HR3.out.dims).lower (by omega)
    · exact (stable3 _ _ _ _ _ (hk _ _ _ _ _ _ _ _ _ _) HR3.out.maps).lower (by omega)
    · exact (((((((((((HB3.out).setCell (by show w.heap.size ≤ w.heap.size + 1 + 1; omega) _).setCell (by show w.heap.size ≤ w.heap.size + 1 + 1; omega) _).setCell (by show w.heap.size ≤ w.heap.size + 1 + 1; omega) _).setCell (by show w.heap.size ≤ w.heap.size + 1; omega) _).setCell (by show w.heap.size ≤ w.heap.size + 1; omega) _).setCell (by show w.heap.size ≤ w.heap.size + 1; omega) _).setCell (by show w.heap.size ≤ w.heap.size + 1; omega) _).setCell (by show w.heap.size ≤ w.heap.size + 1; omega) _).setCell (by show w.heap.size ≤ w.heap.size + 1; omega) _).setCell (by show w.heap.size ≤ w.heap.size + 1; omega) _)

set_option maxHeartbeats 800000 in
theorem eqDesk_true (p : Int) (dv mv lv : Value) (q : Int) (ev nv : Value) (dv2 mv2 lv2 ev2 nv2 : Value) (ds : List Int) (ms : List (List (List Int))) (ls : List (List Int)) (es : List Int) (ns : List (List (List Int))) (w : World) (h : Dk 0 w dv mv lv ev nv ds ms ls es ns) (h2 : Dk 0 w dv2 mv2 lv2 ev2 nv2 ds ms ls es ns) (hB : DkB 1048576 ds ms ls es ns) :
    Calls Try.prog 85 #[.agg #[.int .i64 p, dv, mv, lv, .int .i64 q, ev, nv], .agg #[.int .i64 p, dv2, mv2, lv2, .int .i64 q, ev2, nv2]] w (BR (.bool true) w) := by
  have HB := Lib.hid hB
  have HX0 := Lib.hid (Dx.start (p := p) (q := q) 88 h)
  have HY0 := Lib.hid (Dx.start (p := p) (q := q) 88 (h2.below (below_alloc1 w (.cells #[.int .i64 p, dv, mv, lv, .int .i64 q, ev, nv] 88))))
  have HX1 := Lib.hid (HX0.out.next (below_alloc1 _ (.cells #[.int .i64 p, dv2, mv2, lv2, .int .i64 q, ev2, nv2] 88)))
  clear hB h h2 HX0
  go_enter Try.func85, Try.ntmps85
  go_wp2_with fail
  generalize hW : ((w.alloc (.cells #[.int .i64 p, dv, mv, lv, .int .i64 q, ev, nv] 88)).alloc (.cells #[.int .i64 p, dv2, mv2, lv2, .int .i64 q, ev2, nv2] 88)) = W at *
  have hz0 : (w.alloc (.cells #[.int .i64 p, dv, mv, lv, .int .i64 q, ev, nv] 88)).heap.size = w.heap.size + 1 := by simp
  rw [hz0] at HY0
  refine (eqFiltered_true p dv mv lv dv2 mv2 lv2 ds ms ls _ HX1.out.dk.fi HY0.out.dk.fi HB.out.hd HB.out.hm HB.out.hl).mono ?_
  rintro e w' ⟨rfl, hb1⟩
  have HX2 := Lib.hid (HX1.out.next hb1)
  have HY2 := Lib.hid (HY0.out.next hb1)
  clear hb1 HX1 HY0 hW hz0
  have c4 := HX2.out.c4
  have c5 := HX2.out.c5
  have c6 := HX2.out.c6
  have d4 := HY2.out.c4
  have d5 := HY2.out.c5
  have d6 := HY2.out.c6
  go_wp2_with fail
  refine (eqComplex_true q ev nv ev2 nv2 es ns _ HX2.out.dk.cx HY2.out.dk.cx HB.out.he HB.out.hn).mono ?_
  rintro e w' ⟨rfl, hb2⟩
  have HX3 := Lib.hid (HX2.out.next hb2)
  clear hb2 HX2 HY2 c4 c5 c6 d4 d5 d6
  go_wp2
  go_ret
  exact ⟨rfl, HX3.out.below⟩

def IsDk (p q : Int) (ds : List Int) (ms : List (List (List Int))) (ls : List (List Int)) (es : List Int) (ns : List (List (List Int))) : Prop := IsFil p ds ms ls ∧ IsCx q es ns

set_option maxHeartbeats 800000 in
theorem isDesk_any (p : Int) (dv mv lv : Value) (q : Int) (ev nv : Value) (ds : List Int) (ms : List (List (List Int))) (ls : List (List Int)) (es : List Int) (ns : List (List (List Int))) (w : World) (h : Dk 0 w dv mv lv ev nv ds ms ls es ns) (hB : DkB 1048576 ds ms ls es ns) :
    Calls Try.prog 84 #[.agg #[.int .i64 p, dv, mv, lv, .int .i64 q, ev, nv]] w (BB (IsDk p q ds ms ls es ns) w) := by
  have HB := Lib.hid hB
  have HX0 := Lib.hid (Dx.start (p := p) (q := q) 88 h)
  clear hB h
  go_enter Try.func84, Try.ntmps84
  go_wp2_with fail
  refine (isFiltered_any p dv mv lv ds ms ls _ HX0.out.dk.fi HB.out.hd HB.out.hm HB.out.hl).mono ?_
  rintro e w' ⟨b1, rfl, hb1, hbb1⟩
  have HX1 := Lib.hid (HX0.out.next hb1)
  have HBB := Lib.hid hbb1
  clear hb1 hbb1 HX0
  have c4 := HX1.out.c4
  have c5 := HX1.out.c5
  have c6 := HX1.out.c6
  cases b1
  · go_wp2
    go_ret
    exact ⟨false, rfl, HX1.out.below, ⟨fun h => (by cases h), fun h => absurd (HBB.out.2 h.1) (by simp)⟩⟩
  · go_wp2_with fail
    refine (isComplex_any q ev nv es ns _ HX1.out.dk.cx HB.out.he HB.out.hn).mono ?_
    rintro e w' ⟨b2, rfl, hb2, hbb2⟩
    have HX2 := Lib.hid (HX1.out.next hb2)
    have HBB2 := Lib.hid hbb2
    clear hb2 hbb2 HX1 c4 c5 c6
    go_wp2
    go_ret
    exact ⟨b2, rfl, HX2.out.below, HBB2.out.trans ⟨fun h => ⟨HBB.out.1 (by simp), h⟩, fun h => h.2⟩⟩

set_option maxHeartbeats 800000 in
theorem spIsDesk_any (p : Int) (dv mv lv : Value) (q : Int) (ev nv : Value) (ds : List Int) (ms : List (List (List Int))) (ls : List (List Int)) (es : List Int) (ns : List (List (List Int))) (w : World) (h : Dk 0 w dv mv lv ev nv ds ms ls es ns) (hB : DkB 1048576 ds ms ls es ns) :
    Calls Try.prog 82 #[.agg #[.int .i64 p, dv, mv, lv, .int .i64 q, ev, nv]] w (BB (IsDk p q ds ms ls es ns) w) := by
  have HB := Lib.hid hB
  have HX0 := Lib.hid (Dx.start (p := p) (q := q) 88 h)
  clear hB h
  go_enter Try.func82, Try.ntmps82
  go_wp2_with fail
  refine (l02Is_any p dv mv lv ds ms ls _ HX0.out.dk.fi HB.out.hd HB.out.hm HB.out.hl).mono ?_
  rintro e w' ⟨b1, rfl, hb1, hbb1⟩
  have HX1 := Lib.hid (HX0.out.next hb1)
  have HBB := Lib.hid hbb1
  clear hb1 hbb1 HX0
  have c4 := HX1.out.c4
  have c5 := HX1.out.c5
  have c6 := HX1.out.c6
  cases b1
  · go_wp2
    go_ret
    exact ⟨false, rfl, HX1.out.below, ⟨fun h => (by cases h), fun h => absurd (HBB.out.2 h.1) (by simp)⟩⟩
  · go_wp2_with fail
    refine (l01Is_any q ev nv es ns _ HX1.out.dk.cx HB.out.he HB.out.hn).mono ?_
    rintro e w' ⟨b2, rfl, hb2, hbb2⟩
    have HX2 := Lib.hid (HX1.out.next hb2)
    have HBB2 := Lib.hid hbb2
    clear hb2 hbb2 HX1 c4 c5 c6
    go_wp2
    go_ret
    exact ⟨b2, rfl, HX2.out.below, HBB2.out.trans ⟨fun h => ⟨HBB.out.1 (by simp), h⟩, fun h => h.2⟩⟩
end Go.Proofs.Ytpdkfidmmjlmnab
