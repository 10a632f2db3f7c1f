/-
  The bounds on sizes: laws.szInt64S, szInt64SS, szInt64SSS, szComplex, by their contracts.
  Filtered complexes: laws.szFiltered, toFiltered, eqFiltered by their contracts; the box of a filtered complex.
  impl.IsFiltered by its contract.
  spec.l02Level, l02Is, IsFiltered by their contracts.
  The code of a filtered complex, a page, a degree and a level: impl.checkCell and spec.l02Code by their contracts.
  laws.toFiltered once more, in a span of blocks; laws.markFiltered by its contract.
-/
import Derived.Test.YtpdkfidmmjlmnabQb
import Derived.Test.YtpdkfidmmjlmnabChecked
import Derived.Outline
import Derived.Test.YtpdkfidmmjlmnabQc
import Derived.Test.YtpdkfidmmjlmnabQf
import Derived.Deep.RegionHeld3
import Derived.Test.YtpdkfidmmjlmnabQe
namespace Go.Proofs.Ytpdkfidmmjlmnab
open Go.RowKit

set_option maxHeartbeats 400000 in
theorem sz1_any {lo : Nat} (v : Value) (xs : List Int) (left : Int) (w : World) (h : L1 lo w v xs) (h0 : 0 ≤ left) (h1 : left ≤ 1048576) (hm : xs.length ≤ 9223372036854775807) :
    Calls Try.prog 115 #[v, .int .i64 left] w (SzR left (Bd1 1048576 xs) w) := by
  obtain ⟨ad, cap, rfl⟩ := Sl.shape h
  by_cases hlt : left - xs.length < 0
  · go_enter Try.func115, Try.ntmps115
    go_wp2
    go_ret
    exact ⟨_, rfl, rfl, Or.inl rfl⟩
  · go_enter Try.func115, Try.ntmps115
    go_wp2
    go_ret
    exact ⟨_, rfl, rfl, Or.inr ⟨by omega, by omega, by unfold Bd1; omega⟩⟩

set_option maxHeartbeats 400000 in
theorem sz2_any {lo : Nat} (v : Value) (xs : List (List Int)) (left : Int) (w : World) (h : L2 lo w v xs) (h0 : 0 ≤ left) (h1 : left ≤ 1048576) (hm : Bd2 9223372036854775807 xs) :
    Calls Try.prog 86 #[v, .int .i64 left] w (SzR left (Bd2 1048576 xs) w) := by
  have hm0 : xs.length ≤ 9223372036854775807 := hm.1
  refine Sl.cases h (fun ad cap hx hv => ?_) (fun b o cap hv _ hpos hc => ?_)
  · subst hx hv
    go_enter Try.func86, Try.ntmps86
    go_wp2
    refine wp_loop_rounds 1 ?_
    rw [rounds_succ]
    go_wp2
    go_ret
    exact ⟨_, rfl, rfl, Or.inr ⟨by omega, by omega, by simp [Bd2]⟩⟩
  · subst hv
    clear h
    by_cases hlt : left - xs.length < 0
    · go_enter Try.func86, Try.ntmps86
      go_wp2
      go_ret
      exact ⟨_, rfl, rfl, Or.inl rfl⟩
    · have HM := Lib.hid hm
      have HC := Lib.hid hc
      clear hm hc
      go_enter Try.func86, Try.ntmps86
      go_wp2
      go_loop [1, 5] (fun l i => ∃ (k : Nat) (r : Int), k ≤ xs.length ∧ i = .int .i64 k ∧ l = .int .i64 r ∧ 0 ≤ r ∧ r ≤ left ∧ Hid (∀ j (hj : j < xs.length), j < k → Bd1 1048576 xs[j])) (fun _ i => xs.length - (intOf i).toNat)
      case atStart => exact ⟨0, _, Nat.zero_le _, rfl, rfl, by omega, by omega, Lib.hid (fun _ _ h => absurd h (Nat.not_lt_zero _))⟩
      case round =>
        obtain ⟨k, r, hk, rfl, rfl, hr0, hr1, HD⟩ := hrel
        by_cases hlt2 : k < xs.length
        · obtain ⟨u, hu, hr⟩ := HC.out k hlt2
          have hmu : (xs[k]).length ≤ 9223372036854775807 := HM.out.2 _ (List.getElem_mem hlt2)
          go_wp2_with fail
          refine (sz1_any u xs[k] r _ hr hr0 (by omega) hmu).mono ?_
          rintro e w' ⟨r2, rfl, rfl, hpost⟩
          rcases hpost with rfl | ⟨hp0, hp1, hp2⟩
          · go_wp2
            go_ret
            exact ⟨_, rfl, rfl, Or.inl rfl⟩
          · go_wp2
            go_round
            case rel => exact ⟨k + 1, r2, by omega, by go_num, rfl, hp0, by omega, Lib.hid (fun j hj hjk => by
              by_cases e : j = k
              · subst e; exact hp2
              · exact HD.out j hj (by omega))⟩
            case measure => simp [intOf]; omega
        · go_wp2
          go_ret
          exact ⟨_, rfl, rfl, Or.inr ⟨hr0, hr1, by omega, fun x hx => by
            obtain ⟨j, hj, rfl⟩ := List.getElem_of_mem hx
            exact HD.out j hj (by omega)⟩⟩
set_option maxHeartbeats 400000 in
theorem sz3_any {lo : Nat} (v : Value) (xs : List (List (List Int))) (left : Int) (w : World) (h : L3 lo w v xs) (h0 : 0 ≤ left) (h1 : left ≤ 1048576) (hm : Bd3 9223372036854775807 xs) :
    Calls Try.prog 47 #[v, .int .i64 left] w (SzR left (Bd3 1048576 xs) w) := by
  have hm0 : xs.length ≤ 9223372036854775807 := hm.1
  refine Sl.cases h (fun ad cap hx hv => ?_) (fun b o cap hv _ hpos hc => ?_)
  · subst hx hv
    go_enter Try.func47, Try.ntmps47
    go_wp2
    refine wp_loop_rounds 1 ?_
    rw [rounds_succ]
    go_wp2
    go_ret
    exact ⟨_, rfl, rfl, Or.inr ⟨by omega, by omega, by simp [Bd3]⟩⟩
  · subst hv
    clear h
    by_cases hlt : left - xs.length < 0
    · go_enter Try.func47, Try.ntmps47
      go_wp2
      go_ret
      exact ⟨_, rfl, rfl, Or.inl rfl⟩
    · have HM := Lib.hid hm
      have HC := Lib.hid hc
      clear hm hc
      go_enter Try.func47, Try.ntmps47
      go_wp2
      go_loop [1, 5] (fun l i => ∃ (k : Nat) (r : Int), k ≤ xs.length ∧ i = .int .i64 k ∧ l = .int .i64 r ∧ 0 ≤ r ∧ r ≤ left ∧ Hid (∀ j (hj : j < xs.length), j < k → Bd2 1048576 xs[j])) (fun _ i => xs.length - (intOf i).toNat)
      case atStart => exact ⟨0, _, Nat.zero_le _, rfl, rfl, by omega, by omega, Lib.hid (fun _ _ h => absurd h (Nat.not_lt_zero _))⟩
      case round =>
        obtain ⟨k, r, hk, rfl, rfl, hr0, hr1, HD⟩ := hrel
        by_cases hlt2 : k < xs.length
        · obtain ⟨u, hu, hr⟩ := HC.out k hlt2
          have hmu : Bd2 9223372036854775807 xs[k] := HM.out.2 _ (List.getElem_mem hlt2)
          go_wp2_with fail
          refine (sz2_any u xs[k] r _ hr hr0 (by omega) hmu).mono ?_
          rintro e w' ⟨r2, rfl, rfl, hpost⟩
          rcases hpost with rfl | ⟨hp0, hp1, hp2⟩
          · go_wp2
            go_ret
            exact ⟨_, rfl, rfl, Or.inl rfl⟩
          · go_wp2
            go_round
            case rel => exact ⟨k + 1, r2, by omega, by go_num, rfl, hp0, by omega, Lib.hid (fun j hj hjk => by
              by_cases e : j = k
              · subst e; exact hp2
              · exact HD.out j hj (by omega))⟩
            case measure => simp [intOf]; omega
        · go_wp2
          go_ret
          exact ⟨_, rfl, rfl, Or.inr ⟨hr0, hr1, by omega, fun x hx => by
            obtain ⟨j, hj, rfl⟩ := List.getElem_of_mem hx
            exact HD.out j hj (by omega)⟩⟩

theorem L1.kept {lo : Nat} {w w' : World} {v : Value} {xs : List Int} (h : L1 lo w v xs) (hb : Below w.heap.size w w') : L1 lo w' v xs := h.below hb

set_option maxHeartbeats 400000 in
theorem szComplex_any (p : Int) (dv mv : Value) (ds : List Int) (ms : List (List (List Int))) (left : Int) (w : World) (hd : L1 0 w dv ds) (hm : L3 0 w mv ms) (h0 : 0 ≤ left) (h1 : left ≤ 1048576)
    (hdl : ds.length ≤ 9223372036854775807) (hml : Bd3 9223372036854775807 ms) :
    Calls Try.prog 46 #[.agg #[.int .i64 p, dv, mv], .int .i64 left] w (SzB left (Bd1 1048576 ds ∧ Bd3 1048576 ms) w) := by
  have HML := Lib.hid hml
  have HD := Lib.hid hd
  have HM := Lib.hid hm
  clear hml hd hm
  go_enter Try.func46, Try.ntmps46
  go_wp2_with fail
  have hb1 : Below w.heap.size w (w.alloc (.cells #[.int .i64 p, dv, mv] 25)) := (Below.refl _ _).alloc (Nat.le_refl _) _
  refine (sz1_any (lo := 0) dv ds left _ (HD.out.below hb1) h0 h1 hdl).mono ?_
  rintro e w' ⟨r, rfl, rfl, hpost⟩
  rcases hpost with rfl | ⟨hp0, hp1, hp2⟩
  · go_wp2
    go_ret
    exact ⟨_, rfl, hb1, Or.inl rfl⟩
  · go_wp2_with fail
    refine (sz3_any (lo := 0) mv ms r _ (HM.out.below hb1) hp0 (by omega) HML.out).mono ?_
    rintro e w' ⟨r2, rfl, rfl, hpost⟩
    rcases hpost with rfl | ⟨hq0, hq1, hq2⟩
    · go_wp2
      go_ret
      exact ⟨_, rfl, hb1, Or.inl rfl⟩
    · go_wp2
      go_ret
      exact ⟨_, rfl, hb1, Or.inr ⟨hq0, by omega, hp2, hq2⟩⟩
end Go.Proofs.Ytpdkfidmmjlmnab

namespace Go.Proofs.Ytpdkfidmmjlmnab
open Go.RowKit

structure Fi (lo : Nat) (w : World) (dv mv lv : Value) (ds : List Int) (ms : List (List (List Int))) (ls : List (List Int)) : Prop where
  cx : Cx lo w dv mv ds ms
  lv : L2 lo w lv ls
theorem Fi.below {lo : Nat} {w w' : World} {dv mv lv : Value} {ds : List Int} {ms : List (List (List Int))} {ls : List (List Int)} (h : Fi lo w dv mv lv ds ms ls) (hb : Below w.heap.size w w') : Fi lo w' dv mv lv ds ms ls := ⟨h.cx.below hb, h.lv.below hb⟩
theorem Fi.zero {lo : Nat} {w : World} {dv mv lv : Value} {ds : List Int} {ms : List (List (List Int))} {ls : List (List Int)} (h : Fi lo w dv mv lv ds ms ls) : Fi 0 w dv mv lv ds ms ls := ⟨h.cx.zero, h.lv.lower (Nat.zero_le _)⟩
theorem Fi.drew {lo : Nat} {w : World} {dv mv lv : Value} {ds : List Int} {ms : List (List (List Int))} {ls : List (List Int)} (h : Fi lo w dv mv lv ds ms ls) : Fi lo w.drew dv mv lv ds ms ls := h.below (Below.refl _ _).drew
theorem Fi.shapes {lo : Nat} {w : World} {dv mv lv : Value} {ds : List Int} {ms : List (List (List Int))} {ls : List (List Int)} (h : Fi lo w dv mv lv ds ms ls) : (∃ a c, dv = .slice a ds.length c) ∧ (∃ a c, mv = .slice a ms.length c) ∧ ∃ a c, lv = .slice a ls.length c := ⟨h.cx.shapes.1, h.cx.shapes.2, Sl.shape h.lv⟩

/-- What stands in the box of a filtered complex, in whatever later world. -/
structure Fx (w wr : World) (b : Nat) (p : Int) (dv mv lv : Value) (ds : List Int) (ms : List (List (List Int))) (ls : List (List Int)) : Prop where
  below : Below w.heap.size w wr
  c0 : wr.cell? ⟨b, 0, none⟩ = some (.int .i64 p)
  c1 : wr.cell? ⟨b, 1, none⟩ = some dv
  c2 : wr.cell? ⟨b, 2, none⟩ = some mv
  c3 : wr.cell? ⟨b, 3, none⟩ = some lv
  lt : b < wr.heap.size
  fi : Fi 0 wr dv mv lv ds ms ls
theorem Fx.next {w wr w' : World} {b : Nat} {p : Int} {dv mv lv : Value} {ds : List Int} {ms : List (List (List Int))} {ls : List (List Int)} (h : Fx w wr b p dv mv lv ds ms ls) (hb : Below wr.heap.size wr w') : Fx w w' b p dv mv lv ds ms ls :=
  ⟨h.below.trans (hb.mono h.below.size), later hb (Nat.le_refl _) h.c0, later hb (Nat.le_refl _) h.c1, later hb (Nat.le_refl _) h.c2, later hb (Nat.le_refl _) h.c3, Nat.lt_of_lt_of_le h.lt hb.size, h.fi.below hb⟩
theorem Fx.start {w : World} {p : Int} {dv mv lv : Value} {ds : List Int} {ms : List (List (List Int))} {ls : List (List Int)} (t : TypeId) (h : Fi 0 w dv mv lv ds ms ls) : Fx w (w.alloc (.cells #[.int .i64 p, dv, mv, lv] t)) w.heap.size p dv mv lv ds ms ls :=
  ⟨(Below.refl _ _).alloc (Nat.le_refl _) _, by simp, by simp, by simp, by simp, by simp, h.below ((Below.refl _ _).alloc (Nat.le_refl _) _)⟩

set_option maxHeartbeats 800000 in
theorem szFiltered_any (p : Int) (dv mv lv : Value) (ds : List Int) (ms : List (List (List Int))) (ls : List (List Int)) (left : Int) (w : World) (h : Fi 0 w dv mv lv ds ms ls) (h0 : 0 ≤ left) (h1 : left ≤ 1048576)
    (hdl : ds.length ≤ 9223372036854775807) (hml : Bd3 9223372036854775807 ms) (hll : Bd2 9223372036854775807 ls) :
    Calls Try.prog 21 #[.agg #[.int .i64 p, dv, mv, lv], .int .i64 left] w (SzB left (ds.length ≤ 1048576 ∧ Bd3 1048576 ms ∧ Bd2 1048576 ls) w) := by
  have HML := Lib.hid hml
  have HLL := Lib.hid hll
  have HX0 := Lib.hid (Fx.start (p := p) 28 h)
  clear hml hll h
  go_enter Try.func21, Try.ntmps21
  go_wp2_with fail
  refine (szComplex_any p dv mv ds ms left _ HX0.out.fi.cx.dims HX0.out.fi.cx.maps h0 h1 hdl HML.out).mono ?_
  rintro e w' ⟨r, rfl, hb1, hpost⟩
  have HX1 := Lib.hid (HX0.out.next hb1)
  clear hb1 HX0
  have c3 := HX1.out.c3
  rcases hpost with rfl | ⟨hp0, hp1, hp2⟩
  · go_wp2
    go_ret
    exact ⟨_, rfl, HX1.out.below, Or.inl rfl⟩
  · have HP2 := Lib.hid hp2
    clear hp2
    go_wp2_with fail
    refine (sz2_any (lo := 0) lv ls r _ HX1.out.fi.lv hp0 (by omega) HLL.out).mono ?_
    rintro e w' ⟨r2, rfl, rfl, hpost⟩
    rcases hpost with rfl | ⟨hq0, hq1, hq2⟩
    · go_wp2
      go_ret
      exact ⟨_, rfl, HX1.out.below, Or.inl rfl⟩
    · have HQ2 := Lib.hid hq2
      clear hq2
      go_wp2
      go_ret
      exact ⟨_, rfl, HX1.out.below, Or.inr ⟨hq0, by omega, HP2.out.1, HP2.out.2, HQ2.out⟩⟩

def ToF (p : Int) (ds : List Int) (ms : List (List (List Int))) (ls : List (List Int)) (w : World) (e : Ending) (w' : World) : Prop :=
  ∃ dv mv lv, e = .returned (.agg #[.int .i64 p, dv, mv, lv]) ∧ Fi w.heap.size w' dv mv lv ds ms ls ∧ Below w.heap.size w w'

set_option maxHeartbeats 1600000 in
theorem toFiltered_any (p : Int) (dv mv lv : Value) (ds : List Int) (ms : List (List (List Int))) (ls : List (List Int)) (w : World) (h : Fi 0 w dv mv lv ds ms ls) (hd : ds.length ≤ 1048576) (hm : Bd3 1048576 ms) (hl : Bd2 1048576 ls) :
    Calls Try.prog 23 #[.agg #[.int .i64 p, dv, mv, lv]] w (ToF p ds ms ls w) := by
  have HM := Lib.hid hm
  have HL := Lib.hid hl
  have H := Lib.hid h
  clear hm hl h
  have hres : Try.f23.results = #[.cell 2 33] := by kernel_rfl
  have HRES := Lib.hid hres
  clear hres
  go_enter Try.func23, Try.ntmps23
  go_wp2_with fail
  have hb0 : Below w.heap.size w (((w.alloc (.cells #[.int .i64 p, dv, mv, lv] 28)).alloc (.cells #[.int .i64 0, .slice none 0 0, .slice none 0 0, .slice none 0 0] 33)).alloc (.cells #[.int .i64 0, .slice none 0 0, .slice none 0 0, .slice none 0 0] 33)) :=
    (((Below.refl _ _).alloc (Nat.le_refl _) _).alloc (by simp) _).alloc (by simp; omega) _
  have HB0 := Lib.hid hb0
  clear hb0
  refine (toComplex_any p dv mv ds ms _ (H.out.cx.below HB0.out) hd HM.out).mono ?_
  rintro e w1 ⟨dv1, mv1, rfl, hcx1, hb1⟩
  obtain ⟨⟨ad1, cap1, rfl⟩, ⟨am1, capm1, rfl⟩⟩ := hcx1.shapes
  have hz : w.heap.size + 3 ≤ w1.heap.size := by have := hb1.size; simp at this; omega
  obtain ⟨hc, hf⟩ := bcell hb1
  have HR1 := Lib.hid hcx1
  have HB1 := Lib.hid hb1
  clear hcx1 hb1
  have hz1b : w.heap.size + 1 < w1.heap.size := by omega
  have hz1 : w.heap.size + 1 + 1 < w1.heap.size := by omega
  clear hc hf
  have hc' : (∀ b o, b < w.heap.size + 3 → w1.cell? ⟨b, o, none⟩ = (((w.alloc (.cells #[.int .i64 p, dv, mv, lv] 28)).alloc (.cells #[.int .i64 0, .slice none 0 0, .slice none 0 0, .slice none 0 0] 33)).alloc (.cells #[.int .i64 0, .slice none 0 0, .slice none 0 0, .slice none 0 0] 33)).cell? ⟨b, o, none⟩) := fun b o h => (bcell HB1.out).1 b o (by simp; omega)
  have hf' : (∀ b o, b < w.heap.size + 3 → w1.frozen? ⟨b, o, none⟩ = (((w.alloc (.cells #[.int .i64 p, dv, mv, lv] 28)).alloc (.cells #[.int .i64 0, .slice none 0 0, .slice none 0 0, .slice none 0 0] 33)).alloc (.cells #[.int .i64 0, .slice none 0 0, .slice none 0 0, .slice none 0 0] 33)).frozen? ⟨b, o, none⟩) := fun b o h => (bcell HB1.out).2 b o (by simp; omega)
  have a0 : w1.cell? ⟨w.heap.size, 3, none⟩ = some lv := by rw [hc' _ _ (by omega)]; go_simp
  have b0 : w1.cell? ⟨w.heap.size + 1 + 1, 0, none⟩ = some (.int .i64 0) := by rw [hc' _ _ (by omega)]; go_simp
  have b1 : w1.cell? ⟨w.heap.size + 1 + 1, 1, none⟩ = some (.slice none 0 0) := by rw [hc' _ _ (by omega)]; go_simp
  have b2 : w1.cell? ⟨w.heap.size + 1 + 1, 2, none⟩ = some (.slice none 0 0) := by rw [hc' _ _ (by omega)]; go_simp
  have b3 : w1.cell? ⟨w.heap.size + 1 + 1, 3, none⟩ = some (.slice none 0 0) := by rw [hc' _ _ (by omega)]; go_simp
  have e0 : w1.cell? ⟨w.heap.size + 1, 0, none⟩ = some (.int .i64 0) := by rw [hc' _ _ (by omega)]; go_simp
  have e1 : w1.cell? ⟨w.heap.size + 1, 1, none⟩ = some (.slice none 0 0) := by rw [hc' _ _ (by omega)]; go_simp
  have e2 : w1.cell? ⟨w.heap.size + 1, 2, none⟩ = some (.slice none 0 0) := by rw [hc' _ _ (by omega)]; go_simp
  have e3 : w1.cell? ⟨w.heap.size + 1, 3, none⟩ = some (.slice none 0 0) := by rw [hc' _ _ (by omega)]; go_simp
  have f0 : ∀ o, w1.frozen? ⟨w.heap.size + 1 + 1, o, none⟩ = false := fun o => by rw [hf' _ _ (by omega)]; go_simp
  have f1 : ∀ o, w1.frozen? ⟨w.heap.size + 1, o, none⟩ = false := fun o => by rw [hf' _ _ (by omega)]; go_simp
  have HBW := Lib.hid (HB0.out.trans (HB1.out.mono (by simp; omega)))
  clear hc' hf'
  go_wp2_with fail
  generalize hw2 : ((w1.setCell ⟨w.heap.size + 1 + 1, 0, none⟩ (.int .i64 p)).setCell ⟨w.heap.size + 1 + 1, 1, none⟩ (.slice ad1 ds.length cap1)).setCell ⟨w.heap.size + 1 + 1, 2, none⟩ (.slice am1 ms.length capm1) = w2
  have hs2 : w2.heap.size = w1.heap.size := by rw [← hw2]; simp [World.setCell]
  have hk2 : Keep (w.heap.size + 1 + 1 + 1) w1 w2 := by rw [← hw2]; exact ((Keep.set _ (by omega)).trans (Keep.set _ (by omega))).trans (Keep.set _ (by omega))
  have hbw2 : Below w.heap.size w w2 := by rw [← hw2]; exact (((HBW.out).setCell (by show w.heap.size ≤ w.heap.size + 1 + 1; omega) _).setCell (by show w.heap.size ≤ w.heap.size + 1 + 1; omega) _).setCell (by show w.heap.size ≤ w.heap.size + 1 + 1; omega) _
  have HCX2 : Hid (Cx (w.heap.size + 1 + 1 + 1) w2 (.slice ad1 ds.length cap1) (.slice am1 ms.length capm1) ds ms) := Lib.hid (by
    have h := HR1.out.lower (lo' := w.heap.size + 1 + 1 + 1) (by simp)
    exact ⟨stable1 _ _ _ _ _ hk2 h.dims, stable3 _ _ _ _ _ hk2 h.maps⟩)
  have HBW2 := Lib.hid hbw2
  have g0 : w2.cell? ⟨w.heap.size + 1 + 1, 0, none⟩ = some (.int .i64 p) := by subst hw2; go_simp
  have g1 : w2.cell? ⟨w.heap.size + 1 + 1, 1, none⟩ = some (.slice ad1 ds.length cap1) := by subst hw2; go_simp
  have g2 : w2.cell? ⟨w.heap.size + 1 + 1, 2, none⟩ = some (.slice am1 ms.length capm1) := by subst hw2; go_simp
  have g3 : w2.cell? ⟨w.heap.size + 1 + 1, 3, none⟩ = some (.slice none 0 0) := by subst hw2; go_simp
  have q0 : w2.cell? ⟨w.heap.size + 1, 0, none⟩ = some (.int .i64 0) := by subst hw2; go_simp
  have q1 : w2.cell? ⟨w.heap.size + 1, 1, none⟩ = some (.slice none 0 0) := by subst hw2; go_simp
  have q2 : w2.cell? ⟨w.heap.size + 1, 2, none⟩ = some (.slice none 0 0) := by subst hw2; go_simp
  have q3 : w2.cell? ⟨w.heap.size + 1, 3, none⟩ = some (.slice none 0 0) := by subst hw2; go_simp
  have p0 : ∀ o, w2.frozen? ⟨w.heap.size + 1 + 1, o, none⟩ = false := fun o => by subst hw2; go_simp
  have p1 : ∀ o, w2.frozen? ⟨w.heap.size + 1, o, none⟩ = false := fun o => by subst hw2; go_simp
  clear hw2 hk2 hbw2 a0 b0 b1 b2 b3 e0 e1 e2 e3 f0 f1 HB1 HR1 hz1b
  refine (to2_any lv ls _ (H.out.lv.below HBW2.out) HL.out).mono ?_
  rintro e w3 ⟨u3, rfl, hr3, hb3⟩
  obtain ⟨ad3, cap3, rfl⟩ := Sl.shape hr3
  have hz3 : w2.heap.size ≤ w3.heap.size := hb3.size
  have hzB : w.heap.size + 1 + 1 < w3.heap.size := by omega
  have hzC : w.heap.size + 1 < w3.heap.size := by omega
  have HCX3 := Lib.hid (HCX2.out.below hb3)
  have HB3 := Lib.hid (HBW2.out.trans (hb3.mono HBW2.out.size))
  have HR3 := Lib.hid (hr3.lower (lo' := w.heap.size + 1 + 1 + 1) (by omega))
  have g0 := later hb3 (Nat.le_refl _) g0
  have g1 := later hb3 (Nat.le_refl _) g1
  have g2 := later hb3 (Nat.le_refl _) g2
  have g3 := later hb3 (Nat.le_refl _) g3
  have q0 := later hb3 (Nat.le_refl _) q0
  have q1 := later hb3 (Nat.le_refl _) q1
  have q2 := later hb3 (Nat.le_refl _) q2
  have q3 := later hb3 (Nat.le_refl _) q3
  have p0 : ∀ o, w3.frozen? ⟨w.heap.size + 1 + 1, o, none⟩ = false := fun o => by rw [(bcell hb3).2 _ _ (by omega)]; exact p0 o
  have p1 : ∀ o, w3.frozen? ⟨w.heap.size + 1, o, none⟩ = false := fun o => by rw [(bcell hb3).2 _ _ (by omega)]; exact p1 o
  clear hr3 hb3 HCX2 HBW2
  go_wp2
  refine bodyPost_ret (v := .agg #[.int .i64 p, .slice ad1 ds.length cap1, .slice am1 ms.length capm1, .slice ad3 ls.length cap3]) ?_ rfl ?_
  · simp only [results, HRES.out]
    go_simp
  · have hk : ∀ u v0 v1 v2 v3, Keep (w.heap.size + 1 + 1 + 1) w3 (((((w3.setCell ⟨w.heap.size + 1 + 1, 3, none⟩ u).setCell ⟨w.heap.size + 1, 0, none⟩ v0).setCell ⟨w.heap.size + 1, 1, none⟩ v1).setCell ⟨w.heap.size + 1, 2, none⟩ v2).setCell ⟨w.heap.size + 1, 3, none⟩ v3) := fun u v0 v1 v2 v3 =>
      ((((Keep.set _ (by omega)).trans (Keep.set _ (by omega))).trans (Keep.set _ (by omega))).trans (Keep.set _ (by omega))).trans (Keep.set _ (by omega))
    refine ⟨_, _, _, rfl, ⟨⟨?_, ?_⟩, ?_⟩, ?_⟩
    · exact (stable1 _ _ _ _ _ (hk _ _ _ _ _) HCX3.out.dims).lower (by omega)
    · exact (stable3 _ _ _ _ _ (hk _ _ _ _ _) HCX3.out.maps).lower (by omega)
    · exact (stable2 _ _ _ _ _ (hk _ _ _ _ _) HR3.out).lower (by omega)
    · exact (((((HB3.out).setCell (by show w.heap.size ≤ w.heap.size + 1 + 1; omega) _).setCell (by show w.heap.size ≤ w.heap.size + 1; omega) _).setCell (by show w.heap.size ≤ w.heap.size + 1; omega) _).setCell (by show w.heap.size ≤ w.heap.size + 1; omega) _).setCell (by show w.heap.size ≤ w.heap.size + 1; omega) _

set_option maxHeartbeats 800000 in
theorem eqFiltered_true (p : Int) (dv mv lv dv2 mv2 lv2 : Value) (ds : List Int) (ms : List (List (List Int))) (ls : List (List Int)) (w : World) (h : Fi 0 w dv mv lv ds ms ls) (h2 : Fi 0 w dv2 mv2 lv2 ds ms ls) (hd : ds.length ≤ 1048576) (hm : Bd3 1048576 ms) (hl : Bd2 1048576 ls) :
    Calls Try.prog 25 #[.agg #[.int .i64 p, dv, mv, lv], .agg #[.int .i64 p, dv2, mv2, lv2]] w (BR (.bool true) w) := by
  have HM := Lib.hid hm
  have HL := Lib.hid hl
  have hb0 : Below w.heap.size w ((w.alloc (.cells #[.int .i64 p, dv, mv, lv] 33)).alloc (.cells #[.int .i64 p, dv2, mv2, lv2] 33)) :=
    ((Below.refl _ _).alloc (Nat.le_refl _) _).alloc (by simp) _
  have HB0 := Lib.hid hb0
  have H := Lib.hid (h.below hb0)
  have H2 := Lib.hid (h2.below hb0)
  clear hm hl h h2 hb0
  go_enter Try.func25, Try.ntmps25
  go_wp2_with fail
  generalize hW : ((w.alloc (.cells #[.int .i64 p, dv, mv, lv] 33)).alloc (.cells #[.int .i64 p, dv2, mv2, lv2] 33)) = W at *
  have d3 : W.cell? ⟨w.heap.size, 3, none⟩ = some lv := by subst hW; go_simp
  have d7 : W.cell? ⟨w.heap.size + 1, 3, none⟩ = some lv2 := by subst hW; go_simp
  clear hW
  refine (eqComplex_true p dv mv dv2 mv2 ds ms _ H.out.cx H2.out.cx hd HM.out).mono ?_
  rintro e w' ⟨rfl, hb1⟩
  have d3 := later hb1 (Nat.le_refl _) d3
  have d7 := later hb1 (Nat.le_refl _) d7
  have HB1 := Lib.hid (HB0.out.trans (hb1.mono HB0.out.size))
  have HX := Lib.hid (H.out.lv.below hb1)
  have HX2 := Lib.hid (H2.out.lv.below hb1)
  clear hb1
  go_wp2_with fail
  have h1 := eq2_any lv lv2 ls ls _ HX.out HX2.out HL.out HL.out
  rw [decide_eq_true rfl] at h1
  refine h1.mono ?_
  clear h1
  rintro e w' ⟨rfl, m2, rfl⟩
  go_wp2
  go_ret
  exact ⟨rfl, HB1.out.trans ((drewN_below _ m2).mono HB1.out.size)⟩
end Go.Proofs.Ytpdkfidmmjlmnab

namespace Go.Proofs.Ytpdkfidmmjlmnab
open Go.RowKit

/-- A list of levels, one for each of d basis vectors. -/
def LvOk (d : Int) (l : List Int) : Prop := (l.length : Int) = d ∧ ∀ x ∈ l, 0 ≤ x ∧ x ≤ 5
/-- Numbers other than 0 stand at levels of at most q. -/
def BeRow (v l : List Int) (q : Int) : Prop := ∀ j (h : j < v.length), v[j] ≠ 0 → l.getD j 0 ≤ q
structure FilOk (ds : List Int) (ms : List (List (List Int))) (ls : List (List Int)) : Prop where
  len : ls.length = ds.length
  lvs : ∀ n, n < ls.length → LvOk (ds.getD n 0) (ls.getD n [])
  bel : ∀ k, k < ms.length → ∀ i, i < (ms.getD k []).length → BeRow ((ms.getD k []).getD i []) (ls.getD k []) ((ls.getD (k + 1) []).getD i 0)
def IsFil (p : Int) (ds : List Int) (ms : List (List (List Int))) (ls : List (List Int)) : Prop := IsCx p ds ms ∧ FilOk ds ms ls

set_option maxHeartbeats 800000 in
theorem isLevelList_any (d : Int) (v : Value) (xs : List Int) (w : World) (h : L1 0 w v xs) (hm : xs.length ≤ 1048576) :
    Calls Try.prog 90 #[v, .int .i64 d] w (BW (LvOk d xs) w) := by
  by_cases hl : (xs.length : Int) = d
  · refine Sl.cases h (fun ad cap hx hv => ?_) (fun b o cap hv _ hpos hc => ?_)
    · subst hx hv
      subst hl
      go_enter Try.func90, Try.ntmps90
      go_wp2
      refine wp_loop_rounds 1 ?_
      rw [rounds_succ]
      go_wp2
      go_ret
      exact bw_true ⟨rfl, by simp⟩
    · subst hv
      subst hl
      clear h
      have HC := Lib.hid hc
      clear hc
      go_enter Try.func90, Try.ntmps90
      go_wp2
      go_loop [6, 13] (fun _ i => ∃ (k : Nat), k ≤ xs.length ∧ i = .int .i64 k ∧ Hid (∀ j (h1 : j < xs.length), j < k → 0 ≤ xs[j] ∧ xs[j] ≤ 5)) (fun _ i => xs.length - (intOf i).toNat)
      case atStart => exact ⟨0, Nat.zero_le _, rfl, Lib.hid (fun _ _ h => absurd h (Nat.not_lt_zero _))⟩
      case round =>
        obtain ⟨k, hk, rfl, HD⟩ := hrel
        by_cases hlt2 : k < xs.length
        · obtain ⟨u, hu, hr⟩ := HC.out k hlt2
          obtain ⟨x, hx⟩ : ∃ x, x = xs[k] := ⟨_, rfl⟩
          rw [hr, ← hx] at hu
          have HX := Lib.hid hx
          clear hx hr
          by_cases hxy : 0 ≤ x ∧ x ≤ 5
          · have HXY := Lib.hid hxy
            clear hxy
            go_wp2_with fail
            refine (in_yes HXY.out _).mono ?_
            rintro e w' ⟨rfl, rfl⟩
            go_wp2
            go_round
            case rel => exact ⟨k + 1, by omega, by go_num, Lib.hid (fun j h1 hjk => by
              by_cases e : j = k
              · subst e; rw [← HX.out]; exact HXY.out
              · exact HD.out j h1 (by omega))⟩
            case measure => simp [intOf]; omega
          · have HXY := Lib.hid hxy
            clear hxy
            go_wp2_with fail
            refine (in_no HXY.out _).mono ?_
            rintro e w' ⟨rfl, rfl⟩
            go_wp2
            go_ret
            exact bw_false (fun h => HXY.out (by rw [HX.out]; exact h.2 _ (List.getElem_mem hlt2)))
        · go_wp2
          go_ret
          exact bw_true ⟨rfl, all_of_lt (fun j hj => HD.out j hj (by omega))⟩
  · obtain ⟨ad, cap, rfl⟩ := Sl.shape h
    clear h
    have hq : ((xs.length : Int) != d) = true := by simp [hl]
    have hq2 : ((xs.length : Int) == d) = false := by simp [hl]
    have HL := Lib.hid hl
    clear hl
    go_enter Try.func90, Try.ntmps90
    go_wp2
    go_ret
    exact bw_false (fun h => HL.out h.1)

set_option maxHeartbeats 800000 in
theorem isBelow_any (q : Int) (v v2 : Value) (xs ys : List Int) (w : World) (h : L1 0 w v xs) (h2 : L1 0 w v2 ys) (hm : xs.length ≤ 1048576) (hl : xs.length ≤ ys.length) :
    Calls Try.prog 91 #[v, v2, .int .i64 q] w (BW (BeRow xs ys q) w) := by
  refine Sl.cases h (fun ad cap hx hv => ?_) (fun b o cap hv _ hpos hc => ?_)
  · subst hx hv
    go_enter Try.func91, Try.ntmps91
    go_wp2
    refine wp_loop_rounds 1 ?_
    rw [rounds_succ]
    go_wp2
    go_ret
    exact bw_true (fun j h => absurd h (Nat.not_lt_zero _))
  · refine Sl.cases h2 (fun ad cap hx hv => absurd hl (by rw [hx]; show ¬ xs.length ≤ 0; omega)) (fun b2 o2 cap2 hv2 _ hpos2 hc2 => ?_)
    subst hv hv2
    clear h h2
    have HC := Lib.hid hc
    have HC2 := Lib.hid hc2
    clear hc hc2
    go_enter Try.func91, Try.ntmps91
    go_wp2
    go_loop [7, 8, 11] (fun _ _ i => ∃ (k : Nat), k ≤ xs.length ∧ i = .int .i64 k ∧ Hid (∀ j (h1 : j < xs.length), j < k → xs[j] ≠ 0 → ys.getD j 0 ≤ q)) (fun _ _ i => xs.length - (intOf i).toNat)
    case atStart => exact ⟨0, Nat.zero_le _, rfl, Lib.hid (fun _ _ h => absurd h (Nat.not_lt_zero _))⟩
    case round =>
      obtain ⟨k, hk, rfl, HD⟩ := hrel
      by_cases hlt2 : k < xs.length
      · have hlt3 : k < ys.length := by omega
        obtain ⟨u, hu, hr⟩ := HC.out k hlt2
        obtain ⟨u2, hu2, hr2⟩ := HC2.out k hlt3
        obtain ⟨x, hx⟩ : ∃ x, x = xs[k] := ⟨_, rfl⟩
        obtain ⟨y, hy⟩ : ∃ y, y = ys[k] := ⟨_, rfl⟩
        rw [hr, ← hx] at hu
        rw [hr2, ← hy] at hu2
        have HX := Lib.hid hx
        have HY : Hid (ys.getD k 0 = y) := Lib.hid (by rw [getD_of_lt _ hlt3, hy])
        clear hx hy hr hr2
        by_cases hx0 : x = 0
        · subst hx0
          go_wp2
          go_round
          case rel => exact ⟨k + 1, by omega, by go_num, Lib.hid (fun j h1 hjk => by
            by_cases e : j = k
            · subst e; exact fun hn => absurd HX.out.symm hn
            · exact HD.out j h1 (by omega))⟩
          case measure => simp [intOf]; omega
        · have hq1 : (x != 0) = true := by simp [hx0]
          have hq2 : (x == 0) = false := by simp [hx0]
          have HX0 := Lib.hid hx0
          clear hx0
          by_cases hyq : q < y
          · have hdq : decide (q < y) = true := by simp [hyq]
            have HYQ := Lib.hid hyq
            clear hyq
            go_wp2
            go_ret
            exact bw_false (fun h => absurd (h k hlt2 (by rw [← HX.out]; exact HX0.out)) (by rw [HY.out]; have := HYQ.out; omega))
          · have hdq : decide (q < y) = false := by simp; omega
            have HYQ := Lib.hid hyq
            clear hyq
            go_wp2
            go_round
            case rel => exact ⟨k + 1, by omega, by go_num, Lib.hid (fun j h1 hjk => by
              by_cases e : j = k
              · subst e; intro _; rw [HY.out]; have := HYQ.out; omega
              · exact HD.out j h1 (by omega))⟩
            case measure => simp [intOf]; omega
      · go_wp2
        go_ret
        exact bw_true (fun j hj => HD.out j hj (by omega))

set_option maxHeartbeats 3200000 in
set_option maxRecDepth 100000 in
theorem isFiltered_any (p : Int) (dv mv lv : Value) (ds : List Int) (ms : List (List (List Int))) (ls : List (List Int)) (w : World) (h : Fi 0 w dv mv lv ds ms ls) (hd : ds.length ≤ 1048576) (hm : Bd3 1048576 ms) (hl : Bd2 1048576 ls) :
    Calls Try.prog 24 #[.agg #[.int .i64 p, dv, mv, lv]] w (BB (IsFil p ds ms ls) w) := by
  have hml : ms.length ≤ 1048576 := hm.1
  have hll : ls.length ≤ 1048576 := hl.1
  have HM := Lib.hid hm
  have HLB := Lib.hid hl
  obtain ⟨⟨ad, cap, hdv⟩, ⟨am, capm, hmv⟩, ⟨al, capl, hlv⟩⟩ := h.shapes
  subst hdv hmv hlv
  have HX0 := Lib.hid (Fx.start (p := p) 33 h)
  clear hm hl h
  go_enter Try.func24, Try.ntmps24
  go_wp2_with fail
  refine (isComplex_any p _ _ ds ms _ HX0.out.fi.cx hd HM.out).mono ?_
  rintro e w1 ⟨bb, rfl, hb1, hbb⟩
  have HX1 := Lib.hid (HX0.out.next hb1)
  have HBB := Lib.hid hbb
  clear hb1 hbb HX0
  have c0 := HX1.out.c0
  have c1 := HX1.out.c1
  have c2 := HX1.out.c2
  have c3 := HX1.out.c3
  cases bb with
  | false =>
    go_wp2
    go_ret
    exact bb_false HX1.out.below (fun hh => absurd (HBB.out.2 hh.1) (by simp))
  | true =>
    have HCX : Hid (IsCx p ds ms) := Lib.hid (HBB.out.1 (by simp))
    clear HBB
    by_cases hlen : (ls.length : Int) = (ds.length : Int)
    · have hq1 : ((ls.length : Int) != (ds.length : Int)) = false := by rw [hlen]; simp
      have hq2 : ((ls.length : Int) == (ds.length : Int)) = true := by rw [hlen]; simp
      have hdsl : ds.length ≤ 6 := HCX.out.1.len1
      have hds0 : 1 ≤ ds.length := HCX.out.1.len0
      have HLSD : Hid (ls.length = ds.length) := Lib.hid (by omega)
      have hmsd : ms.length + 1 = ds.length := HCX.out.1.mlen
      clear hlen
      go_wp2
      go_loop [3, 4, 26] (fun _ _ i => ∃ (k : Nat), k ≤ ls.length ∧ i = .int .i64 k ∧ Hid (∀ n, n < ls.length → n < k → LvOk (ds.getD n 0) (ls.getD n []))) (fun _ _ i => ls.length - (intOf i).toNat)
      case atStart => exact ⟨0, Nat.zero_le _, rfl, Lib.hid (fun _ _ h => absurd h (Nat.not_lt_zero _))⟩
      case round =>
        obtain ⟨k, hk, rfl, HD⟩ := hrel
        by_cases hlt : k < ls.length
        · have hltd : k < ds.length := by have := HLSD.out; omega
          refine Sl.cases HX1.out.fi.cx.dims (fun _ _ hx _ => absurd hltd (by simp [hx])) (fun bd od capd hv _ hposd hcld => ?_)
          injection hv with e1 _ e3
          subst e1 e3
          refine Sl.cases HX1.out.fi.lv (fun _ _ hx _ => absurd hlt (by simp [hx])) (fun bl ol capl2 hv _ hposl hcll => ?_)
          injection hv with e1 _ e3
          subst e1 e3
          obtain ⟨u, hu, hr⟩ := hcld k hltd
          obtain ⟨u2, hu2, hr2⟩ := hcll k hlt
          obtain ⟨x, hx⟩ : ∃ x, x = ds[k] := ⟨_, rfl⟩
          rw [hr, ← hx] at hu
          have HE := Lib.hid (isLevelList_any x u2 ls[k] w1 hr2 (HLB.out.2 _ (List.getElem_mem hlt)))
          have HT : Hid (LvOk (ds.getD k 0) (ls.getD k []) ↔ LvOk x ls[k]) := Lib.hid (by rw [getD_of_lt _ hltd, getD_of_lt _ hlt, hx])
          clear hx hr hr2 hcld hcll
          by_cases ht : LvOk x ls[k]
          · have HEY := Lib.hid (bw_yes HE.out ht)
            have HTY := Lib.hid ht
            clear ht HE
            go_wp2_with fail
            refine HEY.out.mono ?_
            rintro e w' ⟨rfl, rfl⟩
            go_wp2
            go_round
            case rel => exact ⟨k + 1, by omega, by go_num, Lib.hid (fun j h1 hjk => by
              by_cases e : j = k
              · subst e; exact HT.out.2 HTY.out
              · exact HD.out j h1 (by omega))⟩
            case measure => simp [intOf]; omega
          · have HEY := Lib.hid (bw_no HE.out ht)
            have HTY := Lib.hid ht
            clear ht HE
            go_wp2_with fail
            refine HEY.out.mono ?_
            rintro e w' ⟨rfl, rfl⟩
            go_wp2
            go_ret
            exact bb_false HX1.out.below (fun h => HTY.out (HT.out.1 (h.2.lvs k hlt)))
        · have HLV : Hid (∀ n, n < ls.length → LvOk (ds.getD n 0) (ls.getD n [])) := Lib.hid (fun n hn => HD.out n hn (by omega))
          clear HD
          go_wp2
          clear c0 c1 c2 c3
          go_loopw [5, 6, 7, 8, 45, 52] (fun _ _ _ _ i _ wr => ∃ (k m : Nat), k ≤ ms.length ∧ i = .int .i64 k ∧ wr = w1.drewN m ∧ Hid (∀ j, j < ms.length → j < k → ∀ i, i < (ms.getD j []).length → BeRow ((ms.getD j []).getD i []) (ls.getD j []) ((ls.getD (j + 1) []).getD i 0))) (fun _ _ _ _ i _ _ => ms.length - (intOf i).toNat)
          case atStart => exact ⟨0, 0, Nat.zero_le _, rfl, rfl, Lib.hid (fun _ _ h => absurd h (Nat.not_lt_zero _))⟩
          case round =>
            obtain ⟨k, m, hk, rfl, hw, HD⟩ := hrel
            have HXR : Hid (Fx w wr w.heap.size p (.slice ad ds.length cap) (.slice am ms.length capm) (.slice al ls.length capl) ds ms ls) := Lib.hid (by rw [hw]; exact HX1.out.next (drewN_below _ m))
            have HW := Lib.hid hw
            clear hw
            have c0 := HXR.out.c0
            have c1 := HXR.out.c1
            have c2 := HXR.out.c2
            have c3 := HXR.out.c3
            by_cases hlt : k < ms.length
            · refine Sl.cases HXR.out.fi.cx.maps (fun _ _ hx _ => absurd hlt (by simp [hx])) (fun bm om capm2 hv _ hposm hclm => ?_)
              injection hv with e1 _ e3
              subst e1 e3
              have hl0 : k < ls.length := by have := HLSD.out; omega
              have hl1 : k + 1 < ls.length := by have := HLSD.out; omega
              refine Sl.cases HXR.out.fi.lv (fun _ _ hx _ => absurd hl0 (by simp [hx])) (fun bl ol capl2 hv _ hposl hcll => ?_)
              injection hv with e1 _ e3
              subst e1 e3
              obtain ⟨u, hu, hr⟩ := hclm k hlt
              obtain ⟨v0, hv0, hr0⟩ := hcll k hl0
              obtain ⟨v1, hv1, hr1⟩ := hcll (k + 1) hl1
              have htab := HCX.out.tab hlt
              have hlv0 := HLV.out k hl0
              have hlv1 := HLV.out (k + 1) hl1
              obtain ⟨t, ht⟩ : ∃ t, t = ms[k] := ⟨_, rfl⟩
              obtain ⟨l0, hl0e⟩ : ∃ t, t = ls[k] := ⟨_, rfl⟩
              obtain ⟨l1, hl1e⟩ : ∃ t, t = ls[k + 1] := ⟨_, rfl⟩
              rw [getD_of_lt _ hlt, ← ht] at htab
              rw [getD_of_lt _ hl0, ← hl0e] at hlv0
              rw [getD_of_lt _ hl1, ← hl1e] at hlv1
              have hbt : Bd2 1048576 t := by rw [ht]; exact HM.out.2 _ (List.getElem_mem hlt)
              have htl : t.length ≤ 1048576 := hbt.1
              have htl1 : t.length = l1.length := by have := htab.1; have := hlv1.1; omega
              have HTR : Hid (∀ j (hj : j < t.length), (t[j]).length = l0.length ∧ (t[j]).length ≤ 1048576) := Lib.hid (fun j hj => ⟨by have := (htab.2 _ (List.getElem_mem hj)).1; have := hlv0.1; omega, hbt.2 _ (List.getElem_mem hj)⟩)
              have HT : Hid (ms.getD k [] = t ∧ ls.getD k [] = l0 ∧ ls.getD (k + 1) [] = l1) := Lib.hid ⟨by rw [getD_of_lt _ hlt, ht], by rw [getD_of_lt _ hl0, hl0e], by rw [getD_of_lt _ hl1, hl1e]⟩
              have HR : Hid (L2 0 wr u t) := Lib.hid (by rw [ht]; exact hr)
              have HR0 : Hid (L1 0 wr v0 l0) := Lib.hid (by rw [hl0e]; exact hr0)
              have HR1 : Hid (L1 0 wr v1 l1) := Lib.hid (by rw [hl1e]; exact hr1)
              have HV0 := Lib.hid hv0
              have HV1 := Lib.hid hv1
              have HNX : Hid ((∀ i, i < t.length → BeRow (t.getD i []) l0 (l1.getD i 0)) → ∀ j, j < ms.length → j < k + 1 → ∀ i, i < (ms.getD j []).length → BeRow ((ms.getD j []).getD i []) (ls.getD j []) ((ls.getD (j + 1) []).getD i 0)) := Lib.hid (fun hall j h1 hjk => by
                by_cases e : j = k
                · subst e; rw [HT.out.1, HT.out.2.1, HT.out.2.2]; exact hall
                · exact HD.out j h1 (by omega))
              have HNOT : Hid (∀ i, i < t.length → ¬ BeRow (t.getD i []) l0 (l1.getD i 0) → ¬ IsFil p ds ms ls) := Lib.hid (fun i hi hne hf => hne (by
                have := hf.2.bel k hlt i (by rw [HT.out.1]; exact hi)
                rwa [HT.out.1, HT.out.2.1, HT.out.2.2] at this))
              clear hr hr0 hr1 hcll hclm ht hl0e hl1e hbt htab hlv0 hlv1 HD HT hv0 hv1
              have hk5 : k < 6 := by omega
              have hw1 : IntKind.i64.wrap ((k : Int) + 1) = (k : Int) + 1 := IntWalk.i64_in _ (by omega)
              have hq3 : (0 : Int) ≤ (k : Int) + 1 := by omega
              have hq4 : (k : Int) + 1 < (ls.length : Int) := by omega
              have hq5 : ((k : Int) + 1).toNat = k + 1 := by omega
              have hq6 : (k : Int) < (ls.length : Int) := by omega
              refine Sl.cases HR.out (fun adt capt hx hv => ?_) (fun bt ot capt hv _ hpost hct => ?_)
              · subst hv
                have HXT := Lib.hid hx
                clear hx htl1 htl
                go_wp2
                refine wp_loop_rounds 1 ?_
                rw [rounds_succ]
                go_wp2
                go_roundw
                case rel => exact ⟨k + 1, m, by omega, by go_num, HW.out, Lib.hid (HNX.out (fun i hi => absurd hi (by rw [HXT.out]; exact Nat.not_lt_zero _)))⟩
                case measure => simp [intOf]; omega
              · subst hv
                refine Sl.cases HR1.out (fun _ _ hx _ => absurd htl1 (by rw [hx]; show ¬ t.length = 0; omega)) (fun b1 o1 cap1 hv _ hpos1 hc1 => ?_)
                subst hv
                have HCT := Lib.hid hct
                have HC1 := Lib.hid hc1
                have HTL1 := Lib.hid htl1
                clear hct hc1 htl1
                go_wp2
                clear c0 c1 c2 c3
                generalize wr = wo at *
                go_loopw [7, 8, 52] (fun _ _ i wi => ∃ (j mi : Nat), j ≤ t.length ∧ i = .int .i64 j ∧ wi = wo.drewN mi ∧ Hid (∀ i, i < t.length → i < j → BeRow (t.getD i []) l0 (l1.getD i 0))) (fun _ _ i _ => t.length - (intOf i).toNat)
                case atStart => exact ⟨0, 0, Nat.zero_le _, rfl, rfl, Lib.hid (fun _ _ h => absurd h (Nat.not_lt_zero _))⟩
                case round =>
                  obtain ⟨j, mi, hj, rfl, hwi, HJ⟩ := hrel
                  have HXI : Hid (Fx w wr w.heap.size p (.slice ad ds.length cap) (.slice (some ⟨bm, om, none⟩) ms.length capm) (.slice (some ⟨bl, ol, none⟩) ls.length capl) ds ms ls) := Lib.hid (by rw [hwi]; exact HXR.out.next (drewN_below _ mi))
                  have HBI : Hid (Below wo.heap.size wo wr) := Lib.hid (by rw [hwi]; exact drewN_below _ mi)
                  have HWI := Lib.hid hwi
                  clear hwi
                  have c0 := HXI.out.c0
                  have c1 := HXI.out.c1
                  have c2 := HXI.out.c2
                  have c3 := HXI.out.c3
                  by_cases hltj : j < t.length
                  · have hlj1 : j < l1.length := by have := HTL1.out; omega
                    obtain ⟨u2, hu2, hr2⟩ := HCT.out j hltj
                    obtain ⟨x, hx, hrx⟩ := HC1.out j hlj1
                    obtain ⟨q, hq⟩ : ∃ q, q = l1[j] := ⟨_, rfl⟩
                    rw [hrx, ← hq] at hx
                    have hu2 := later HBI.out (Nat.le_refl _) hu2
                    have hx := later HBI.out (Nat.le_refl _) hx
                    have hv0 := later HBI.out (Nat.le_refl _) HV0.out
                    have hv1 := later HBI.out (Nat.le_refl _) HV1.out
                    have htr := HTR.out j hltj
                    obtain ⟨r, hre⟩ : ∃ r, r = t[j] := ⟨_, rfl⟩
                    rw [← hre] at hr2 htr
                    have HE := Lib.hid (fun (m2 : Nat) => isBelow_any q u2 v0 r l0 (wr.drewN m2) ((hr2.below HBI.out).below (drewN_below _ m2)) ((HR0.out.below HBI.out).below (drewN_below _ m2)) htr.2 (by omega))
                    have HQ : Hid (t.getD j [] = r ∧ l1.getD j 0 = q) := Lib.hid ⟨by rw [getD_of_lt _ hltj, hre], by rw [getD_of_lt _ hlj1, hq]⟩
                    clear hr2 hre hq hrx htr
                    have hq7 : (j : Int) < (l1.length : Int) := by omega
                    have hq8 : (0 : Int) ≤ (j : Int) := by omega
                    by_cases ht : BeRow r l0 q
                    · have HEY : Hid (∀ m2, Calls Try.prog 91 #[u2, v0, .int .i64 q] (wr.drewN m2) (QW (.bool true) (wr.drewN m2))) := Lib.hid (fun m2 => bw_yes (HE.out m2) ht)
                      have HTY := Lib.hid ht
                      clear ht HE
                      go_wp2
                      go_quiet ((go_at_call 91; exact qw_quiet (HEY.out _)))
                      clear hw1 hq3 hq4 hq5 hq6 hq7 hq8
                      go_wp2
                      go_roundw
                      case rel => exact ⟨j + 1, mi + nq, by omega, by go_num, by rw [HWI.out, World.drewN_drewN], Lib.hid (fun i h1 hjk => by
                        by_cases e : i = j
                        · subst e; rw [HQ.out.1, HQ.out.2]; exact HTY.out
                        · exact HJ.out i h1 (by omega))⟩
                      case measure => simp [intOf]; omega
                    · have HEY : Hid (∀ m2, Calls Try.prog 91 #[u2, v0, .int .i64 q] (wr.drewN m2) (QW (.bool false) (wr.drewN m2))) := Lib.hid (fun m2 => bw_no (HE.out m2) ht)
                      have HTY := Lib.hid ht
                      clear ht HE
                      go_wp2
                      go_quiet ((go_at_call 91; exact qw_quiet (HEY.out _)))
                      clear hw1 hq3 hq4 hq5 hq6 hq7 hq8
                      go_wp2
                      go_ret
                      exact bb_false (HXI.out.next (drewN_below _ nq)).below (HNOT.out j hltj (by rw [HQ.out.1, HQ.out.2]; exact HTY.out))
                  · clear hw1 hq3 hq4 hq5 hq6
                    go_wp2
                    go_roundw
                    case rel => exact ⟨k + 1, m + mi, by omega, by go_num, by rw [HWI.out, HW.out, World.drewN_drewN], Lib.hid (HNX.out (fun i hi => HJ.out i hi (by omega)))⟩
                    case measure => simp [intOf]; omega
            · go_wp2
              go_ret
              exact bb_true HXR.out.below ⟨HCX.out, HLSD.out, HLV.out, fun j hj => HD.out j hj (by omega)⟩
    · have hq1 : ((ls.length : Int) != (ds.length : Int)) = true := by simp; omega
      have hq2 : ((ls.length : Int) == (ds.length : Int)) = false := by simp; omega
      have HLN := Lib.hid hlen
      clear hlen
      go_wp2
      go_ret
      exact bb_false HX1.out.below (fun hh => HLN.out (by rw [hh.2.len]))
end Go.Proofs.Ytpdkfidmmjlmnab

namespace Go.Proofs.Ytpdkfidmmjlmnab
open Go.RowKit

theorem Fx.nextH {w wr w' : World} {b : Nat} {p : Int} {dv mv lv : Value} {ds : List Int} {ms : List (List (List Int))} {ls : List (List Int)} (hb : Below wr.heap.size wr w') (h : Hid (Fx w wr b p dv mv lv ds ms ls)) : Hid (Fx w w' b p dv mv lv ds ms ls) := Lib.hid (h.out.next hb)
theorem Fx.drewH {w wr : World} {b : Nat} {p : Int} {dv mv lv : Value} {ds : List Int} {ms : List (List (List Int))} {ls : List (List Int)} (h : Hid (Fx w wr b p dv mv lv ds ms ls)) : Hid (Fx w wr.drew b p dv mv lv ds ms ls) := Lib.hid (h.out.next (Below.refl _ _).drew)
theorem Fx.all {w wr : World} {b : Nat} {p : Int} {dv mv lv : Value} {ds : List Int} {ms : List (List (List Int))} {ls : List (List Int)} (h : Hid (Fx w wr b p dv mv lv ds ms ls)) :
    wr.cell? ⟨b, 0, none⟩ = some (.int .i64 p) ∧ wr.cell? ⟨b, 1, none⟩ = some dv ∧ wr.cell? ⟨b, 2, none⟩ = some mv ∧ wr.cell? ⟨b, 3, none⟩ = some lv ∧ Hid (Fx w wr b p dv mv lv ds ms ls) := ⟨h.out.c0, h.out.c1, h.out.c2, h.out.c3, h⟩

set_option maxHeartbeats 800000 in
theorem l02Level_any (p : Int) (dv mv lv : Value) (ls : List (List Int)) (n i : Nat) (w : World) (h : L2 0 w lv ls) (hn : n < ls.length) (hi : i < (ls.getD n []).length) :
    Calls Try.prog 143 #[.agg #[.int .i64 p, dv, mv, lv], .int .i64 (n : Int), .int .i64 (i : Int)] w (BR (.int .i64 ((ls.getD n []).getD i 0)) w) := by
  obtain ⟨l, hle⟩ : ∃ l, l = ls[n] := ⟨_, rfl⟩
  rw [getD_of_lt _ hn, ← hle] at hi ⊢
  obtain ⟨x, hx⟩ : ∃ x, x = l[i] := ⟨_, rfl⟩
  rw [getD_of_lt _ hi, ← hx]
  refine Sl.cases h (fun _ _ hx _ => absurd hn (by simp [hx])) (fun bl ol capl hv _ hposl hcll => ?_)
  obtain ⟨v0, hv0, hr0⟩ := hcll n hn
  rw [← hle] at hr0
  refine Sl.cases hr0 (fun _ _ hx _ => absurd hi (by simp [hx])) (fun b1 o1 cap1 hv1 _ hpos1 hc1 => ?_)
  obtain ⟨u, hu, hr⟩ := hc1 i hi
  rw [hr, ← hx] at hu
  subst hv hv1
  have hb0 := (Below.refl w.heap.size w).alloc (Nat.le_refl _) (.cells #[.int .i64 p, dv, mv, .slice (some ⟨bl, ol, none⟩) ls.length capl] 33)
  have hv0 := later hb0 (Nat.le_refl _) hv0
  have hu := later hb0 (Nat.le_refl _) hu
  have HB0 := Lib.hid hb0
  clear hb0 hr0 hcll h hc1 hr hle hx
  go_enter Try.func143, Try.ntmps143
  go_wp2
  go_ret
  exact ⟨rfl, HB0.out⟩

set_option maxHeartbeats 6400000 in
set_option maxRecDepth 100000 in
theorem l02Is_any (p : Int) (dv mv lv : Value) (ds : List Int) (ms : List (List (List Int))) (ls : List (List Int)) (w : World) (h : Fi 0 w dv mv lv ds ms ls) (hd : ds.length ≤ 1048576) (hm : Bd3 1048576 ms) (hl : Bd2 1048576 ls) :
    Calls Try.prog 87 #[.agg #[.int .i64 p, dv, mv, lv]] w (BB (IsFil p ds ms ls) w) := by
  have hml : ms.length ≤ 1048576 := hm.1
  have hll : ls.length ≤ 1048576 := hl.1
  have HM := Lib.hid hm
  have HLB := Lib.hid hl
  obtain ⟨⟨ad, cap, hdv⟩, ⟨am, capm, hmv⟩, ⟨al, capl, hlv⟩⟩ := h.shapes
  subst hdv hmv hlv
  have HX0 := Lib.hid (Fx.start (p := p) 33 h)
  clear hm hl h
  go_enter Try.func87, Try.ntmps87
  go_wp2_with fail
  refine (l01Is_any p _ _ ds ms _ HX0.out.fi.cx hd HM.out).mono ?_
  rintro e w1 ⟨bb, rfl, hb1, hbb⟩
  have HX1 := Lib.hid (HX0.out.next hb1)
  have HBB := Lib.hid hbb
  clear hb1 hbb HX0
  have c0 := HX1.out.c0
  have c1 := HX1.out.c1
  have c2 := HX1.out.c2
  have c3 := HX1.out.c3
  cases bb with
  | false =>
    go_wp2
    go_ret
    exact bb_false HX1.out.below (fun hh => absurd (HBB.out.2 hh.1) (by simp))
  | true =>
    have HCX : Hid (IsCx p ds ms) := Lib.hid (HBB.out.1 (by simp))
    clear HBB
    by_cases hlen : (ls.length : Int) = (ds.length : Int)
    · have hq1 : ((ls.length : Int) != (ds.length : Int)) = false := by rw [hlen]; simp
      have hq2 : ((ls.length : Int) == (ds.length : Int)) = true := by rw [hlen]; simp
      have hdsl : ds.length ≤ 6 := HCX.out.1.len1
      have hds0 : 1 ≤ ds.length := HCX.out.1.len0
      have HLSD : Hid (ls.length = ds.length) := Lib.hid (by omega)
      have hls6 : ls.length ≤ 6 := by omega
      have hmsd : ms.length + 1 = ds.length := HCX.out.1.mlen
      clear hlen
      go_wp2
      clear c0 c1 c2 c3
      go_loopw [3, 4] (fun i _ wr => ∃ (k m : Nat), k ≤ ls.length ∧ i = .int .i64 k ∧ wr = w1.drewN m ∧ Hid (∀ n, n < ls.length → n < k → LvOk (ds.getD n 0) (ls.getD n []))) (fun i _ _ => ls.length - (intOf i).toNat)
      case atStart => exact ⟨0, 0, Nat.zero_le _, rfl, rfl, Lib.hid (fun _ _ h => absurd h (Nat.not_lt_zero _))⟩
      case round =>
        obtain ⟨k, m, hk, rfl, hw, HD⟩ := hrel
        have HXR : Hid (Fx w wr w.heap.size p (.slice ad ds.length cap) (.slice am ms.length capm) (.slice al ls.length capl) ds ms ls) := Lib.hid (by rw [hw]; exact HX1.out.next (drewN_below _ m))
        have HW := Lib.hid hw
        clear hw
        have c0 := HXR.out.c0
        have c1 := HXR.out.c1
        have c2 := HXR.out.c2
        have c3 := HXR.out.c3
        by_cases hlt : k < ls.length
        · have hltd : k < ds.length := by have := HLSD.out; omega
          refine Sl.cases HXR.out.fi.cx.dims (fun _ _ hx _ => absurd hltd (by simp [hx])) (fun bd od capd hv _ hposd hcld => ?_)
          injection hv with e1 _ e3
          subst e1 e3
          refine Sl.cases HXR.out.fi.lv (fun _ _ hx _ => absurd hlt (by simp [hx])) (fun bl ol capl2 hv _ hposl hcll => ?_)
          injection hv with e1 _ e3
          subst e1 e3
          obtain ⟨u, hu, hr⟩ := hcld k hltd
          obtain ⟨u2, hu2, hr2⟩ := hcll k hlt
          obtain ⟨x, hx⟩ : ∃ x, x = ds[k] := ⟨_, rfl⟩
          obtain ⟨l, hle⟩ : ∃ l, l = ls[k] := ⟨_, rfl⟩
          rw [hr, ← hx] at hu
          rw [← hle] at hr2
          have hll2 : l.length ≤ 1048576 := by rw [hle]; exact HLB.out.2 _ (List.getElem_mem hlt)
          have HT : Hid (LvOk (ds.getD k 0) (ls.getD k []) ↔ LvOk x l) := Lib.hid (by rw [getD_of_lt _ hltd, getD_of_lt _ hlt, hx, hle])
          have HNX : Hid (LvOk x l → ∀ n, n < ls.length → n < k + 1 → LvOk (ds.getD n 0) (ls.getD n [])) := Lib.hid (fun hh j h1 hjk => by
              by_cases e : j = k
              · subst e; exact HT.out.2 hh
              · exact HD.out j h1 (by omega))
          have HNOT : Hid (¬ LvOk x l → ¬ IsFil p ds ms ls) := Lib.hid (fun hh hf => hh (HT.out.1 (hf.2.lvs k hlt)))
          have HU2 := Lib.hid hu2
          clear hx hr hcld hcll hle HT HD hu2
          have hq6 : (k : Int) < (ls.length : Int) := by omega
          have hq7 : (k : Int) < (ds.length : Int) := by omega
          have hq8 : (0 : Int) ≤ (k : Int) := by omega
          obtain ⟨al2, capl3, hv2⟩ := Sl.shape hr2
          subst hv2
          by_cases hlx : (l.length : Int) = x
          · have hq3 : ((l.length : Int) != x) = false := by rw [hlx]; simp
            have hq4 : ((l.length : Int) == x) = true := by rw [hlx]; simp
            have HLX := Lib.hid hlx
            clear hlx
            have hu2 := HU2.out
            go_wp2
            go_quiet (fail)
            clear hq6 hq7 hq8 hu2 c0 c1 c2 c3 hu
            go_wp2
            have HXQ := Lib.hid (HXR.out.next (drewN_below _ nq))
            have HU2Q : Hid ((wr.drewN nq).cell? ⟨bl, ol + k, none⟩ = some (.slice al2 l.length capl3)) := Lib.hid HU2.out
            have HR2 := Lib.hid (hr2.below (drewN_below _ nq))
            have HWQ : Hid (wr.drewN nq = w1.drewN (m + nq)) := Lib.hid (by rw [HW.out, World.drewN_drewN])
            clear hr2 HXR HU2 HW
            generalize wr.drewN nq = wo at *
            have c0 := HXQ.out.c0
            have c1 := HXQ.out.c1
            have c2 := HXQ.out.c2
            have c3 := HXQ.out.c3
            have hu2 := HU2Q.out
            go_loop [4] (fun i => ∃ (j : Nat), j ≤ l.length ∧ i = .int .i64 j ∧ Hid (∀ q (h : q < l.length), q < j → 0 ≤ l[q] ∧ l[q] ≤ 5)) (fun i => l.length - (intOf i).toNat)
            case atStart => exact ⟨0, Nat.zero_le _, rfl, Lib.hid (fun _ _ h => absurd h (Nat.not_lt_zero _))⟩
            case round =>
              obtain ⟨j, hj, rfl, HJ⟩ := hrel
              by_cases hltj : j < l.length
              · refine Sl.cases HR2.out (fun _ _ hx _ => absurd hltj (by simp [hx])) (fun b1 o1 cap1 hv _ hpos1 hc1 => ?_)
                injection hv with e1 _ e3
                subst e1 e3
                obtain ⟨u3, hu3, hr3⟩ := hc1 j hltj
                obtain ⟨y, hy⟩ : ∃ y, y = l[j] := ⟨_, rfl⟩
                rw [hr3, ← hy] at hu3
                have HY := Lib.hid hy
                clear hy hr3 hc1
                by_cases hxy : 0 ≤ y ∧ y ≤ 5
                · have HXY := Lib.hid hxy
                  clear hxy
                  go_wp2_with fail
                  refine (spin_yes HXY.out _).mono ?_
                  rintro e w' ⟨rfl, rfl⟩
                  go_wp2
                  go_round
                  case rel => exact ⟨j + 1, by omega, by go_num, Lib.hid (fun q h1 hjk => by
                    by_cases e : q = j
                    · subst e; rw [← HY.out]; exact HXY.out
                    · exact HJ.out q h1 (by omega))⟩
                  case measure => simp [intOf]; omega
                · have HXY := Lib.hid hxy
                  clear hxy
                  go_wp2_with fail
                  refine (spin_no HXY.out _).mono ?_
                  rintro e w' ⟨rfl, rfl⟩
                  go_wp2
                  go_ret
                  exact bb_false HXQ.out.below (HNOT.out (fun h => HXY.out (by rw [HY.out]; exact h.2 _ (List.getElem_mem hltj))))
              · go_wp2
                go_roundw
                case rel => exact ⟨k + 1, m + nq, by omega, by go_num, HWQ.out, Lib.hid (HNX.out ⟨HLX.out, all_of_lt (fun q hq => HJ.out q hq (by omega))⟩)⟩
                case measure => simp [intOf]; omega
          · have hq3 : ((l.length : Int) != x) = true := by simp [hlx]
            have hq4 : ((l.length : Int) == x) = false := by simp [hlx]
            have HLX := Lib.hid hlx
            clear hlx
            have hu2 := HU2.out
            go_wp2
            go_quiet (fail)
            clear hq6 hq7 hq8 hu2
            go_wp2
            go_ret
            exact bb_false (HXR.out.next (drewN_below _ nq)).below (HNOT.out (fun h => HLX.out h.1))
        · have HLV : Hid (∀ n, n < ls.length → LvOk (ds.getD n 0) (ls.getD n [])) := Lib.hid (fun n hn => HD.out n hn (by omega))
          clear HD
          go_wp2
          clear c0 c1 c2 c3
          generalize wr = wa at *
          clear HW HX1
          go_loopw [5, 6, 7, 8] (fun i _ _ _ wr => ∃ (k : Nat), k ≤ ms.length ∧ i = .int .i64 ((k : Int) + 1) ∧ Hid (Fx w wr w.heap.size p (.slice ad ds.length cap) (.slice am ms.length capm) (.slice al ls.length capl) ds ms ls) ∧ Hid (∀ j, j < ms.length → j < k → ∀ i, i < (ms.getD j []).length → BeRow ((ms.getD j []).getD i []) (ls.getD j []) ((ls.getD (j + 1) []).getD i 0))) (fun i _ _ _ _ => ms.length - (intOf i - 1).toNat)
          case atStart => exact ⟨0, Nat.zero_le _, rfl, HXR, Lib.hid (fun _ _ h => absurd h (Nat.not_lt_zero _))⟩
          case round =>
            clear HXR
            obtain ⟨k, hk, rfl, HX, HD⟩ := hrel
            have c0 := HX.out.c0
            have c1 := HX.out.c1
            have c2 := HX.out.c2
            have c3 := HX.out.c3
            by_cases hlt : k < ms.length
            · have hl0 : k < ls.length := by have := HLSD.out; omega
              have hl1 : k + 1 < ls.length := by have := HLSD.out; omega
              have htab := HCX.out.tab hlt
              have hlv0 := HLV.out k hl0
              have hlv1 := HLV.out (k + 1) hl1
              obtain ⟨t, ht⟩ : ∃ t, t = ms.getD k [] := ⟨_, rfl⟩
              obtain ⟨l0, hl0e⟩ : ∃ t, t = ls.getD k [] := ⟨_, rfl⟩
              obtain ⟨l1, hl1e⟩ : ∃ t, t = ls.getD (k + 1) [] := ⟨_, rfl⟩
              rw [← ht] at htab
              rw [← hl0e] at hlv0
              rw [← hl1e] at hlv1
              have htl1 : t.length = l1.length := by have := htab.1; have := hlv1.1; omega
              have hmap : mapZ ds ms ((k : Int) + 1) = t := by rw [mapZ, if_pos (by omega), ht]; congr 1
              have HMAP := Lib.hid hmap
              have htb : t.length ≤ 8 := by have := htab.1; have := HCX.out.1.dim (k + 1); omega
              have HTR : Hid (∀ j (hj : j < t.length), (t[j]).length = l0.length ∧ (t[j]).length ≤ 8) := Lib.hid (fun j hj => by have := (htab.2 _ (List.getElem_mem hj)).1; have := hlv0.1; have := HCX.out.1.dim k; omega)
              have HNX : Hid ((∀ i, i < t.length → BeRow (t.getD i []) l0 (l1.getD i 0)) → ∀ j, j < ms.length → j < k + 1 → ∀ i, i < (ms.getD j []).length → BeRow ((ms.getD j []).getD i []) (ls.getD j []) ((ls.getD (j + 1) []).getD i 0)) := Lib.hid (fun hall j h1 hjk => by
                by_cases e : j = k
                · subst e; rw [← ht, ← hl0e, ← hl1e]; exact hall
                · exact HD.out j h1 (by omega))
              have HNOT : Hid (∀ i, i < t.length → ¬ BeRow (t.getD i []) l0 (l1.getD i 0) → ¬ IsFil p ds ms ls) := Lib.hid (fun i hi hne hf => hne (by
                have := hf.2.bel k hlt i (by rw [← ht]; exact hi)
                rwa [← ht, ← hl0e, ← hl1e] at this))
              have HA0 : Hid (∀ W, Hid (Fx w W w.heap.size p (.slice ad ds.length cap) (.slice am ms.length capm) (.slice al ls.length capl) ds ms ls) → ∀ q : Nat, q < l0.length → Calls Try.prog 143 #[.agg #[.int .i64 p, .slice ad ds.length cap, .slice am ms.length capm, .slice al ls.length capl], .int .i64 (k : Int), .int .i64 (q : Int)] W (BR (.int .i64 (l0.getD q 0)) W)) := Lib.hid (fun W hW q hq => by
                have h := l02Level_any p (.slice ad ds.length cap) (.slice am ms.length capm) (.slice al ls.length capl) ls k q W hW.out.fi.lv hl0 (by rw [← hl0e]; exact hq)
                rwa [← hl0e] at h)
              have HA1 : Hid (∀ W, Hid (Fx w W w.heap.size p (.slice ad ds.length cap) (.slice am ms.length capm) (.slice al ls.length capl) ds ms ls) → ∀ q : Nat, q < l1.length → Calls Try.prog 143 #[.agg #[.int .i64 p, .slice ad ds.length cap, .slice am ms.length capm, .slice al ls.length capl], .int .i64 ((k : Int) + 1), .int .i64 (q : Int)] W (BR (.int .i64 (l1.getD q 0)) W)) := Lib.hid (fun W hW q hq => by
                have h := l02Level_any p (.slice ad ds.length cap) (.slice am ms.length capm) (.slice al ls.length capl) ls (k + 1) q W hW.out.fi.lv hl1 (by rw [← hl1e]; exact hq)
                rwa [← hl1e] at h)
              have HTL1 := Lib.hid htl1
              clear htab hlv0 hlv1 HD ht hl0e hl1e hmap htl1
              have hk5 : k < 6 := by omega
              have hdec : decide ((k : Int) + 1 < (ls.length : Int)) = true := by simp; omega
              go_wp2_with fail
              refine (l01Map_any p ((k : Int) + 1) _ _ ds ms _ HX.out.fi.cx HCX.out).mono ?_
              rw [HMAP.out]
              rintro e w2 ⟨v2, rfl, hv2, hb2⟩
              have HX2 := Lib.hid (HX.out.next hb2)
              obtain ⟨a2, k2, rfl⟩ := Sl.shape hv2
              have HV2 := Lib.hid hv2
              clear hb2 hv2 c0 c1 c2 c3 HX HMAP
              go_wp2
              go_loopw [7, 8] (fun i _ wr => ∃ (j : Nat), j ≤ t.length ∧ i = .int .i64 j ∧ Hid (Fx w wr w.heap.size p (.slice ad ds.length cap) (.slice am ms.length capm) (.slice al ls.length capl) ds ms ls) ∧ Hid (L2 0 wr (.slice a2 t.length k2) t) ∧ Hid (∀ i, i < t.length → i < j → BeRow (t.getD i []) l0 (l1.getD i 0))) (fun i _ _ => t.length - (intOf i).toNat)
              case atStart => exact ⟨0, Nat.zero_le _, rfl, HX2, HV2, Lib.hid (fun _ _ h => absurd h (Nat.not_lt_zero _))⟩
              case round =>
                clear HX2 HV2
                obtain ⟨j, hj, rfl, HX, HV, HJ⟩ := hrel
                by_cases hltj : j < t.length
                · have hlj1 : j < l1.length := by have := HTL1.out; omega
                  have htr := HTR.out j hltj
                  obtain ⟨r, hre⟩ : ∃ r, r = t[j] := ⟨_, rfl⟩
                  obtain ⟨y, hy⟩ : ∃ y, y = l1.getD j 0 := ⟨_, rfl⟩
                  rw [← hre] at htr
                  have hrl := htr.2
                  have HRL := Lib.hid htr.1
                  have HRE := Lib.hid hre
                  have HB1 : Hid (∀ W, Hid (Fx w W w.heap.size p (.slice ad ds.length cap) (.slice am ms.length capm) (.slice al ls.length capl) ds ms ls) → Calls Try.prog 143 #[.agg #[.int .i64 p, .slice ad ds.length cap, .slice am ms.length capm, .slice al ls.length capl], .int .i64 ((k : Int) + 1), .int .i64 (j : Int)] W (BR (.int .i64 y) W)) := Lib.hid (fun W hW => by
                    have h := HA1.out W hW j hlj1
                    rwa [← hy] at h)
                  have HNX2 : Hid ((∀ q (h : q < r.length), r[q] ≠ 0 → l0.getD q 0 ≤ y) → ∀ i, i < t.length → i < j + 1 → BeRow (t.getD i []) l0 (l1.getD i 0)) := Lib.hid (fun hall i h1 hij => by
                    by_cases e : i = j
                    · subst e; rw [getD_of_lt _ hltj, ← hre, ← hy]; exact hall
                    · exact HJ.out i h1 (by omega))
                  have HNOT2 : Hid (∀ q (h : q < r.length), r[q] ≠ 0 → ¬ l0.getD q 0 ≤ y → ¬ IsFil p ds ms ls) := Lib.hid (fun q hq h0 hn => HNOT.out j hltj (by rw [getD_of_lt _ hltj, ← hre, ← hy]; exact fun hh => hn (hh q hq h0)))
                  clear hre hy htr HJ
                  go_wp2
                  go_loopw [8] (fun i wr => ∃ (q : Nat), q ≤ r.length ∧ i = .int .i64 q ∧ Hid (Fx w wr w.heap.size p (.slice ad ds.length cap) (.slice am ms.length capm) (.slice al ls.length capl) ds ms ls) ∧ Hid (L2 0 wr (.slice a2 t.length k2) t) ∧ Hid (∀ q2 (h : q2 < r.length), q2 < q → r[q2] ≠ 0 → l0.getD q2 0 ≤ y)) (fun i _ => r.length - (intOf i).toNat)
                  case atStart => exact ⟨0, Nat.zero_le _, rfl, HX, HV, Lib.hid (fun _ _ h => absurd h (Nat.not_lt_zero _))⟩
                  case round =>
                    clear HX HV
                    obtain ⟨q, hq, rfl, HX, HV, HQ⟩ := hrel
                    have c0 := HX.out.c0
                    have c1 := HX.out.c1
                    have c2 := HX.out.c2
                    have c3 := HX.out.c3
                    refine Sl.cases HV.out (fun _ _ hx _ => absurd hltj (by simp [hx])) (fun bt ot capt hv _ hpost hct => ?_)
                    injection hv with e1 _ e3
                    subst e1 e3
                    obtain ⟨u2, hu2, hr2⟩ := hct j hltj
                    rw [← HRE.out] at hr2
                    clear hct
                    by_cases hltq : q < r.length
                    · refine Sl.cases hr2 (fun _ _ hx _ => absurd hltq (by simp [hx])) (fun b1 o1 cap1 hv1 _ hpos1 hc1 => ?_)
                      subst hv1
                      obtain ⟨u3, hu3, hr3⟩ := hc1 q hltq
                      obtain ⟨x, hx⟩ : ∃ x, x = r[q] := ⟨_, rfl⟩
                      rw [hr3, ← hx] at hu3
                      have HXE := Lib.hid hx
                      clear hx hr3 hc1 hr2
                      have hw1 : IntKind.i64.wrap ((k : Int) + 1 - 1) = (k : Int) := by rw [show (k : Int) + 1 - 1 = k by omega]; exact IntWalk.i64_in _ (by omega)
                      have hw2 : IntKind.i64.wrap (k : Int) = (k : Int) := IntWalk.i64_in _ (by omega)
                      have hq5 : (0 : Int) ≤ (j : Int) := by omega
                      have hq6 : (j : Int) < (t.length : Int) := by omega
                      have hq7 : (0 : Int) ≤ (q : Int) := by omega
                      have hq8 : (q : Int) < (r.length : Int) := by omega
                      by_cases hx0 : x = 0
                      · subst hx0
                        go_wp2
                        go_quiet (fail)
                        clear hq5 hq6 hq7 hq8 hw1 hw2
                        go_wp2
                        go_roundw
                        case rel => exact ⟨q + 1, by omega, by go_num, Lib.hid (HX.out.next (drewN_below _ nq)), Lib.hid (HV.out.below (drewN_below _ nq)), Lib.hid (fun q2 h1 hjk => by
                          by_cases e : q2 = q
                          · subst e; exact fun hn => absurd HXE.out.symm hn
                          · exact HQ.out q2 h1 (by omega))⟩
                        case measure => simp [intOf]; omega
                      · have hqx : (x != 0) = true := by simp [hx0]
                        have hqx2 : (x == 0) = false := by simp [hx0]
                        have HX0 := Lib.hid hx0
                        clear hx0
                        have HB0 := Lib.hid (fun W hW => HA0.out W hW q (by rw [← HRL.out]; exact hltq))
                        obtain ⟨a, ha⟩ : ∃ a, a = l0.getD q 0 := ⟨_, rfl⟩
                        rw [← ha] at HB0
                        have HAE := Lib.hid ha
                        clear ha
                        have HALL : Hid (∀ W, Hid (Below wr.heap.size wr W) → W.cell? ⟨w.heap.size, 0, none⟩ = some (.int .i64 p) ∧ W.cell? ⟨w.heap.size, 1, none⟩ = some (.slice ad ds.length cap) ∧ W.cell? ⟨w.heap.size, 2, none⟩ = some (.slice am ms.length capm) ∧ W.cell? ⟨w.heap.size, 3, none⟩ = some (.slice al ls.length capl) ∧
            W.cell? ⟨bt, ot + j, none⟩ = some (.slice (some ⟨b1, o1, none⟩) r.length cap1) ∧ W.cell? ⟨b1, o1 + q, none⟩ = some (.int .i64 x) ∧ Hid (Below wr.heap.size wr W)) := Lib.hid (fun W hW => ⟨later hW.out (Nat.le_refl _) c0, later hW.out (Nat.le_refl _) c1, later hW.out (Nat.le_refl _) c2, later hW.out (Nat.le_refl _) c3, later hW.out (Nat.le_refl _) hu2, later hW.out (Nat.le_refl _) hu3, hW⟩)
                        have HDREW : Hid (Below wr.heap.size wr wr.drew) := Lib.hid (Below.refl _ _).drew
                        have HN : Hid (∀ W W', Hid (Below wr.heap.size wr W) → Below W.heap.size W W' → Hid (Below wr.heap.size wr W')) := Lib.hid (fun W W' h1 h2 => Lib.hid (h1.out.trans (h2.mono h1.out.size)))
                        have HC0 : Hid (∀ W, Hid (Below wr.heap.size wr W) → Calls Try.prog 143 #[.agg #[.int .i64 p, .slice ad ds.length cap, .slice am ms.length capm, .slice al ls.length capl], .int .i64 (k : Int), .int .i64 (q : Int)] W (BR (.int .i64 a) W)) := Lib.hid (fun W hW => HB0.out W (Lib.hid (HX.out.next hW.out)))
                        have HC1 : Hid (∀ W, Hid (Below wr.heap.size wr W) → Calls Try.prog 143 #[.agg #[.int .i64 p, .slice ad ds.length cap, .slice am ms.length capm, .slice al ls.length capl], .int .i64 ((k : Int) + 1), .int .i64 (j : Int)] W (BR (.int .i64 y) W)) := Lib.hid (fun W hW => HB1.out W (Lib.hid (HX.out.next hW.out)))
                        by_cases hya : y < a
                        · have hdy : decide (y < a) = true := by simp [hya]
                          have HYA := Lib.hid hya
                          clear hya
                          go_wp2
                          go_region_held3 (fun W => W.cell? ⟨w.heap.size, 0, none⟩ = some (.int .i64 p) ∧ W.cell? ⟨w.heap.size, 1, none⟩ = some (.slice ad ds.length cap) ∧ W.cell? ⟨w.heap.size, 2, none⟩ = some (.slice am ms.length capm) ∧ W.cell? ⟨w.heap.size, 3, none⟩ = some (.slice al ls.length capl) ∧
            W.cell? ⟨bt, ot + j, none⟩ = some (.slice (some ⟨b1, o1, none⟩) r.length cap1) ∧ W.cell? ⟨b1, o1 + q, none⟩ = some (.int .i64 x) ∧ Hid (Below wr.heap.size wr W))
                            (first | exact HALL.out _ (by assumption) | exact HALL.out _ HDREW | go_keep)
                            (first
                              | (go_at_call 143; refine (HC0.out _ ?_).mono ?_; (first | assumption | exact HDREW); rintro e w3 ⟨rfl, hb3⟩; have HXA := HN.out _ _ (by first | assumption | exact HDREW) hb3; clear hb3 HC0)
                              | (go_at_call 143; refine (HC1.out _ ?_).mono ?_; (first | assumption | exact HDREW); rintro e w3 ⟨rfl, hb3⟩; have HXB := HN.out _ _ (by first | assumption | exact HDREW) hb3; clear hb3))
                          go_wp2
                          go_ret
                          exact bb_false (HX.out.next HXB.out).below (HNOT2.out q hltq (by rw [← HXE.out]; exact HX0.out) (by rw [← HAE.out]; have := HYA.out; omega))
                        · have hdy : decide (y < a) = false := by simp; omega
                          have HYA := Lib.hid hya
                          clear hya
                          go_wp2
                          go_region_held3 (fun W => W.cell? ⟨w.heap.size, 0, none⟩ = some (.int .i64 p) ∧ W.cell? ⟨w.heap.size, 1, none⟩ = some (.slice ad ds.length cap) ∧ W.cell? ⟨w.heap.size, 2, none⟩ = some (.slice am ms.length capm) ∧ W.cell? ⟨w.heap.size, 3, none⟩ = some (.slice al ls.length capl) ∧
            W.cell? ⟨bt, ot + j, none⟩ = some (.slice (some ⟨b1, o1, none⟩) r.length cap1) ∧ W.cell? ⟨b1, o1 + q, none⟩ = some (.int .i64 x) ∧ Hid (Below wr.heap.size wr W))
                            (first | exact HALL.out _ (by assumption) | exact HALL.out _ HDREW | go_keep)
                            (first
                              | (go_at_call 143; refine (HC0.out _ ?_).mono ?_; (first | assumption | exact HDREW); rintro e w3 ⟨rfl, hb3⟩; have HXA := HN.out _ _ (by first | assumption | exact HDREW) hb3; clear hb3 HC0)
                              | (go_at_call 143; refine (HC1.out _ ?_).mono ?_; (first | assumption | exact HDREW); rintro e w3 ⟨rfl, hb3⟩; have HXB := HN.out _ _ (by first | assumption | exact HDREW) hb3; clear hb3))
                          go_wp2
                          go_roundw
                          case rel => exact ⟨q + 1, by omega, by go_num, Lib.hid (HX.out.next HXB.out), Lib.hid (HV.out.below HXB.out), Lib.hid (fun q2 h1 hjk => by
                            by_cases e : q2 = q
                            · subst e; intro _; rw [← HAE.out]; have := HYA.out; omega
                            · exact HQ.out q2 h1 (by omega))⟩
                          case measure => simp [intOf]; omega
                    · obtain ⟨a3, k3, rfl⟩ := Sl.shape hr2
                      clear hr2
                      go_wp2
                      go_roundw
                      case rel => exact ⟨j + 1, by omega, by go_num, HX, HV, Lib.hid (HNX2.out (fun q2 h2 => HQ.out q2 h2 (by omega)))⟩
                      case measure => simp [intOf]; omega
                · go_wp2
                  go_roundw
                  case rel => exact ⟨k + 1, by omega, by go_num, HX, Lib.hid (HNX.out (fun i hi => HJ.out i hi (by omega)))⟩
                  case measure => simp [intOf]; omega
            · have hdec : decide ((k : Int) + 1 < (ls.length : Int)) = false := by have := HLSD.out; simp; omega
              go_wp2
              go_ret
              exact bb_true HX.out.below ⟨HCX.out, HLSD.out, HLV.out, fun j hj => HD.out j hj (by omega)⟩
    · have hq1 : ((ls.length : Int) != (ds.length : Int)) = true := by simp; omega
      have hq2 : ((ls.length : Int) == (ds.length : Int)) = false := by simp; omega
      have HLN := Lib.hid hlen
      clear hlen
      go_wp2
      go_ret
      exact bb_false HX1.out.below (fun hh => HLN.out (by rw [hh.2.len]))

set_option maxHeartbeats 800000 in
theorem spIsFiltered_any (p : Int) (dv mv lv : Value) (ds : List Int) (ms : List (List (List Int))) (ls : List (List Int)) (w : World) (h : Fi 0 w dv mv lv ds ms ls) (hd : ds.length ≤ 1048576) (hm : Bd3 1048576 ms) (hl : Bd2 1048576 ls) :
    Calls Try.prog 22 #[.agg #[.int .i64 p, dv, mv, lv]] w (BB (IsFil p ds ms ls) w) := by
  have HX0 := Lib.hid (Fx.start (p := p) 33 h)
  have H : Hid (∀ W, Fi 0 W dv mv lv ds ms ls → Calls Try.prog 87 #[.agg #[.int .i64 p, dv, mv, lv]] W (BB (IsFil p ds ms ls) W)) := Lib.hid (fun W hW => l02Is_any p dv mv lv ds ms ls W hW hd hm hl)
  clear h hm hl
  go_enter Try.func22, Try.ntmps22
  go_wp2_with fail
  refine (H.out _ HX0.out.fi).mono ?_
  rintro e w2 ⟨bb, rfl, hb2, hbb⟩
  have HBB := Lib.hid hbb
  have HB2 := Lib.hid (HX0.out.next hb2).below
  clear hbb hb2
  go_wp2
  go_ret
  exact ⟨bb, rfl, HB2.out, HBB.out⟩
end Go.Proofs.Ytpdkfidmmjlmnab

namespace Go.Proofs.Ytpdkfidmmjlmnab
open Go.RowKit

def CelOk (ds : List Int) (r n q : Int) : Prop := (0 ≤ r ∧ r ≤ 8) ∧ (0 ≤ n ∧ n ≤ (ds.length : Int) - 1) ∧ (0 ≤ q ∧ q ≤ 5)
open Classical in
/-- The code of a filtered complex, a page, a degree and a level. -/
noncomputable def celCode (p : Int) (ds : List Int) (ms : List (List (List Int))) (ls : List (List Int)) (r n q : Int) : Int := if IsFil p ds ms ls then (if CelOk ds r n q then 0 else 2) else 1
theorem celCode_no {p : Int} {ds : List Int} {ms : List (List (List Int))} {ls : List (List Int)} {r n q : Int} (h : ¬ IsFil p ds ms ls) : celCode p ds ms ls r n q = 1 := if_neg h
theorem celCode_out {p : Int} {ds : List Int} {ms : List (List (List Int))} {ls : List (List Int)} {r n q : Int} (h : IsFil p ds ms ls) (k : ¬ CelOk ds r n q) : celCode p ds ms ls r n q = 2 := by unfold celCode; rw [if_pos h, if_neg k]
theorem celCode_ok {p : Int} {ds : List Int} {ms : List (List (List Int))} {ls : List (List Int)} {r n q : Int} (h : IsFil p ds ms ls) (k : CelOk ds r n q) : celCode p ds ms ls r n q = 0 := by unfold celCode; rw [if_pos h, if_pos k]
theorem celCode_zero {p : Int} {ds : List Int} {ms : List (List (List Int))} {ls : List (List Int)} {r n q : Int} (h : celCode p ds ms ls r n q = 0) : IsFil p ds ms ls ∧ CelOk ds r n q := by
  by_cases a : IsFil p ds ms ls
  · by_cases b : CelOk ds r n q
    · exact ⟨a, b⟩
    · rw [celCode_out a b] at h; exact absurd h (by decide)
  · rw [celCode_no a] at h; exact absurd h (by decide)

set_option maxHeartbeats 1600000 in
set_option maxRecDepth 100000 in
theorem checkCell_any (p r n q : Int) (dv mv lv : Value) (ds : List Int) (ms : List (List (List Int))) (ls : List (List Int)) (w : World) (h : Fi 0 w dv mv lv ds ms ls) (hd : ds.length ≤ 1048576) (hm : Bd3 1048576 ms) (hl : Bd2 1048576 ls) :
    Calls Try.prog 99 #[.agg #[.int .i64 p, dv, mv, lv], .int .i64 r, .int .i64 n, .int .i64 q] w (BR (.int .i64 (celCode p ds ms ls r n q)) w) := by
  have HX0 := Lib.hid (Fx.start (p := p) 33 h)
  have HIS := Lib.hid (isFiltered_any p dv mv lv ds ms ls _ HX0.out.fi hd hm hl)
  obtain ⟨⟨ad, cap, hdv⟩, ⟨am, capm, hmv⟩, ⟨al, capl, hlv⟩⟩ := h.shapes
  subst hdv hmv hlv
  have c0 := HX0.out.c0
  have c1 := HX0.out.c1
  have c2 := HX0.out.c2
  have c3 := HX0.out.c3
  have hll := hl.1
  clear h hm hl
  go_enter Try.func99, Try.ntmps99
  go_wp2_with fail
  refine HIS.out.mono ?_
  rintro e w1 ⟨bb, rfl, hb1, hbb⟩
  have HX1 := Lib.hid (HX0.out.next hb1)
  have HBB := Lib.hid hbb
  clear hb1 hbb c0 c1 c2 c3 HIS
  have c0 := HX1.out.c0
  have c1 := HX1.out.c1
  have c2 := HX1.out.c2
  have c3 := HX1.out.c3
  cases bb with
  | false =>
    have HNO : Hid (¬ IsFil p ds ms ls) := Lib.hid (fun hh => absurd (HBB.out.2 hh) (by simp))
    go_wp2
    go_ret
    exact ⟨ret_int (celCode_no HNO.out).symm, HX1.out.below⟩
  | true =>
    have HF : Hid (IsFil p ds ms ls) := Lib.hid (HBB.out.1 (by simp))
    by_cases hr : 0 ≤ r ∧ r ≤ 8
    · have HR := Lib.hid hr
      clear hr
      go_wp2_with fail
      refine (in_yes HR.out _).mono ?_
      rintro e w' ⟨rfl, rfl⟩
      go_wp2_with fail
      refine (topOf_any p _ _ ds.length ad cap _ rfl (by omega)).mono ?_
      rintro e w2 ⟨rfl, hb2⟩
      have HX2 := Lib.hid (HX1.out.next hb2)
      clear hb2 c0 c1 c2 c3
      by_cases hn : 0 ≤ n ∧ n ≤ (ds.length : Int) - 1
      · have HN := Lib.hid hn
        clear hn
        go_wp2_with fail
        refine (in_yes HN.out _).mono ?_
        rintro e w' ⟨rfl, rfl⟩
        by_cases hq : 0 ≤ q ∧ q ≤ 5
        · have HQ := Lib.hid hq
          clear hq
          go_wp2_with fail
          refine (in_yes HQ.out _).mono ?_
          rintro e w' ⟨rfl, rfl⟩
          go_wp2
          go_ret
          exact ⟨ret_int (celCode_ok HF.out ⟨HR.out, by exact HN.out, HQ.out⟩).symm, HX2.out.below⟩
        · have HQ := Lib.hid hq
          clear hq
          go_wp2_with fail
          refine (in_no HQ.out _).mono ?_
          rintro e w' ⟨rfl, rfl⟩
          go_wp2
          go_ret
          exact ⟨ret_int (celCode_out HF.out (fun h => HQ.out h.2.2)).symm, HX2.out.below⟩
      · have HN := Lib.hid hn
        clear hn
        go_wp2_with fail
        refine (in_no HN.out _).mono ?_
        rintro e w' ⟨rfl, rfl⟩
        go_wp2
        go_ret
        exact ⟨ret_int (celCode_out HF.out (fun h => HN.out (by exact h.2.1))).symm, HX2.out.below⟩
    · have HR := Lib.hid hr
      clear hr
      go_wp2_with fail
      refine (in_no HR.out _).mono ?_
      rintro e w' ⟨rfl, rfl⟩
      go_wp2
      go_ret
      exact ⟨ret_int (celCode_out HF.out (fun h => HR.out h.1)).symm, HX1.out.below⟩

set_option maxHeartbeats 1600000 in
set_option maxRecDepth 100000 in
theorem l02Code_any (p r n q : Int) (dv mv lv : Value) (ds : List Int) (ms : List (List (List Int))) (ls : List (List Int)) (w : World) (h : Fi 0 w dv mv lv ds ms ls) (hd : ds.length ≤ 1048576) (hm : Bd3 1048576 ms) (hl : Bd2 1048576 ls) :
    Calls Try.prog 92 #[.agg #[.int .i64 p, dv, mv, lv], .int .i64 r, .int .i64 n, .int .i64 q] w (BR (.int .i64 (celCode p ds ms ls r n q)) w) := by
  have HX0 := Lib.hid (Fx.start (p := p) 33 h)
  have HIS := Lib.hid (l02Is_any p dv mv lv ds ms ls _ HX0.out.fi hd hm hl)
  obtain ⟨⟨ad, cap, hdv⟩, ⟨am, capm, hmv⟩, ⟨al, capl, hlv⟩⟩ := h.shapes
  subst hdv hmv hlv
  have c0 := HX0.out.c0
  have c1 := HX0.out.c1
  have c2 := HX0.out.c2
  have c3 := HX0.out.c3
  have hll := hl.1
  clear h hm hl
  go_enter Try.func92, Try.ntmps92
  go_wp2_with fail
  refine HIS.out.mono ?_
  rintro e w1 ⟨bb, rfl, hb1, hbb⟩
  have HX1 := Lib.hid (HX0.out.next hb1)
  have HBB := Lib.hid hbb
  clear hb1 hbb c0 c1 c2 c3 HIS
  have c0 := HX1.out.c0
  have c1 := HX1.out.c1
  have c2 := HX1.out.c2
  have c3 := HX1.out.c3
  cases bb with
  | false =>
    have HNO : Hid (¬ IsFil p ds ms ls) := Lib.hid (fun hh => absurd (HBB.out.2 hh) (by simp))
    go_wp2
    go_ret
    exact ⟨ret_int (celCode_no HNO.out).symm, HX1.out.below⟩
  | true =>
    have HF : Hid (IsFil p ds ms ls) := Lib.hid (HBB.out.1 (by simp))
    by_cases hr : 0 ≤ r ∧ r ≤ 8
    · have HR := Lib.hid hr
      clear hr
      go_wp2_with fail
      refine (spin_yes HR.out _).mono ?_
      rintro e w' ⟨rfl, rfl⟩
      have hwl : IntKind.i64.wrap ((ls.length : Int) - 1) = (ls.length : Int) - 1 := IntWalk.i64_in _ (by omega)
      have HLS : Hid (ls.length = ds.length) := Lib.hid HF.out.2.len
      by_cases hn : 0 ≤ n ∧ n ≤ (ls.length : Int) - 1
      · have HN := Lib.hid hn
        clear hn
        go_wp2_with fail
        refine (spin_yes HN.out _).mono ?_
        rintro e w' ⟨rfl, rfl⟩
        by_cases hq : 0 ≤ q ∧ q ≤ 5
        · have HQ := Lib.hid hq
          clear hq
          go_wp2_with fail
          refine (spin_yes HQ.out _).mono ?_
          rintro e w' ⟨rfl, rfl⟩
          go_wp2
          go_ret
          exact ⟨ret_int (celCode_ok HF.out ⟨HR.out, by rw [← HLS.out]; exact HN.out, HQ.out⟩).symm, HX1.out.below⟩
        · have HQ := Lib.hid hq
          clear hq
          go_wp2_with fail
          refine (spin_no HQ.out _).mono ?_
          rintro e w' ⟨rfl, rfl⟩
          go_wp2
          go_ret
          exact ⟨ret_int (celCode_out HF.out (fun h => HQ.out h.2.2)).symm, HX1.out.below⟩
      · have HN := Lib.hid hn
        clear hn
        go_wp2_with fail
        refine (spin_no HN.out _).mono ?_
        rintro e w' ⟨rfl, rfl⟩
        go_wp2
        go_ret
        exact ⟨ret_int (celCode_out HF.out (fun h => HN.out (by rw [HLS.out]; exact h.2.1))).symm, HX1.out.below⟩
    · have HR := Lib.hid hr
      clear hr
      go_wp2_with fail
      refine (spin_no HR.out _).mono ?_
      rintro e w' ⟨rfl, rfl⟩
      go_wp2
      go_ret
      exact ⟨ret_int (celCode_out HF.out (fun h => HR.out h.1)).symm, HX1.out.below⟩
end Go.Proofs.Ytpdkfidmmjlmnab

namespace Go.Proofs.Ytpdkfidmmjlmnab
open Go.RowKit

theorem CxW.wider {lo hi lo' hi' : Nat} {w : World} {dv mv : Value} {ds : List Int} {ms : List (List (List Int))} (hl : lo' ≤ lo) (hh : hi ≤ hi') (h : CxW lo hi w dv mv ds ms) : CxW lo' hi' w dv mv ds ms := ⟨h.dims.wider hl hh, h.maps.wider hl hh⟩
structure FiW (lo hi : Nat) (w : World) (dv mv lv : Value) (ds : List Int) (ms : List (List (List Int))) (ls : List (List Int)) : Prop where
  cx : CxW lo hi w dv mv ds ms
  lv : W2 lo hi w lv ls
theorem FiW.same {lo hi : Nat} {w w' : World} {dv mv lv : Value} {ds : List Int} {ms : List (List (List Int))} {ls : List (List Int)} (h : FiW lo hi w dv mv lv ds ms ls) (hs : Same lo hi w w') : FiW lo hi w' dv mv lv ds ms ls := ⟨h.cx.same hs, h.lv.same hs⟩
theorem FiW.fi {lo hi : Nat} {w : World} {dv mv lv : Value} {ds : List Int} {ms : List (List (List Int))} {ls : List (List Int)} (h : FiW lo hi w dv mv lv ds ms ls) : Fi lo w dv mv lv ds ms ls := ⟨h.cx.cx, h.lv.l2⟩
def ToFW (p : Int) (ds : List Int) (ms : List (List (List Int))) (ls : List (List Int)) (w : World) (e : Ending) (w' : World) : Prop :=
  ∃ dv mv lv, e = .returned (.agg #[.int .i64 p, dv, mv, lv]) ∧ FiW w.heap.size w'.heap.size w' dv mv lv ds ms ls ∧ Below w.heap.size w w'

set_option maxHeartbeats 1600000 in
theorem toFilteredw_any (p : Int) (dv mv lv : Value) (ds : List Int) (ms : List (List (List Int))) (ls : List (List Int)) (w : World) (h : Fi 0 w dv mv lv ds ms ls) (hd : ds.length ≤ 1048576) (hm : Bd3 1048576 ms) (hl : Bd2 1048576 ls) :
    Calls Try.prog 23 #[.agg #[.int .i64 p, dv, mv, lv]] w (ToFW p ds ms ls w) := by
  have HM := Lib.hid hm
  have HL := Lib.hid hl
  have H := Lib.hid h
  clear hm hl h
  have hres : Try.f23.results = #[.cell 2 33] := by kernel_rfl
  have HRES := Lib.hid hres
  clear hres
  go_enter Try.func23, Try.ntmps23
  go_wp2_with fail
  have hb0 : Below w.heap.size w (((w.alloc (.cells #[.int .i64 p, dv, mv, lv] 28)).alloc (.cells #[.int .i64 0, .slice none 0 0, .slice none 0 0, .slice none 0 0] 33)).alloc (.cells #[.int .i64 0, .slice none 0 0, .slice none 0 0, .slice none 0 0] 33)) :=
    (((Below.refl _ _).alloc (Nat.le_refl _) _).alloc (by simp) _).alloc (by simp; omega) _
  have HB0 := Lib.hid hb0
  clear hb0
  refine (toComplexw_any p dv mv ds ms _ (H.out.cx.below HB0.out) hd HM.out).mono ?_
  rintro e w1 ⟨dv1, mv1, rfl, hcx1, hb1⟩
  obtain ⟨⟨ad1, cap1, rfl⟩, ⟨am1, capm1, rfl⟩⟩ := hcx1.cx.shapes
  have hz : w.heap.size + 3 ≤ w1.heap.size := by have := hb1.size; simp at this; omega
  obtain ⟨hc, hf⟩ := bcell hb1
  have HR1 := Lib.hid hcx1
  have HB1 := Lib.hid hb1
  clear hcx1 hb1
  have hz1b : w.heap.size + 1 < w1.heap.size := by omega
  have hz1 : w.heap.size + 1 + 1 < w1.heap.size := by omega
  clear hc hf
  have hc' : (∀ b o, b < w.heap.size + 3 → w1.cell? ⟨b, o, none⟩ = (((w.alloc (.cells #[.int .i64 p, dv, mv, lv] 28)).alloc (.cells #[.int .i64 0, .slice none 0 0, .slice none 0 0, .slice none 0 0] 33)).alloc (.cells #[.int .i64 0, .slice none 0 0, .slice none 0 0, .slice none 0 0] 33)).cell? ⟨b, o, none⟩) := fun b o h => (bcell HB1.out).1 b o (by simp; omega)
  have hf' : (∀ b o, b < w.heap.size + 3 → w1.frozen? ⟨b, o, none⟩ = (((w.alloc (.cells #[.int .i64 p, dv, mv, lv] 28)).alloc (.cells #[.int .i64 0, .slice none 0 0, .slice none 0 0, .slice none 0 0] 33)).alloc (.cells #[.int .i64 0, .slice none 0 0, .slice none 0 0, .slice none 0 0] 33)).frozen? ⟨b, o, none⟩) := fun b o h => (bcell HB1.out).2 b o (by simp; omega)
  have a0 : w1.cell? ⟨w.heap.size, 3, none⟩ = some lv := by rw [hc' _ _ (by omega)]; go_simp
  have b0 : w1.cell? ⟨w.heap.size + 1 + 1, 0, none⟩ = some (.int .i64 0) := by rw [hc' _ _ (by omega)]; go_simp
  have b1 : w1.cell? ⟨w.heap.size + 1 + 1, 1, none⟩ = some (.slice none 0 0) := by rw [hc' _ _ (by omega)]; go_simp
  have b2 : w1.cell? ⟨w.heap.size + 1 + 1, 2, none⟩ = some (.slice none 0 0) := by rw [hc' _ _ (by omega)]; go_simp
  have b3 : w1.cell? ⟨w.heap.size + 1 + 1, 3, none⟩ = some (.slice none 0 0) := by rw [hc' _ _ (by omega)]; go_simp
  have e0 : w1.cell? ⟨w.heap.size + 1, 0, none⟩ = some (.int .i64 0) := by rw [hc' _ _ (by omega)]; go_simp
  have e1 : w1.cell? ⟨w.heap.size + 1, 1, none⟩ = some (.slice none 0 0) := by rw [hc' _ _ (by omega)]; go_simp
  have e2 : w1.cell? ⟨w.heap.size + 1, 2, none⟩ = some (.slice none 0 0) := by rw [hc' _ _ (by omega)]; go_simp
  have e3 : w1.cell? ⟨w.heap.size + 1, 3, none⟩ = some (.slice none 0 0) := by rw [hc' _ _ (by omega)]; go_simp
  have f0 : ∀ o, w1.frozen? ⟨w.heap.size + 1 + 1, o, none⟩ = false := fun o => by rw [hf' _ _ (by omega)]; go_simp
  have f1 : ∀ o, w1.frozen? ⟨w.heap.size + 1, o, none⟩ = false := fun o => by rw [hf' _ _ (by omega)]; go_simp
  have HBW := Lib.hid (HB0.out.trans (HB1.out.mono (by simp; omega)))
  clear hc' hf'
  go_wp2_with fail
  generalize hw2 : ((w1.setCell ⟨w.heap.size + 1 + 1, 0, none⟩ (.int .i64 p)).setCell ⟨w.heap.size + 1 + 1, 1, none⟩ (.slice ad1 ds.length cap1)).setCell ⟨w.heap.size + 1 + 1, 2, none⟩ (.slice am1 ms.length capm1) = w2
  have hs2 : w2.heap.size = w1.heap.size := by rw [← hw2]; simp [World.setCell]
  have hk2 : ∀ hi, Same (w.heap.size + 1 + 1 + 1) hi w1 w2 := fun hi => by rw [← hw2]; exact ((Same.set _ (Or.inl (by omega))).trans (Same.set _ (Or.inl (by omega)))).trans (Same.set _ (Or.inl (by omega)))
  have hbw2 : Below w.heap.size w w2 := by rw [← hw2]; exact (((HBW.out).setCell (by show w.heap.size ≤ w.heap.size + 1 + 1; omega) _).setCell (by show w.heap.size ≤ w.heap.size + 1 + 1; omega) _).setCell (by show w.heap.size ≤ w.heap.size + 1 + 1; omega) _
  have HCX2 : Hid (CxW (w.heap.size + 1 + 1 + 1) w2.heap.size w2 (.slice ad1 ds.length cap1) (.slice am1 ms.length capm1) ds ms) := Lib.hid (by
    rw [hs2]
    exact (HR1.out.wider (lo' := w.heap.size + 1 + 1 + 1) (by simp) (Nat.le_refl _)).same (hk2 _))
  have HBW2 := Lib.hid hbw2
  have g0 : w2.cell? ⟨w.heap.size + 1 + 1, 0, none⟩ = some (.int .i64 p) := by subst hw2; go_simp
  have g1 : w2.cell? ⟨w.heap.size + 1 + 1, 1, none⟩ = some (.slice ad1 ds.length cap1) := by subst hw2; go_simp
  have g2 : w2.cell? ⟨w.heap.size + 1 + 1, 2, none⟩ = some (.slice am1 ms.length capm1) := by subst hw2; go_simp
  have g3 : w2.cell? ⟨w.heap.size + 1 + 1, 3, none⟩ = some (.slice none 0 0) := by subst hw2; go_simp
  have q0 : w2.cell? ⟨w.heap.size + 1, 0, none⟩ = some (.int .i64 0) := by subst hw2; go_simp
  have q1 : w2.cell? ⟨w.heap.size + 1, 1, none⟩ = some (.slice none 0 0) := by subst hw2; go_simp
  have q2 : w2.cell? ⟨w.heap.size + 1, 2, none⟩ = some (.slice none 0 0) := by subst hw2; go_simp
  have q3 : w2.cell? ⟨w.heap.size + 1, 3, none⟩ = some (.slice none 0 0) := by subst hw2; go_simp
  have p0 : ∀ o, w2.frozen? ⟨w.heap.size + 1 + 1, o, none⟩ = false := fun o => by subst hw2; go_simp
  have p1 : ∀ o, w2.frozen? ⟨w.heap.size + 1, o, none⟩ = false := fun o => by subst hw2; go_simp
  clear hw2 hk2 hbw2 a0 b0 b1 b2 b3 e0 e1 e2 e3 f0 f1 HB1 HR1 hz1b
  refine (to2w_any lv ls _ (H.out.lv.below HBW2.out) HL.out).mono ?_
  rintro e w3 ⟨u3, rfl, hr3, hb3⟩
  obtain ⟨ad3, cap3, rfl⟩ := Sw.shape hr3
  have hz3 : w2.heap.size ≤ w3.heap.size := hb3.size
  have hzB : w.heap.size + 1 + 1 < w3.heap.size := by omega
  have hzC : w.heap.size + 1 < w3.heap.size := by omega
  have HCX3 := Lib.hid ((HCX2.out.same (Same.of_below hb3 (Nat.le_refl _))).wider (Nat.le_refl _) hz3)
  have HB3 := Lib.hid (HBW2.out.trans (hb3.mono HBW2.out.size))
  have HR3 := Lib.hid (hr3.wider (lo' := w.heap.size + 1 + 1 + 1) (by omega) (Nat.le_refl _))
  have g0 := later hb3 (Nat.le_refl _) g0
  have g1 := later hb3 (Nat.le_refl _) g1
  have g2 := later hb3 (Nat.le_refl _) g2
  have g3 := later hb3 (Nat.le_refl _) g3
  have q0 := later hb3 (Nat.le_refl _) q0
  have q1 := later hb3 (Nat.le_refl _) q1
  have q2 := later hb3 (Nat.le_refl _) q2
  have q3 := later hb3 (Nat.le_refl _) q3
  have p0 : ∀ o, w3.frozen? ⟨w.heap.size + 1 + 1, o, none⟩ = false := fun o => by rw [(bcell hb3).2 _ _ (by omega)]; exact p0 o
  have p1 : ∀ o, w3.frozen? ⟨w.heap.size + 1, o, none⟩ = false := fun o => by rw [(bcell hb3).2 _ _ (by omega)]; exact p1 o
  clear hr3 hb3 HCX2 HBW2
  go_wp2
  refine bodyPost_ret (v := .agg #[.int .i64 p, .slice ad1 ds.length cap1, .slice am1 ms.length capm1, .slice ad3 ls.length cap3]) ?_ rfl ?_
  · simp only [results, HRES.out]
    go_simp
  · have hk : ∀ u v0 v1 v2 v3, Same (w.heap.size + 1 + 1 + 1) w3.heap.size w3 (((((w3.setCell ⟨w.heap.size + 1 + 1, 3, none⟩ u).setCell ⟨w.heap.size + 1, 0, none⟩ v0).setCell ⟨w.heap.size + 1, 1, none⟩ v1).setCell ⟨w.heap.size + 1, 2, none⟩ v2).setCell ⟨w.heap.size + 1, 3, none⟩ v3) := fun u v0 v1 v2 v3 =>
      ((((Same.set _ (Or.inl (by omega))).trans (Same.set _ (Or.inl (by omega)))).trans (Same.set _ (Or.inl (by omega)))).trans (Same.set _ (Or.inl (by omega)))).trans (Same.set _ (Or.inl (by omega)))
    refine ⟨_, _, _, rfl, ⟨⟨?_, ?_⟩, ?_⟩, ?_⟩
    · exact (HCX3.out.dims.same (hk _ _ _ _ _)).wider (by omega) (by simp)
    · exact (HCX3.out.maps.same (hk _ _ _ _ _)).wider (by omega) (by simp)
    · exact (HR3.out.same (hk _ _ _ _ _)).wider (by omega) (by simp)
    · exact (((((HB3.out).setCell (by show w.heap.size ≤ w.heap.size + 1 + 1; omega) _).setCell (by show w.heap.size ≤ w.heap.size + 1; omega) _).setCell (by show w.heap.size ≤ w.heap.size + 1; omega) _).setCell (by show w.heap.size ≤ w.heap.size + 1; omega) _).setCell (by show w.heap.size ≤ w.heap.size + 1; omega) _

theorem fx_of {w : World} {p : Int} {dv mv lv : Value} {ds : List Int} {ms : List (List (List Int))} {ls : List (List Int)} (t : TypeId) (h : Fi 0 w dv mv lv ds ms ls) (W : World) (hb : Below (w.heap.size + 1) (w.alloc (.cells #[.int .i64 p, dv, mv, lv] t)) W) : Fx w W w.heap.size p dv mv lv ds ms ls :=
  (Fx.start t h).next (by simpa using hb)
/-- What markFiltered leaves: new blocks, and numbers written in the span alone. -/
def MarkFi (lo hi : Nat) (k : Int) (w : World) (e : Ending) (w' : World) : Prop :=
  ∃ (r : Int) (w1 : World), e = .returned (.int .i64 r) ∧ k ≤ r ∧ r ≤ 2305843009213693952 ∧ Below w.heap.size w w1 ∧ Only lo hi w1 w' ∧ Tame w1 w'
theorem CxT.tame {lo hi : Nat} {w w' : World} {dv mv : Value} {ds : List Int} {ms : List (List (List Int))} (h : CxT lo hi w dv mv ds ms) (ht : Tame w w') : CxT lo hi w' dv mv ds ms := ⟨h.dims.tame ht, h.maps.tame ht⟩

set_option maxHeartbeats 800000 in
theorem markFiltered_any {lo hi : Nat} (p : Int) (dv mv lv : Value) (ds : List Int) (ms : List (List (List Int))) (ls : List (List Int)) (w : World) (h : FiW lo hi w dv mv lv ds ms ls) (hh : hi ≤ w.heap.size) (hd : ds.length ≤ 1048576) (hm : Bd3 1048576 ms) (hl : Bd2 1048576 ls) :
    Calls Try.prog 29 #[.agg #[.int .i64 p, dv, mv, lv], .int .i64 1] w (MarkFi lo hi 1 w) := by
  have HM := Lib.hid hm
  have HL := Lib.hid hl
  have hll : ls.length ≤ 1048576 := hl.1
  have hb0 : Below w.heap.size w (w.alloc (.cells #[.int .i64 p, dv, mv, lv] 33)) := (Below.refl _ _).alloc (Nat.le_refl _) _
  have HC := Lib.hid (h.same (Same.of_below hb0 hh))
  have HB0 := Lib.hid hb0
  clear h hm hl hb0
  go_enter Try.func29, Try.ntmps29
  go_wp2_with fail
  refine (markComplex_any p dv mv ds ms _ HC.out.cx (by simp; omega) hd HM.out).mono ?_
  rintro e w1 ⟨r1, wM, rfl, hr0, hr1, hbM, hoM, htM⟩
  have hsM : w.heap.size + 1 ≤ wM.heap.size := by have := hbM.size; simp at this; omega
  have hsD : w1.heap.size = wM.heap.size := hoM.size
  have c3 : w1.cell? ⟨w.heap.size, 3, none⟩ = some lv := by
    rw [hoM.cell (b := w.heap.size) (Or.inr hh), (bcell hbM).1 _ _ (by simp)]
    simp
  have HT : Hid (T2 lo hi w1 lv ls) := Lib.hid ((HC.out.lv.same (Same.of_below hbM (by simp; omega))).t2.tame htM)
  have HBM := Lib.hid (HB0.out.trans (hbM.mono (by simp)))
  have HO := Lib.hid (And.intro hoM htM)
  clear hbM hoM htM hsD
  go_wp2_with fail
  refine (mark2_any lv ls _ _ HT.out HL.out (by omega) (by omega)).mono ?_
  rintro e w2 ⟨r2, rfl, hs0, hs1, ho, ht⟩
  have HO2 := Lib.hid (And.intro (HO.out.1.trans ho) (HO.out.2.trans ht))
  clear ho ht
  go_wp2
  go_ret
  exact ⟨r2, wM, rfl, by omega, by omega, HBM.out, HO2.out.1, HO2.out.2⟩
end Go.Proofs.Ytpdkfidmmjlmnab
