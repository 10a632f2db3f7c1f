/-
  HomologyComplex of the program by contract.
-/
import Derived.Test.YthfcadgbipnemaaHns
import Derived.Test.YthfcadgbipnemaaZma
import Derived.Test.YthfcadgbipnemaaKhn
import Derived.Test.YthfcadgbipnemaaHld
namespace Go.Proofs.Ythfcadgbipnemaa
open Go.RowKit

open Classical in
/-- The homology number of a degree, as a number. -/
noncomputable def hnum (p : Int) (ds : List Int) (ms : List (List (List Int))) (q : Nat) : Int := if h : ∃ x, HNum p ds ms q x then h.choose else 0
theorem hnum_of {p : Int} {ds : List Int} {ms : List (List (List Int))} {q : Nat} {x : Int} (hp : 1 < p) (h : HNum p ds ms q x) : hnum p ds ms q = x := by
  have hx : ∃ x, HNum p ds ms q x := ⟨x, h⟩
  unfold hnum
  rw [dif_pos hx]
  exact hx.choose_spec.unique hp h
noncomputable def hnD (p : Int) (ds : List Int) (ms : List (List (List Int))) : List Int := (List.range ds.length).map (hnum p ds ms)
theorem hnD_length (p : Int) (ds : List Int) (ms : List (List (List Int))) : (hnD p ds ms).length = ds.length := by simp [hnD]
theorem hnD_of {p : Int} {ds : List Int} {ms : List (List (List Int))} {X : Nat → Int} (hp : 1 < p) (h : ∀ i, i < ds.length → HNum p ds ms i (X i)) : (List.range ds.length).map X = hnD p ds ms :=
  List.map_congr_left fun i hi => (hnum_of hp (h i (List.mem_range.1 hi))).symm
theorem HNum.nn {p : Int} {ds : List Int} {ms : List (List (List Int))} {q : Nat} {x : Int} (hcx : IsCx p ds ms) (hq : q < ds.length) (h : HNum p ds ms q x) : 0 ≤ x ∧ x ≤ 8 := by
  have hb := h.bd hcx
  refine ⟨?_, hb.2⟩
  obtain ⟨R1, R2, h1, h2, rfl⟩ := h
  have hp := hcx.1.prime.lo1
  have h0 : 0 < p := by omega
  have := Lin.len_le (L := Lin.lds R2) (M := Lin.lds R1) h2.1.lds_nodup (fun y hy => by
    obtain ⟨v, hv, hne, rfl⟩ := (h2.1.lds_mem h0).1 hy
    exact (h1.1.lds_mem h0).2 ⟨v, (h1.2.2 v).2 (bnd_cyc hcx hq ((h2.2.2 v).1 hv)), hne, rfl⟩)
  simp only [Lin.lds, List.length_map] at this
  omega
theorem hnD_dsOk {p : Int} {ds : List Int} {ms : List (List (List Int))} {X : Nat → Int} (hcx : IsCx p ds ms) (h : ∀ i, i < ds.length → HNum p ds ms i (X i)) : DsOk ((List.range ds.length).map X) := by
  refine ⟨by simpa using hcx.1.len1, fun d hd => ?_⟩
  obtain ⟨i, hi, rfl⟩ := List.mem_map.1 hd
  have hi := List.mem_range.1 hi
  exact (h i hi).nn hcx hi
/-- The complex of the homology numbers. -/
noncomputable def hcOut (p : Int) (ds : List Int) (ms : List (List (List Int))) : Co := (p, hnD p ds ms, zmF (hnD p ds ms) ms.length)
theorem rz_ne_row {W : World} {g b n : Nat} {t t' : TypeId} {cs : Array Value} {f : Nat → Value} (h : Rz W g t cs) (hr : W.rowIs b t' n f) (ht : t ≠ t') : g ≠ b := by
  rintro rfl
  obtain ⟨c, hc, _⟩ := hr
  have h' : W.heap[g]? = some (.cells cs t (0, 0)) := h
  rw [h'] at hc
  simp at hc
  exact ht hc.2
/-- A complex out of a row of dimensions and a list of tables behind it. -/
theorem rwC_of {lo hi : Nat} {W : World} {p : Int} {gr n : Nat} {X : Nat → Int} {u : Value} {ts : List (List (List Int))} (hr : W.rowIs gr 2 n (fun i => .int .i64 (X i))) (hl : lo ≤ gr) (hh : gr < hi) (hn : n ≤ 1048576) {lo2 : Nat} (hu : Rw3 lo2 hi W u ts) (h2 : gr < lo2) :
    RwC lo hi W (.agg #[.int .i64 p, .slice (some ⟨gr, 0, none⟩) n n, u]) (p, (List.range n).map X, ts) := by
  have hlen : ((List.range n).map X).length = n := by simp
  obtain ⟨am, cm, hv⟩ := hu.shape
  obtain ⟨h3, J, s3, n3, d3, z3⟩ := hu
  by_cases hn0 : n = 0
  · subst hn0
    subst hv
    refine ⟨some ⟨gr, 0, none⟩, 0, am, cm, by simp, ⟨Or.inl ⟨rfl, _, _, rfl⟩, h3.wider (by omega) (Nat.le_refl _)⟩, [], J, Or.inl ⟨rfl, _, _, rfl⟩, s3.wider (by omega) (Nat.le_refl _), fun _ h => absurd h (by simp), n3.wider (by omega) (Nat.le_refl _), d3, fun _ h => absurd h (by simp), by simp [ivSize], z3⟩
  · have hpos : 0 < n := by omega
    have hw := w1_row (lo := lo) (hi := hi) hr hl hh hpos
    subst hv
    refine ⟨some ⟨gr, 0, none⟩, n, am, cm, by simp, ⟨by rw [hlen]; exact hw, h3.wider (by omega) (Nat.le_refl _)⟩, [(gr, 0, n)], J, Or.inr ⟨gr, 0, n, n, rfl, hpos, hn, hl, hh, by rw [hlen]⟩, s3.wider (by omega) (Nat.le_refl _), fun x hx => ?_, n3.wider (by omega) (Nat.le_refl _), d3, fun x hx y hy => Or.inl ?_, by simpa [ivSize] using hn, z3⟩
    · obtain rfl : x = (gr, 0, n) := by simpa using hx
      exact ⟨hl, hh, fun i hi => ⟨⟨X i, by rw [Nat.zero_add]; exact hr.cell hi⟩, hr.frozen _⟩⟩
    · obtain rfl : x = (gr, 0, n) := by simpa using hx
      have := (n3 y hy).1
      show gr ≠ y.1
      omega

def HcR (p : Int) (ds : List Int) (ms : List (List (List Int))) (w : World) (e : Ending) (w' : World) : Prop := ∃ u, e = .returned u ∧ RwC w.heap.size w'.heap.size w' u (hcOut p ds ms) ∧ Below w.heap.size w w'

set_option maxHeartbeats 3200000 in
set_option maxRecDepth 100000 in
theorem homologyComplex_any (p : Int) (dv mv : Value) (ds : List Int) (ms : List (List (List Int))) (w : World) (h : Cx 0 w dv mv ds ms) (hcx : IsCx p ds ms) :
    Calls Try.prog 73 #[.agg #[.int .i64 p, dv, mv]] w (HcR p ds ms w) := by
  have hres : Try.f73.results = #[.cell 2 30] := by kernel_rfl
  have HRES := Lib.hid hres
  obtain ⟨ad, cap, rfl⟩ := Sl.shape h.dims
  obtain ⟨am, capm, rfl⟩ := Sl.shape h.maps
  have HCX := Lib.hid hcx
  have hl6 := hcx.1.len1
  have hml := hcx.1.mlen
  have HML := Lib.hid hml
  obtain ⟨wa, hwa⟩ : ∃ wa : World, wa = w.alloc (.cells #[.int .i64 p, .slice ad ds.length cap, .slice am ms.length capm] 30) := ⟨_, rfl⟩
  obtain ⟨w1, hw1⟩ : ∃ w1 : World, w1 = wa.alloc (.cells #[.int .i64 0, .slice none 0 0, .slice none 0 0] 30) := ⟨_, rfl⟩
  have hsa : wa.heap.size = w.heap.size + 1 := by rw [hwa]; simp
  have hs1 : w1.heap.size = w.heap.size + 2 := by rw [hw1]; simp [hsa]
  have HX1 : Hid (Bx w w1 w.heap.size p (.slice ad ds.length cap) (.slice am ms.length capm) ds ms) := Lib.hid (by rw [hw1]; exact (show Bx w wa w.heap.size p (.slice ad ds.length cap) (.slice am ms.length capm) ds ms by rw [hwa]; exact Bx.start _ h).next (below_alloc1 _ _))
  have HR0 : Hid (Rz w1 (w.heap.size + 1) 30 #[.int .i64 0, .slice none 0 0, .slice none 0 0]) := Lib.hid (by rw [hw1, ← hsa]; exact Rz.new _ _ _)
  have HS1 := Lib.hid hs1
  have HNX : Hid (∀ W, Below w1.heap.size w1 W → Bx w W w.heap.size p (.slice ad ds.length cap) (.slice am ms.length capm) ds ms) := Lib.hid (fun W hb => HX1.out.next hb)
  have HNN : Hid (∀ W, Below w1.heap.size w1 W → Calls Try.prog 102 #[.agg #[.int .i64 p, .slice ad ds.length cap, .slice am ms.length capm]] W (HnsRow p ds ms W)) := Lib.hid (fun W hb => homologyNumbersRow_any p _ _ ds ms W (HNX.out W hb).cx HCX.out)
  clear h hcx hres hml
  go_enter Try.func73, Try.ntmps73
  go_upto_region 1 with fail
  rw [← hwa, ← hw1]
  clear hwa hw1 hsa
  go_cut [3] from 4 to 8 (fun s3 wz => ∃ (gs gr : Nat) (X : Nat → Int), s3 = .pointer (some ⟨gs, 0, none⟩) ∧ Hid (Below w1.heap.size w1 wz) ∧ Hid (w1.heap.size ≤ gs ∧ w1.heap.size ≤ gr ∧ gs ≠ gr) ∧ Hid (Rz wz gs 30 #[.int .i64 p, .slice (some ⟨gr, 0, none⟩) ds.length ds.length, .slice none 0 0]) ∧ Hid (wz.rowIs gr 2 ds.length (fun i => .int .i64 (X i))) ∧ Hid (∀ i, i < ds.length → HNum p ds ms i (X i)))
  case first =>
    go_wp2
    refine wp_region_held (S := fun W => Below (w1.heap.size) w1 W) (by kernel_rfl) ?_
    have S0 : Below (w1.heap.size) w1 w1.drew := (Below.refl _ _).drew
    have hB0 : w1.heap.size ≤ w1.heap.size := Nat.le_refl _
    have hsd : w1.heap.size ≤ w1.drew.heap.size := Nat.le_refl _
    have hbd : Below w1.heap.size w1 w1.drew := (Below.refl _ _).drew
    change wpAnyH _ _ _ _ _ _ _ _ w1.drew
    obtain ⟨wd, hwd⟩ : ∃ wd, wd = w1.drew := ⟨_, rfl⟩
    rw [← hwd] at S0 hsd hbd ⊢
    clear hwd
    refine held_take (i := 0) (v := .pointer (some ⟨w.heap.size, 0, none⟩)) (some 4) rfl rfl (by kernel_rfl) (by kernel_rfl) (by kernel_rfl) (fun _ _ _ h => h) (yieldsIf_run (by kernel_rfl) (fun W _ => by kernel_rfl)) S0 ?_
    refine held_take (i := 1) (v := .int .i64 p) (some 5) rfl rfl (by kernel_rfl) (by kernel_rfl) (by kernel_rfl) (fun _ _ _ h => h) (yieldsIf_cell (by kernel_rfl) rfl (by kernel_rfl) (fun W h => hload W ((HNX.out W h).c0))) S0 ?_
    refine held_take (i := 2) (v := .agg #[.int .i64 p, .slice ad ds.length cap, .slice am ms.length capm]) (some 6) rfl rfl (by kernel_rfl) (by kernel_rfl) (by kernel_rfl) (fun _ _ _ h => h) (yieldsIf_cell (by kernel_rfl) rfl (by kernel_rfl) (fun W h => hload3x (HNX.out W h))) S0 ?_
    refine held_two (i := 3) (j := 5) (by kernel_rfl) ?_ ?_
    · refine op_enter (i := 3) (some 7) (f := 102) (args := #[.agg #[.int .i64 p, .slice ad ds.length cap, .slice am ms.length capm]]) rfl rfl rfl (by kernel_rfl) (HNN.out wd S0) ?_ (fun c w' h => by obtain ⟨_, _, h, _⟩ := h; cases h) (fun w' h => by obtain ⟨_, _, h, _⟩ := h; cases h)
      rintro ee W1 ⟨g1, X1, he, hg1, hrow1, hb1, hn1⟩
      injection he with he
      subst he
      have S1 : Below (w1.heap.size) w1 W1 := S0.trans (hb1.mono (Nat.le_trans hB0 S0.size))
      have hgl1 : w1.heap.size ≤ g1 := by have := hb1.size; have := S0.size; omega
      refine ⟨S1, ?_⟩
      refine held_take (i := 4) (v := .agg #[.int .i64 p, .slice (some ⟨g1, 0, none⟩) ds.length ds.length, .slice none 0 0]) (some 8) rfl rfl (by kernel_rfl) (by kernel_rfl) (by kernel_rfl) (fun _ _ _ h => h) (yieldsIf_run (by kernel_rfl) (fun W _ => by kernel_rfl)) S1 ?_
      refine held_one (i := 5) (by kernel_rfl) ?_
      · obtain ⟨W2, hW2⟩ : ∃ W', W' = W1.alloc (.cells #[.int .i64 0, .slice none 0 0, .slice none 0 0] 30) := ⟨_, rfl⟩
        have hb2 : Below W1.heap.size W1 W2 := by rw [hW2]; exact below_alloc1 _ _
        have hAg2 : Rz W2 W1.heap.size 30 #[.int .i64 0, .slice none 0 0, .slice none 0 0] := by rw [hW2]; exact Rz.new _ _ _
        have S2 : Below (w1.heap.size) w1 W2 := S1.trans (hb2.mono (Nat.le_trans hB0 S1.size))
        have hGg : w1.heap.size ≤ W1.heap.size := Nat.le_trans hB0 S1.size
        have hrw2 := hrow1.of_block (hb2.block _ hrow1.lt)
        refine op_mem (i := 5) (v := .pointer (some ⟨W1.heap.size, 0, none⟩)) (w' := W2) (some 3) rfl rfl rfl (by rw [hW2]; go_simp) ?_
        refine ⟨S2, ?_⟩
        have hneR := rz_ne_row hAg2 hrw2 coT.1
        have S3 : Below (w1.heap.size) w1 (W2.setRow (W1.heap.size) #[.int .i64 p, .slice (some ⟨g1, 0, none⟩) ds.length ds.length, .slice none 0 0]) := below_setRow S2 hGg _
        refine held_one (i := 6) (by kernel_rfl) ?_
        refine op_row (i := 6) rfl rfl rfl 30 (.tmp 3) (.tmp 8) rfl (W1.heap.size) #[.int .i64 p, .slice (some ⟨g1, 0, none⟩) ds.length ds.length, .slice none 0 0] (by kernel_rfl) (by kernel_rfl) 30 _ hAg2 (infoCo _ _ _) (by kernel_rfl) (by kernel_rfl) ?_
        refine ⟨S3, ?_⟩
        have hAg3 := hAg2.set #[.int .i64 p, .slice (some ⟨g1, 0, none⟩) ds.length ds.length, .slice none 0 0]
        refine wpAnyH_done (by kernel_rfl) ?_ _
        simp only [Act.put, List.setIfInBounds_toArray, List.set_cons_zero, List.set_cons_succ]
        go_wp2
        go_meet
        exact ⟨W1.heap.size, g1, X1, rfl, Lib.hid S3, Lib.hid ⟨hGg, hgl1, hneR⟩, Lib.hid hAg3, Lib.hid (hrw2.of_block (setRow_other _ _ _ _ (Ne.symm hneR))), Lib.hid hn1⟩
    · obtain ⟨W4, hW4⟩ : ∃ W', W' = wd.alloc (.cells #[.int .i64 0, .slice none 0 0, .slice none 0 0] 30) := ⟨_, rfl⟩
      have hb4 : Below wd.heap.size wd W4 := by rw [hW4]; exact below_alloc1 _ _
      have hAg4 : Rz W4 wd.heap.size 30 #[.int .i64 0, .slice none 0 0, .slice none 0 0] := by rw [hW4]; exact Rz.new _ _ _
      have S4 : Below (w1.heap.size) w1 W4 := S0.trans (hb4.mono (Nat.le_trans hB0 S0.size))
      have hGg : w1.heap.size ≤ wd.heap.size := Nat.le_trans hB0 S0.size
      refine op_mem (i := 5) (v := .pointer (some ⟨wd.heap.size, 0, none⟩)) (w' := W4) (some 3) rfl rfl rfl (by rw [hW4]; go_simp) ?_
      refine ⟨S4, ?_⟩
      refine held_one (i := 3) (by kernel_rfl) ?_
      · refine op_enter (i := 3) (some 7) (f := 102) (args := #[.agg #[.int .i64 p, .slice ad ds.length cap, .slice am ms.length capm]]) rfl rfl rfl (by kernel_rfl) (HNN.out W4 S4) ?_ (fun c w' h => by obtain ⟨_, _, h, _⟩ := h; cases h) (fun w' h => by obtain ⟨_, _, h, _⟩ := h; cases h)
        rintro ee W5 ⟨g5, X5, he, hg5, hrow5, hb5, hn5⟩
        injection he with he
        subst he
        have S5 : Below (w1.heap.size) w1 W5 := S4.trans (hb5.mono (Nat.le_trans hB0 S4.size))
        have hAg5 := hAg4.next hb5
        have hgl5 : w1.heap.size ≤ g5 := by have := hb5.size; have := S4.size; omega
        refine ⟨S5, ?_⟩
        refine held_take (i := 4) (v := .agg #[.int .i64 p, .slice (some ⟨g5, 0, none⟩) ds.length ds.length, .slice none 0 0]) (some 8) rfl rfl (by kernel_rfl) (by kernel_rfl) (by kernel_rfl) (fun _ _ _ h => h) (yieldsIf_run (by kernel_rfl) (fun W _ => by kernel_rfl)) S5 ?_
        have hneR := rz_ne_row hAg5 hrow5 coT.1
        have S6 : Below (w1.heap.size) w1 (W5.setRow (wd.heap.size) #[.int .i64 p, .slice (some ⟨g5, 0, none⟩) ds.length ds.length, .slice none 0 0]) := below_setRow S5 hGg _
        refine held_one (i := 6) (by kernel_rfl) ?_
        refine op_row (i := 6) rfl rfl rfl 30 (.tmp 3) (.tmp 8) rfl (wd.heap.size) #[.int .i64 p, .slice (some ⟨g5, 0, none⟩) ds.length ds.length, .slice none 0 0] (by kernel_rfl) (by kernel_rfl) 30 _ hAg5 (infoCo _ _ _) (by kernel_rfl) (by kernel_rfl) ?_
        refine ⟨S6, ?_⟩
        have hAg6 := hAg5.set #[.int .i64 p, .slice (some ⟨g5, 0, none⟩) ds.length ds.length, .slice none 0 0]
        refine wpAnyH_done (by kernel_rfl) ?_ _
        simp only [Act.put, List.setIfInBounds_toArray, List.set_cons_zero, List.set_cons_succ]
        go_wp2
        go_meet
        exact ⟨wd.heap.size, g5, X5, rfl, Lib.hid S6, Lib.hid ⟨hGg, hgl5, hneR⟩, Lib.hid hAg6, Lib.hid (hrow5.of_block (setRow_other _ _ _ _ (Ne.symm hneR))), Lib.hid hn5⟩
  case rest =>
    obtain ⟨gs, gr, X, rfl, HB, HG, HR, HW, HN⟩ := hcut
    obtain ⟨w4, hw4⟩ : ∃ w4 : World, w4 = wc := ⟨_, rfl⟩
    subst hw4
    have b0 := HR.out.cell (i := 0) rfl
    have b1 := HR.out.cell (i := 1) rfl
    have b2 := HR.out.cell (i := 2) rfl
    have HE := Lib.hid (hnD_of HCX.out.1.prime.lo1 HN.out)
    have HDS := Lib.hid (hnD_dsOk HCX.out HN.out)
    have hlen : ((List.range ds.length).map X).length = ds.length := by simp
    have HLEN := Lib.hid hlen
    have hpos : 0 < ds.length := HCX.out.1.len0
    have HC4 : Hid (Cx 0 w4 (.slice (some ⟨gr, 0, none⟩) ds.length ds.length) (.slice none 0 0) ((List.range ds.length).map X) []) := Lib.hid ⟨(w1_row (lo := 0) (hi := w4.heap.size) HW.out (Nat.zero_le _) HW.out.lt hpos).l1, Or.inl ⟨rfl, _, _, rfl⟩⟩
    have HZ := Lib.hid (zeroMaps_any p ms.length _ _ ((List.range ds.length).map X) [] w4 HC4.out HDS.out (by rw [HLEN.out]; exact HML.out))
    clear hlen
    go_wp2_with fail
    refine HZ.out.mono ?_
    rintro e w5 ⟨u, rfl, hu, hb5⟩
    have HR5 := Lib.hid (HR.out.next hb5)
    have HW5 := Lib.hid (HW.out.of_block (hb5.block _ HW.out.lt))
    have HB5 := Lib.hid (HB.out.trans (hb5.mono HB.out.size))
    have hrl := HW.out.lt
    have hsl := HR.out.lt
    have hs45 := hb5.size
    have HU := Lib.hid hu
    obtain ⟨au, cu, hue⟩ := hu.shape
    rw [zmF_length] at hue
    subst hue
    clear hu hb5 HZ b0 b1 b2 HC4
    have r0 : w5.rowIs gs 30 3 (sel3 _ _ _) := rowIs3 HR5.out
    have b2 := r0.cell (i := 2) (by omega)
    have z2 := r0.frozen 2
    have r1 := r0.set 2 (.slice au ms.length cu)
    obtain ⟨w6, hw6⟩ : ∃ w6 : World, w6 = w5.setCell ⟨gs, 2, none⟩ (.slice au ms.length cu) := ⟨_, rfl⟩
    have hG := HG.out
    have HB6 : Hid (Below w1.heap.size w1 w6) := Lib.hid (by rw [hw6]; exact HB5.out.setCell (by show w1.heap.size ≤ gs; omega) _)
    have HW6 : Hid (w6.rowIs gr 2 ds.length (fun i => .int .i64 (X i))) := Lib.hid (by rw [hw6]; exact HW5.out.setOther (by show gr ≠ gs; omega) _)
    have HU6 : Hid (Rw3 w4.heap.size w5.heap.size w6 (.slice au ms.length cu) (zmF ((List.range ds.length).map X) ms.length)) := Lib.hid (by rw [hw6]; exact HU.out.same (Same.set _ (Or.inl hsl)))
    have hz6 : w6.heap.size = w5.heap.size := by rw [hw6]; simp
    rw [← hw6] at r1
    have e0 : w6.cell? ⟨gs, 0, none⟩ = some (.int .i64 p) := r1.cell (i := 0) (by omega)
    have e1 : w6.cell? ⟨gs, 1, none⟩ = some (.slice (some ⟨gr, 0, none⟩) ds.length ds.length) := r1.cell (i := 1) (by omega)
    have e2 : w6.cell? ⟨gs, 2, none⟩ = some (.slice au ms.length cu) := r1.cell (i := 2) (by omega)
    have HR6 : Hid (Rz w6 (w.heap.size + 1) 30 #[.int .i64 0, .slice none 0 0, .slice none 0 0]) := Lib.hid (HR0.out.next HB6.out)
    have HZ6 := Lib.hid hz6
    clear hz6 r0 r1 hG HU HW5 HB5 HR5 HW HB HR
    go_upto_region 3 with fail
    rw [← hw6]
    clear hw6 b2 z2
    have HR1 : ∃ x0 x1 x2, w6.heap[w.heap.size + 1]? = some (.cells #[x0, x1, x2] 30) := ⟨_, _, _, HR6.out⟩
    obtain ⟨x0, x1, x2, hr⟩ := HR1
    have r0 : w6.rowIs (w.heap.size + 1) 30 3 (sel3 x0 x1 x2) := rowIs3 hr
    have q0 : w6.cell? ⟨w.heap.size + 1, 0, none⟩ = some x0 := r0.cell (i := 0) (by omega)
    have z0 : w6.frozen? ⟨w.heap.size + 1, 0, none⟩ = false := r0.frozen 0
    have r1 := r0.set 0 (.int .i64 p)
    have q1 : (w6.setCell ⟨w.heap.size + 1, 0, none⟩ (.int .i64 p)).cell? ⟨w.heap.size + 1, 1, none⟩ = some x1 := r1.cell (i := 1) (by omega)
    have z1 : (w6.setCell ⟨w.heap.size + 1, 0, none⟩ (.int .i64 p)).frozen? ⟨w.heap.size + 1, 1, none⟩ = false := r1.frozen 1
    have r2 := r1.set 1 (.slice (some ⟨gr, 0, none⟩) ds.length ds.length)
    have q2 : ((w6.setCell ⟨w.heap.size + 1, 0, none⟩ (.int .i64 p)).setCell ⟨w.heap.size + 1, 1, none⟩ (.slice (some ⟨gr, 0, none⟩) ds.length ds.length)).cell? ⟨w.heap.size + 1, 2, none⟩ = some x2 := r2.cell (i := 2) (by omega)
    have z2 : ((w6.setCell ⟨w.heap.size + 1, 0, none⟩ (.int .i64 p)).setCell ⟨w.heap.size + 1, 1, none⟩ (.slice (some ⟨gr, 0, none⟩) ds.length ds.length)).frozen? ⟨w.heap.size + 1, 2, none⟩ = false := r2.frozen 2
    have r3 := r2.set 2 (.slice au ms.length cu)
    obtain ⟨WF, hWF⟩ : ∃ W : World, W = (((w6.setCell ⟨w.heap.size + 1, 0, none⟩ (.int .i64 p)).setCell ⟨w.heap.size + 1, 1, none⟩ (.slice (some ⟨gr, 0, none⟩) ds.length ds.length)).setCell ⟨w.heap.size + 1, 2, none⟩ (.slice au ms.length cu)) := ⟨_, rfl⟩
    have hbWF : ∀ B (w0 : World), B ≤ w.heap.size + 1 → Below B w0 w6 → Below B w0 WF := fun B w0 hl hb => by rw [hWF]; exact (((hb.setCell (by show B ≤ w.heap.size + 1; exact hl) _).setCell (by show B ≤ w.heap.size + 1; exact hl) _).setCell (by show B ≤ w.heap.size + 1; exact hl) _)
    have hsWF : ∀ lo hi, w.heap.size + 1 < lo ∨ hi ≤ w.heap.size + 1 → Same lo hi w6 WF := fun lo hi hl => by rw [hWF]; exact (((Same.set _ hl).trans (Same.set _ hl)).trans (Same.set _ hl))
    have hzWF : WF.heap.size = w6.heap.size := by rw [hWF]; simp
    rw [← hWF] at r3
    have f0 : WF.cell? ⟨w.heap.size + 1, 0, none⟩ = some (.int .i64 p) := r3.cell (i := 0) (by omega)
    have f1 : WF.cell? ⟨w.heap.size + 1, 1, none⟩ = some (.slice (some ⟨gr, 0, none⟩) ds.length ds.length) := r3.cell (i := 1) (by omega)
    have f2 : WF.cell? ⟨w.heap.size + 1, 2, none⟩ = some (.slice au ms.length cu) := r3.cell (i := 2) (by omega)
    have HWWF := Lib.hid hWF
    clear hr r0 r1 r2 r3 hWF
    have HBF := Lib.hid (hbWF w.heap.size w (by omega) (HX1.out.below.trans (HB6.out.mono (by have := HS1.out; omega))))
    have hg3 := HG.out
    have hsz1 := HS1.out
    have HUF := Lib.hid (HU6.out.same (hsWF _ _ (Or.inl (by omega))))
    have HWF : Hid (WF.rowIs gr 2 ds.length (fun i => .int .i64 (X i))) := Lib.hid (by rw [HWWF.out]; exact ((HW6.out.setOther (by show gr ≠ w.heap.size + 1; omega) _).setOther (by show gr ≠ w.heap.size + 1; omega) _).setOther (by show gr ≠ w.heap.size + 1; omega) _)
    have HHF : Hid (WF.heap.size = w5.heap.size) := Lib.hid (hzWF.trans HZ6.out)
    clear hbWF hsWF hzWF hsz1 hg3
    go_wp2
    rw [← HWWF.out]
    refine bodyPost_ret (v := .agg #[.int .i64 p, .slice (some ⟨gr, 0, none⟩) ds.length ds.length, .slice au ms.length cu]) ?_ rfl ?_
    · simp only [results, HRES.out]
      go_simp
    · refine ⟨_, rfl, ?_, HBF.out⟩
      have hk := rwC_of (lo := w.heap.size) (hi := WF.heap.size) (p := p) HWF.out (by have := HG.out; have := HS1.out; omega) HWF.out.lt (by omega) (HUF.out.wider (Nat.le_refl _) (Nat.le_of_eq HHF.out.symm)) hrl
      rwa [HE.out] at hk

end Go.Proofs.Ythfcadgbipnemaa
