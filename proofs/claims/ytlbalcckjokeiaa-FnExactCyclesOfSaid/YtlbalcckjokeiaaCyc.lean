/-
  Cycles: impl.cycleSpace, CyclesOf and spec.l01Cycles, CyclesOf by their contracts.
-/
import Derived.Test.YtlbalcckjokeiaaKer
import Derived.Test.YtlbalcckjokeiaaAnn
import Derived.Test.YtlbalcckjokeiaaFlip
namespace Go.Proofs.Ytlbalcckjokeiaa
open Go.RowKit

theorem hloadT (w : World) {b o : Nat} {x : Value} (h : w.cell? ⟨b, o, none⟩ = some x) : (Instr.loadAt 22 (.pointer (some ⟨b, o, none⟩))).run Try.prog w = .ok x w := by go_simp
theorem hloadU (w : World) {b o : Nat} {x : Value} (h : w.cell? ⟨b, o, none⟩ = some x) : (Instr.loadAt 32 (.pointer (some ⟨b, o, none⟩))).run Try.prog w = .ok x w := by go_simp
theorem hidxU (b o : Nat) {k n : Nat} (cap : Nat) (hk : k < n) (w : World) : (Instr.indexAt 32 (.slice (some ⟨b, o, none⟩) n cap) (.int .i64 k)).run Try.prog w = .ok (.pointer (some ⟨b, o + k, none⟩)) w := by
  have h2 : (0 : Int) ≤ (k : Int) := by omega
  have h3 : (k : Int) < (n : Int) := by omega
  go_simp

/-- The table whose columns the cycles of a degree annihilate, and its width. -/
def cycT (ds : List Int) (ms : List (List (List Int))) (q : Nat) : List (List Int) := mapZ ds ms (q : Int)
def cycM (ds : List Int) (q : Nat) : Nat := if q = 0 then 0 else dimN ds ((q - 1 : Nat) : Int)
theorem dimN_le8 {p : Int} {ds : List Int} {ms : List (List (List Int))} (h : IsCx p ds ms) (q : Nat) : dimN ds (q : Int) ≤ 8 ∧ ds.getD q 0 = (dimN ds (q : Int) : Int) := by
  have := h.1.dim q
  unfold dimN
  rw [Int.toNat_natCast]
  omega
theorem cyc_ok {p : Int} {ds : List Int} {ms : List (List (List Int))} (h : IsCx p ds ms) {q : Nat} (hq : q < ds.length) :
    (cycT ds ms q).length = dimN ds (q : Int) ∧ (∀ r ∈ cycT ds ms q, RowOk p (cycM ds q : Int) r) ∧ cycM ds q ≤ 8 := by
  have hd := dimN_le8 h q
  by_cases h0 : q = 0
  · subst h0
    have e : cycT ds ms 0 = List.replicate (dimN ds ((0 : Nat) : Int)) [] := by
      unfold cycT mapZ
      rw [if_neg (by omega)]
      have : dimZ ds ((0 : Nat) : Int) = ds.getD 0 0 := by
        unfold dimZ
        rw [if_pos (by omega)]
        rfl
      rw [this]
      rfl
    rw [e]
    refine ⟨List.length_replicate, fun r hr => ?_, by simp [cycM]⟩
    rw [List.eq_of_mem_replicate hr]
    exact ⟨by simp [cycM], by simp⟩
  · obtain ⟨k, rfl⟩ : ∃ k, q = k + 1 := ⟨q - 1, by omega⟩
    have hml := h.1.mlen
    have hkm : k < ms.length := by omega
    have e : cycT ds ms (k + 1) = tabN ms k := by
      unfold cycT mapZ tabN
      rw [if_pos (by omega), show (((k + 1 : Nat) : Int)).toNat - 1 = k by omega]
    have hk := dimN_le8 h k
    have ht := h.tab hkm
    have e2 : cycM ds (k + 1) = dimN ds (k : Int) := by simp [cycM]
    rw [e, e2]
    refine ⟨by have := ht.1; have e3 : tabN ms k = ms.getD k [] := rfl; rw [e3]; omega, fun r hr => by rw [← hk.2]; exact ht.2 r hr, hk.1⟩
theorem cycT_succ {p : Int} {ds : List Int} {ms : List (List (List Int))} (h : IsCx p ds ms) {k : Nat} (hq : k + 1 < ds.length) : cycT ds ms (k + 1) = tabN ms k := by
  have hml := h.1.mlen
  unfold cycT mapZ tabN
  rw [if_pos (by omega), show (((k + 1 : Nat) : Int)).toNat - 1 = k by omega]
/-- The columns as vectors. -/
theorem ker_cols {p : Int} {d c : Nat} {t : List (List Int)} (htl : t.length = d) (v : Lin.V) : Lin.Ker p d ((flipT c t).map ofL) v ↔ CycS p d c t v := by
  have key : ∀ j, j < c → Lin.dot d (ofL ((List.range t.length).map fun i => (t.getD i []).getD j 0)) v = Lin.dot d (Lin.col (fun i => ofL (t.getD i [])) j) v := fun j _ => Lin.dot_congr (fun i hi => by
    have : ofL ((List.range t.length).map fun i => (t.getD i []).getD j 0) i = (t.getD i []).getD j 0 := by
      rw [ofL_at (by simp; omega)]
      simp
    rw [this]
    rfl)
  constructor
  · intro h
    refine ⟨h.md, h.wd, fun j hj => ?_⟩
    rw [← key j hj]
    exact h.ann _ (List.mem_map.2 ⟨_, List.mem_map.2 ⟨j, List.mem_range.2 hj, rfl⟩, rfl⟩)
  · rintro ⟨h1, h2, h3⟩
    refine ⟨h1, h2, fun r hr => ?_⟩
    obtain ⟨row, hrow, rfl⟩ := List.mem_map.1 hr
    obtain ⟨j, hj, rfl⟩ := List.mem_map.1 hrow
    have hj' := List.mem_range.1 hj
    rw [key j hj']
    exact h3 j hj'
theorem ker_none {p : Int} {d : Nat} {t : List (List Int)} (v : Lin.V) : Lin.Ker p d [] v ↔ CycS p d 0 t v :=
  ⟨fun h => ⟨h.md, h.wd, fun j hj => absurd hj (Nat.not_lt_zero _)⟩, fun h => ⟨h.1, h.2.1, by simp⟩⟩
theorem SpF.congr {p : Int} {n : Nat} {S S' : Lin.V → Prop} {R : List Lin.V} (h : SpF p n S R) (e : ∀ v, S v ↔ S' v) : SpF p n S' R := ⟨h.1, h.2.1, fun v => (h.2.2 v).trans (e v)⟩
theorem flip_row {p : Int} {c : Nat} {t : List (List Int)} (h : ∀ r ∈ t, RowOk p (c : Int) r) : ∀ r ∈ flipT c t, RowOk p (t.length : Int) r := fun r hr => by
  obtain ⟨j, hj, rfl⟩ := List.mem_map.1 hr
  have hj' := List.mem_range.1 hj
  refine ⟨by simp, fun x hx => ?_⟩
  obtain ⟨i, hi, rfl⟩ := List.mem_map.1 hx
  have hi' := List.mem_range.1 hi
  have hro := h _ (List.getElem_mem hi')
  show 0 ≤ (t.getD i []).getD j 0 ∧ (t.getD i []).getD j 0 ≤ p - 1
  rw [getD_of_lt _ hi']
  have hl : j < (t[i]).length := by have := hro.1; omega
  rw [getD_of_lt _ hl]
  exact hro.2 _ (List.getElem_mem hl)

set_option maxHeartbeats 6400000 in
set_option maxRecDepth 100000 in
theorem cycleSpace_any (p : Int) (q : Nat) (dv mv : Value) (ds : List Int) (ms : List (List (List Int))) (w : World) (h : Cx 0 w dv mv ds ms) (hcx : IsCx p ds ms) (hq : q < ds.length) :
    Calls Try.prog 74 #[.agg #[.int .i64 p, dv, mv], .int .i64 q] w (VsR (SpF p (dimN ds (q : Int)) (CycS p (dimN ds (q : Int)) (cycM ds q) (cycT ds ms q))) w) := by
  have HX0 := Lib.hid (Bx.start (p := p) 37 h)
  have HCX := Lib.hid hcx
  have hp1 := hcx.1.prime.lo1
  have hl6 := hcx.1.len1
  have hml := hcx.1.mlen
  refine Sl.cases HX0.out.cx.dims (fun _ _ hx _ => absurd hq (by simp [hx])) (fun bd od capd hvd _ _ _ => ?_)
  subst hvd
  obtain ⟨w1, hw1⟩ : ∃ w1, w1 = w.alloc (.cells #[.int .i64 p, .slice (some ⟨bd, od, none⟩) ds.length capd, mv] 37) := ⟨_, rfl⟩
  rw [← hw1] at HX0
  obtain ⟨d, hd⟩ : ∃ d, d = dimN ds (q : Int) := ⟨_, rfl⟩
  have hd8 : d ≤ 8 := by rw [hd]; exact (dimN_le8 hcx q).1
  have HNX : Hid (∀ W, Below w1.heap.size w1 W → Bx w W w.heap.size p (.slice (some ⟨bd, od, none⟩) ds.length capd) mv ds ms) := Lib.hid (fun W h => HX0.out.next h)
  have HDQ : Hid (∀ W, Below w1.heap.size w1 W → W.cell? ⟨bd, od + q, none⟩ = some (.int .i64 (d : Int))) := Lib.hid (fun W h => by
    obtain ⟨ud, hud, hrd⟩ := Sl.at (HNX.out W h).cx.dims hq
    rw [hud, hrd, ← getD_of_lt 0 hq, (dimN_le8 hcx q).2, hd])
  rw [← hd]
  have HDE := Lib.hid hd
  clear hd
  by_cases hq0 : q = 0
  · have HCM : Hid (cycM ds q = 0) := Lib.hid (by rw [hq0]; rfl)
    have hgt : ¬ ((0 : Int) < (q : Int)) := by omega
    have HV0 : ∀ W, Vs 0 W (.slice none 0 0) [] := fun W => Or.inl ⟨rfl, none, 0, rfl⟩
    clear h hcx hq0
    go_enter Try.func74, Try.ntmps74
    go_wp2
    rw [← hw1]
    clear hw1
    refine wp_region_held (S := fun W => Below w1.heap.size w1 W) (by kernel_rfl) ?_
    have S3 : Below w1.heap.size w1 w1.drew := (Below.refl _ _).drew
    refine held_take (i := 0) (v := .pointer (some ⟨w.heap.size, 0, none⟩)) (some 22) rfl rfl (by kernel_rfl) (by kernel_rfl) (by kernel_rfl) (fun _ _ _ h => h) (yieldsIf_run (by kernel_rfl) (fun W _ => by kernel_rfl)) S3 ?_
    refine held_take (i := 1) (v := .int .i64 p) (some 23) rfl rfl (by kernel_rfl) (by kernel_rfl) (by kernel_rfl) (fun _ _ _ h => h) (yieldsIf_cell (by kernel_rfl) rfl (by kernel_rfl) (fun W h => hload W ((HNX.out W h).c0))) S3 ?_
    refine held_take (i := 2) (v := .pointer (some ⟨w.heap.size, 1, none⟩)) (some 24) rfl rfl (by kernel_rfl) (by kernel_rfl) (by kernel_rfl) (fun _ _ _ h => h) (yieldsIf_run (by kernel_rfl) (fun W _ => by kernel_rfl)) S3 ?_
    refine held_take (i := 3) (v := .slice (some ⟨bd, od, none⟩) ds.length capd) (some 25) rfl rfl (by kernel_rfl) (by kernel_rfl) (by kernel_rfl) (fun _ _ _ h => h) (yieldsIf_cell (by kernel_rfl) rfl (by kernel_rfl) (fun W h => hloadS W ((HNX.out W h).c1))) S3 ?_
    refine held_take (i := 4) (v := .int .i64 (q : Int)) (some 26) rfl rfl (by kernel_rfl) (by kernel_rfl) (by kernel_rfl) (fun _ _ _ h => h) (yieldsIf_move (by kernel_rfl) rfl (by kernel_rfl)) S3 ?_
    refine held_take (i := 5) (v := .pointer (some ⟨bd, od + q, none⟩)) (some 27) rfl rfl (by kernel_rfl) (by kernel_rfl) (by kernel_rfl) (fun _ _ _ h => h) (yieldsIf_index (by kernel_rfl) rfl (by kernel_rfl) (by kernel_rfl) (hidxI bd od capd hq)) S3 ?_
    refine held_take (i := 6) (v := .int .i64 (d : Int)) (some 28) rfl rfl (by kernel_rfl) (by kernel_rfl) (by kernel_rfl) (fun _ _ _ h => h) (yieldsIf_cell (by kernel_rfl) rfl (by kernel_rfl) (fun W h => hload W (HDQ.out W h))) S3 ?_
    refine held_take (i := 7) (v := .slice none 0 0) (some 29) rfl rfl (by kernel_rfl) (by kernel_rfl) (by kernel_rfl) (fun _ _ _ h => h) (yieldsIf_move (by kernel_rfl) rfl (by kernel_rfl)) S3 ?_
    refine held_enter (i := 8) (some 30) (f := 125) (args := #[.int .i64 p, .int .i64 (d : Int), .slice none 0 0]) (by kernel_rfl) rfl rfl rfl (by kernel_rfl) (annihilator_any p d _ [] _ HCX.out.1.prime (HV0 _) (by simp) (by simp) (by omega) ?hlen) ?_ (fun c w' h => by obtain ⟨_, _, h, _⟩ := h; cases h) (fun w' h => by obtain ⟨_, _, h, _⟩ := h; cases h)
    case hlen => simp
    rintro e4 W4 ⟨s4, R, he4, hb4, ho4, hsp⟩
    injection he4 with he4
    subst he4
    have S1 : Below w1.heap.size w1 W4 := S3.trans hb4
    have HO4 := Lib.hid ho4
    have HSP := Lib.hid hsp
    have HB4 := Lib.hid (HNX.out _ S1).below
    have hs3 : w.heap.size ≤ w1.heap.size := HX0.out.below.size
    refine ⟨S1, ?_⟩
    refine held_take (i := 9) (v := e4) (some 4) rfl rfl (by kernel_rfl) (by kernel_rfl) (by kernel_rfl) (fun _ _ _ h => h) (yieldsIf_assign (by kernel_rfl) rfl (by kernel_rfl)) S1 ?_
    refine wpAnyH_done (by kernel_rfl) ?_ _
    simp only [Act.put, List.setIfInBounds_toArray, List.set_cons_zero, List.set_cons_succ]
    clear S3 S1 hb4 ho4 hsp
    go_wp2
    go_ret
    refine ⟨_, R, rfl, HB4.out, ⟨HO4.out.1, HO4.out.2.imp id (fun ⟨g, cap, cur, h1, h2, h3⟩ => ⟨g, cap, cur, h1, Nat.le_trans hs3 h2, h3⟩)⟩, HSP.out.congr (fun v => ?_)⟩
    rw [HCM.out]
    exact ker_none v
  · obtain ⟨k, rfl⟩ : ∃ k, q = k + 1 := ⟨q - 1, by omega⟩
    have hkm : k < ms.length := by omega
    have hkd : k < ds.length := by omega
    refine Sl.cases HX0.out.cx.maps (fun _ _ hx _ => absurd hkm (by simp [hx])) (fun bm om capm hvm _ _ hclm => ?_)
    subst hvm
    obtain ⟨um, hum, hrm⟩ := hclm k hkm
    obtain ⟨t, ht⟩ : ∃ t, t = tabN ms k := ⟨_, rfl⟩
    have HTE : Hid (cycT ds ms (k + 1) = t) := Lib.hid (by rw [ht]; exact cycT_succ hcx hq)
    have HRM : Hid (L2 0 w1 um t) := Lib.hid (by rw [ht]; unfold tabN; rw [getD_of_lt _ hkm]; exact hrm)
    obtain ⟨c, hc⟩ : ∃ c, c = dimN ds (k : Int) := ⟨_, rfl⟩
    have HCM : Hid (cycM ds (k + 1) = c) := Lib.hid (by rw [hc]; simp [cycM])
    have hc8 : c ≤ 8 := by rw [hc]; exact (dimN_le8 hcx k).1
    have HTL : Hid (t.length = d) := Lib.hid (by rw [← HTE.out, HDE.out]; exact (cyc_ok hcx hq).1)
    have HTR : Hid (∀ r ∈ t, RowOk p (c : Int) r) := Lib.hid (by rw [← HTE.out, ← HCM.out]; exact (cyc_ok hcx hq).2.1)
    have HTB : Hid (∀ W, Below w1.heap.size w1 W → W.cell? ⟨bm, om + k, none⟩ = some um) := Lib.hid (fun W h => later h (Nat.le_refl _) hum)
    have HDK : Hid (∀ W, Below w1.heap.size w1 W → W.cell? ⟨bd, od + k, none⟩ = some (.int .i64 (c : Int))) := Lib.hid (fun W h => by
      obtain ⟨ud, hud, hrd⟩ := Sl.at (HNX.out W h).cx.dims hkd
      rw [hud, hrd, ← getD_of_lt 0 hkd, (dimN_le8 hcx k).2, hc])
    have hsub : ∀ w, (binOp .sub 2 (.int .i64 ((k + 1 : Nat) : Int)) (.int .i64 1)).run Try.prog w = .ok (.int .i64 (k : Int)) w := fun w => by
      have h := hsubI (a := ((k + 1 : Nat) : Int)) (b := 1) (by omega) (by omega) w
      rwa [show ((k + 1 : Nat) : Int) - 1 = (k : Int) by omega] at h
    have hgt : (0 : Int) < ((k + 1 : Nat) : Int) := by omega
    clear h hcx hclm hum hrm ht hc hq0
    go_enter Try.func74, Try.ntmps74
    go_wp2
    rw [← hw1]
    clear hw1
    refine wp_region_held (S := fun W => Below w1.heap.size w1 W) (by kernel_rfl) ?_
    have S0 : Below w1.heap.size w1 w1.drew := (Below.refl _ _).drew
    refine held_take (i := 0) (v := .pointer (some ⟨w.heap.size, 2, none⟩)) (some 8) rfl rfl (by kernel_rfl) (by kernel_rfl) (by kernel_rfl) (fun _ _ _ h => h) (yieldsIf_run (by kernel_rfl) (fun W _ => by kernel_rfl)) S0 ?_
    refine held_take (i := 1) (v := .slice (some ⟨bm, om, none⟩) ms.length capm) (some 9) rfl rfl (by kernel_rfl) (by kernel_rfl) (by kernel_rfl) (fun _ _ _ h => h) (yieldsIf_cell (by kernel_rfl) rfl (by kernel_rfl) (fun W h => hloadU W ((HNX.out W h).c2))) S0 ?_
    refine held_take (i := 2) (v := .int .i64 ((k + 1 : Nat) : Int)) (some 10) rfl rfl (by kernel_rfl) (by kernel_rfl) (by kernel_rfl) (fun _ _ _ h => h) (yieldsIf_move (by kernel_rfl) rfl (by kernel_rfl)) S0 ?_
    refine held_take (i := 3) (v := .int .i64 (k : Int)) (some 11) rfl rfl (by kernel_rfl) (by kernel_rfl) (by kernel_rfl) (fun _ _ _ h => h) (yieldsIf_bin (by kernel_rfl) rfl (by kernel_rfl) (by kernel_rfl) (fun _ => rfl) hsub) S0 ?_
    refine held_take (i := 4) (v := .pointer (some ⟨bm, om + k, none⟩)) (some 12) rfl rfl (by kernel_rfl) (by kernel_rfl) (by kernel_rfl) (fun _ _ _ h => h) (yieldsIf_index (by kernel_rfl) rfl (by kernel_rfl) (by kernel_rfl) (hidxU bm om capm hkm)) S0 ?_
    refine held_take (i := 5) (v := um) (some 13) rfl rfl (by kernel_rfl) (by kernel_rfl) (by kernel_rfl) (fun _ _ _ h => h) (yieldsIf_cell (by kernel_rfl) rfl (by kernel_rfl) (fun W h => hloadT W (HTB.out W h))) S0 ?_
    refine held_take (i := 6) (v := .pointer (some ⟨w.heap.size, 1, none⟩)) (some 14) rfl rfl (by kernel_rfl) (by kernel_rfl) (by kernel_rfl) (fun _ _ _ h => h) (yieldsIf_run (by kernel_rfl) (fun W _ => by kernel_rfl)) S0 ?_
    refine held_take (i := 7) (v := .slice (some ⟨bd, od, none⟩) ds.length capd) (some 15) rfl rfl (by kernel_rfl) (by kernel_rfl) (by kernel_rfl) (fun _ _ _ h => h) (yieldsIf_cell (by kernel_rfl) rfl (by kernel_rfl) (fun W h => hloadS W ((HNX.out W h).c1))) S0 ?_
    refine held_take (i := 8) (v := .int .i64 ((k + 1 : Nat) : Int)) (some 16) rfl rfl (by kernel_rfl) (by kernel_rfl) (by kernel_rfl) (fun _ _ _ h => h) (yieldsIf_move (by kernel_rfl) rfl (by kernel_rfl)) S0 ?_
    refine held_take (i := 9) (v := .int .i64 (k : Int)) (some 17) rfl rfl (by kernel_rfl) (by kernel_rfl) (by kernel_rfl) (fun _ _ _ h => h) (yieldsIf_bin (by kernel_rfl) rfl (by kernel_rfl) (by kernel_rfl) (fun _ => rfl) hsub) S0 ?_
    refine held_take (i := 10) (v := .pointer (some ⟨bd, od + k, none⟩)) (some 18) rfl rfl (by kernel_rfl) (by kernel_rfl) (by kernel_rfl) (fun _ _ _ h => h) (yieldsIf_index (by kernel_rfl) rfl (by kernel_rfl) (by kernel_rfl) (hidxI bd od capd hkd)) S0 ?_
    refine held_take (i := 11) (v := .int .i64 (c : Int)) (some 19) rfl rfl (by kernel_rfl) (by kernel_rfl) (by kernel_rfl) (fun _ _ _ h => h) (yieldsIf_cell (by kernel_rfl) rfl (by kernel_rfl) (fun W h => hload W (HDK.out W h))) S0 ?_
    refine held_enter (i := 12) (some 20) (f := 88) (args := #[um, .int .i64 (c : Int)]) (by kernel_rfl) rfl rfl rfl (by kernel_rfl) (transposedTable_any c um t w1.drew (HRM.out.below S0) (by have := HTL.out; omega) (by omega) (fun r hr => by have := (HTR.out r hr).1; omega)) ?_ (fun c w' h => by cases h.1) (fun w' h => by cases h.1)
    rintro e4 W4 ⟨he4, hm4⟩
    injection he4 with he4
    subst he4
    have S1 : Below w1.heap.size w1 W4 := S0.trans hm4.below
    have HT4 : Hid (L2 0 W4 (.slice (some ⟨w1.drew.heap.size, 0, none⟩) c c) (flipT c t)) := Lib.hid (hm4.w2.l2.lower (Nat.zero_le _))
    have HFR := Lib.hid (flip_row HTR.out)
    have hfl : (flipT c t).length = c := by simp [flipT, tableOf]
    refine ⟨S1, ?_⟩
    refine held_enter (i := 13) (some 21) (f := 64) (args := #[.slice (some ⟨w1.drew.heap.size, 0, none⟩) c c]) (by kernel_rfl) rfl rfl rfl (by kernel_rfl) (vectorsOf_any _ (flipT c t) W4 HT4.out (by omega) (fun r hr => by have := (HFR.out r hr).1; have := HTL.out; omega)) ?_ (fun c w' h => by obtain ⟨_, _, h, _⟩ := h; cases h) (fun w' h => by obtain ⟨_, _, h, _⟩ := h; cases h)
    rintro e5 W5 ⟨s5, M, he5, hb5, ho5, rfl⟩
    injection he5 with he5
    subst he5
    have S2 : Below w1.heap.size w1 W5 := S1.trans (hb5.mono S1.size)
    have HO5 := Lib.hid (ho5.vs.lower (Nat.zero_le _))
    have HSW := Lib.hid S2
    refine ⟨S2, ?_⟩
    refine held_take (i := 14) (v := e5) (some 5) rfl rfl (by kernel_rfl) (by kernel_rfl) (by kernel_rfl) (fun _ _ _ h => h) (yieldsIf_assign (by kernel_rfl) rfl (by kernel_rfl)) S2 ?_
    refine wpAnyH_done (by kernel_rfl) ?_ _
    simp only [Act.put, List.setIfInBounds_toArray, List.set_cons_zero, List.set_cons_succ]
    clear S0 S1 S2 hm4 hb5 ho5
    go_wp2
    refine wp_region_held (S := fun W => Below w1.heap.size w1 W) (by kernel_rfl) ?_
    have S3 : Below w1.heap.size w1 W5.drew := HSW.out.drew
    refine held_take (i := 0) (v := .pointer (some ⟨w.heap.size, 0, none⟩)) (some 22) rfl rfl (by kernel_rfl) (by kernel_rfl) (by kernel_rfl) (fun _ _ _ h => h) (yieldsIf_run (by kernel_rfl) (fun W _ => by kernel_rfl)) S3 ?_
    refine held_take (i := 1) (v := .int .i64 p) (some 23) rfl rfl (by kernel_rfl) (by kernel_rfl) (by kernel_rfl) (fun _ _ _ h => h) (yieldsIf_cell (by kernel_rfl) rfl (by kernel_rfl) (fun W h => hload W ((HNX.out W h).c0))) S3 ?_
    refine held_take (i := 2) (v := .pointer (some ⟨w.heap.size, 1, none⟩)) (some 24) rfl rfl (by kernel_rfl) (by kernel_rfl) (by kernel_rfl) (fun _ _ _ h => h) (yieldsIf_run (by kernel_rfl) (fun W _ => by kernel_rfl)) S3 ?_
    refine held_take (i := 3) (v := .slice (some ⟨bd, od, none⟩) ds.length capd) (some 25) rfl rfl (by kernel_rfl) (by kernel_rfl) (by kernel_rfl) (fun _ _ _ h => h) (yieldsIf_cell (by kernel_rfl) rfl (by kernel_rfl) (fun W h => hloadS W ((HNX.out W h).c1))) S3 ?_
    refine held_take (i := 4) (v := .int .i64 ((k + 1 : Nat) : Int)) (some 26) rfl rfl (by kernel_rfl) (by kernel_rfl) (by kernel_rfl) (fun _ _ _ h => h) (yieldsIf_move (by kernel_rfl) rfl (by kernel_rfl)) S3 ?_
    refine held_take (i := 5) (v := .pointer (some ⟨bd, od + (k + 1), none⟩)) (some 27) rfl rfl (by kernel_rfl) (by kernel_rfl) (by kernel_rfl) (fun _ _ _ h => h) (yieldsIf_index (by kernel_rfl) rfl (by kernel_rfl) (by kernel_rfl) (hidxI bd od capd hq)) S3 ?_
    refine held_take (i := 6) (v := .int .i64 (d : Int)) (some 28) rfl rfl (by kernel_rfl) (by kernel_rfl) (by kernel_rfl) (fun _ _ _ h => h) (yieldsIf_cell (by kernel_rfl) rfl (by kernel_rfl) (fun W h => hload W (HDQ.out W h))) S3 ?_
    refine held_take (i := 7) (v := e5) (some 29) rfl rfl (by kernel_rfl) (by kernel_rfl) (by kernel_rfl) (fun _ _ _ h => h) (yieldsIf_move (by kernel_rfl) rfl (by kernel_rfl)) S3 ?_
    refine held_enter (i := 8) (some 30) (f := 125) (args := #[.int .i64 p, .int .i64 (d : Int), e5]) (by kernel_rfl) rfl rfl rfl (by kernel_rfl) (annihilator_any p d _ ((flipT c t).map ofL) _ HCX.out.1.prime HO5.out (vecs_md (by omega) HFR.out) (fun u hu => by have := vecs_wd (n := d) (fun r hr => by have := (HFR.out r hr).1; have := HTL.out; omega) u hu; exact this) (by omega) ?hlen) ?_ (fun c w' h => by obtain ⟨_, _, h, _⟩ := h; cases h) (fun w' h => by obtain ⟨_, _, h, _⟩ := h; cases h)
    case hlen => rw [List.length_map]; omega
    rintro e6 W6 ⟨s6, R, he6, hb6, ho6, hsp⟩
    injection he6 with he6
    subst he6
    have S4 : Below w1.heap.size w1 W6 := S3.trans (hb6.mono S3.size)
    have hs5 : w.heap.size ≤ W5.heap.size := Nat.le_trans HX0.out.below.size HSW.out.size
    have HO6 := Lib.hid ho6
    have HSP := Lib.hid hsp
    have HB6 := Lib.hid (HNX.out _ S4).below
    refine ⟨S4, ?_⟩
    refine held_take (i := 9) (v := e6) (some 4) rfl rfl (by kernel_rfl) (by kernel_rfl) (by kernel_rfl) (fun _ _ _ h => h) (yieldsIf_assign (by kernel_rfl) rfl (by kernel_rfl)) S4 ?_
    refine wpAnyH_done (by kernel_rfl) ?_ _
    simp only [Act.put, List.setIfInBounds_toArray, List.set_cons_zero, List.set_cons_succ]
    clear S3 S4 hb6 ho6 hsp
    go_wp2
    go_ret
    refine ⟨_, R, rfl, HB6.out, ⟨HO6.out.1, HO6.out.2.imp id (fun ⟨g, cap, cur, h1, h2, h3⟩ => ⟨g, cap, cur, h1, Nat.le_trans hs5 h2, h3⟩)⟩, HSP.out.congr (fun v => ?_)⟩
    rw [HCM.out, HTE.out]
    exact ker_cols HTL.out v

/-- The cycles of a degree. -/
def CycD (p : Int) (ds : List Int) (ms : List (List (List Int))) (n : Int) : Lin.V → Prop := CycS p (dimN ds n) (cycM ds n.toNat) (cycT ds ms n.toNat)
set_option maxHeartbeats 3200000 in
set_option maxRecDepth 100000 in
theorem spaceAt_cyc (p n : Int) (S : Lin.V → Prop) (dv mv : Value) (ds : List Int) (ms : List (List (List Int))) (w : World) (h : Cx 0 w dv mv ds ms) (hd : ds.length ≤ 1048576) (hm : Bd3 1048576 ms)
    (hf : IsCx p ds ms → 0 ≤ n ∧ n ≤ (ds.length : Int) - 1 → ∀ W, Cx 0 W dv mv ds ms → Calls Try.prog 74 #[.agg #[.int .i64 p, dv, mv], .int .i64 n] W (VsR (SpF p (dimN ds n) S) W)) :
    Calls Try.prog 73 #[.agg #[.int .i64 p, dv, mv], .int .i64 n, .func (.func 74) #[] #[]] w (SpW p (dimN ds n) S (cxCode p ds ms n) w) := by
  have HX0 := Lib.hid (Bx.start (p := p) 37 h)
  have HCK := Lib.hid (checkDegree_any p n dv mv ds ms _ HX0.out.cx hd hm)
  have HF := Lib.hid hf
  obtain ⟨ad, cap, hdv⟩ := Sl.shape h.dims
  clear h hm hf
  by_cases hcode : cxCode p ds ms n = 0
  · obtain ⟨hcx, hr⟩ := cxCode_zero hcode
    obtain ⟨q, rfl⟩ : ∃ q : Nat, n = (q : Int) := ⟨n.toNat, by have := hr.1; omega⟩
    have hq : q < ds.length := by have := hr.2; omega
    have HCX := Lib.hid hcx
    have HR := Lib.hid hr
    have HCODE := Lib.hid hcode
    refine Sl.cases HX0.out.cx.dims (fun _ _ hx _ => absurd hq (by simp [hx])) (fun bd od capd hvd _ _ _ => ?_)
    subst hvd
    have hdim := hcx.1.dim q
    obtain ⟨c, hc⟩ := Int.eq_ofNat_of_zero_le hdim.1
    have hc8 : c ≤ 8 := by omega
    have HDN : Hid (dimN ds (q : Int) = c) := Lib.hid (by unfold dimN; rw [Int.toNat_natCast, hc]; rfl)
    have HC := Lib.hid hc
    clear hcx hr hcode hdv hdim hc
    go_enter Try.func73, Try.ntmps73
    go_wp2_with fail
    refine HCK.out.mono ?_
    rintro e w1 ⟨c1, rfl, hb1, hc1⟩
    obtain rfl : c1 = 0 := hc1.2.2 HCX.out HR.out
    have HX1 := Lib.hid (HX0.out.next hb1)
    clear hb1 hc1 HCK HX0
    go_wp2
    have HNX : Hid (∀ W, Below w1.heap.size w1 W → Bx w W w.heap.size p (.slice (some ⟨bd, od, none⟩) ds.length capd) mv ds ms) := Lib.hid (fun W h => HX1.out.next h)
    have HDQ : Hid (∀ W, Below w1.heap.size w1 W → W.cell? ⟨bd, od + q, none⟩ = some (.int .i64 (c : Int))) := Lib.hid (fun W h => by
      obtain ⟨ud, hud, hrd⟩ := Sl.at (HNX.out W h).cx.dims hq
      rw [hud, hrd, ← getD_of_lt 0 hq, HC.out])
    refine wp_region_held (S := fun W => Below w1.heap.size w1 W) (by kernel_rfl) ?_
    have S0 : Below w1.heap.size w1 w1.drew := (Below.refl _ _).drew
    refine held_take (i := 0) (v := .func (.func 74) #[] #[]) (some 15) rfl rfl (by kernel_rfl) (by kernel_rfl) (by kernel_rfl) (fun _ _ _ h => h) (yieldsIf_move (by kernel_rfl) rfl (by kernel_rfl)) S0 ?_
    refine held_take (i := 1) (v := .agg #[.int .i64 p, .slice (some ⟨bd, od, none⟩) ds.length capd, mv]) (some 16) rfl rfl (by kernel_rfl) (by kernel_rfl) (by kernel_rfl) (fun _ _ _ h => h) (yieldsIf_cell (by kernel_rfl) rfl (by kernel_rfl) (fun W h => hloadC W (HNX.out W h).c0 (HNX.out W h).c1 (HNX.out W h).c2)) S0 ?_
    refine held_take (i := 2) (v := .int .i64 (q : Int)) (some 17) rfl rfl (by kernel_rfl) (by kernel_rfl) (by kernel_rfl) (fun _ _ _ h => h) (yieldsIf_move (by kernel_rfl) rfl (by kernel_rfl)) S0 ?_
    refine held_take (i := 4) (v := .pointer (some ⟨w.heap.size, 1, none⟩)) (some 19) rfl rfl (by kernel_rfl) (by kernel_rfl) (by kernel_rfl) (fun _ _ _ h => h) (yieldsIf_run (by kernel_rfl) (fun W _ => by kernel_rfl)) S0 ?_
    refine held_take (i := 5) (v := .slice (some ⟨bd, od, none⟩) ds.length capd) (some 20) rfl rfl (by kernel_rfl) (by kernel_rfl) (by kernel_rfl) (fun _ _ _ h => h) (yieldsIf_cell (by kernel_rfl) rfl (by kernel_rfl) (fun W h => hloadS W (HNX.out W h).c1)) S0 ?_
    refine held_take (i := 6) (v := .int .i64 (q : Int)) (some 21) rfl rfl (by kernel_rfl) (by kernel_rfl) (by kernel_rfl) (fun _ _ _ h => h) (yieldsIf_move (by kernel_rfl) rfl (by kernel_rfl)) S0 ?_
    refine held_take (i := 7) (v := .pointer (some ⟨bd, od + q, none⟩)) (some 22) rfl rfl (by kernel_rfl) (by kernel_rfl) (by kernel_rfl) (fun _ _ _ h => h) (yieldsIf_index (by kernel_rfl) rfl (by kernel_rfl) (by kernel_rfl) (hidxI bd od capd hq)) S0 ?_
    refine held_take (i := 8) (v := .int .i64 (c : Int)) (some 23) rfl rfl (by kernel_rfl) (by kernel_rfl) (by kernel_rfl) (fun _ _ _ h => h) (yieldsIf_cell (by kernel_rfl) rfl (by kernel_rfl) (fun W h => hload W (HDQ.out W h))) S0 ?_
    refine held_enter (i := 3) (some 18) (f := 74) (args := #[.agg #[.int .i64 p, .slice (some ⟨bd, od, none⟩) ds.length capd, mv], .int .i64 (q : Int)]) (by kernel_rfl) rfl rfl rfl (by kernel_rfl) (HF.out HCX.out HR.out _ (HNX.out _ S0).cx) ?_ (fun c w' h => by obtain ⟨_, _, h, _⟩ := h; cases h) (fun w' h => by obtain ⟨_, _, h, _⟩ := h; cases h)
    rintro e4 W4 ⟨s4, R, he4, hb4, ho4, hsp⟩
    injection he4 with he4
    subst he4
    have S1 : Below w1.heap.size w1 W4 := S0.trans hb4
    have HO4 := Lib.hid (ho4.vs.lower (Nat.zero_le _))
    have HSP := Lib.hid hsp
    have hshort := hsp.short
    rw [HDN.out] at hshort
    refine ⟨S1, ?_⟩
    clear hb4 ho4 hsp
    refine held_enter (i := 9) (some 24) (f := 62) (args := #[e4, .int .i64 (c : Int)]) (by kernel_rfl) rfl rfl rfl (by kernel_rfl) (rowsOf_any c e4 R W4 HO4.out (by omega) (by omega)) ?_ (fun c w' h => by obtain ⟨_, h, _⟩ := h; cases h) (fun w' h => by obtain ⟨_, h, _⟩ := h; cases h)
    rintro e5 W5 ⟨u5, he5, ht5, hb5⟩
    injection he5 with he5
    subst he5
    have S2 : Below w1.heap.size w1 W5 := S1.trans (hb5.mono S1.size)
    have HT5 := Lib.hid ht5
    have hs4 : w1.heap.size ≤ W4.heap.size := S1.size
    have HB5 := Lib.hid (HNX.out _ S2).below
    have hs1 : w.heap.size ≤ w1.heap.size := HX1.out.below.size
    refine ⟨S2, ?_⟩
    refine held_take (i := 10) (v := e5) (some 6) rfl rfl (by kernel_rfl) (by kernel_rfl) (by kernel_rfl) (fun _ _ _ h => h) (yieldsIf_assign (by kernel_rfl) rfl (by kernel_rfl)) S2 ?_
    refine held_take (i := 11) (v := .int .i64 0) (some 7) rfl rfl (by kernel_rfl) (by kernel_rfl) (by kernel_rfl) (fun _ _ _ h => h) (yieldsIf_assign (by kernel_rfl) rfl (by kernel_rfl)) S2 ?_
    refine wpAnyH_done (by kernel_rfl) ?_ _
    simp only [Act.put, List.setIfInBounds_toArray, List.set_cons_zero, List.set_cons_succ]
    clear S0 S1 S2 ht5 hb5
    go_wp2
    go_ret2
    refine ⟨e5, R.map (toL c), 0, rfl, HT5.out.wider (by omega), HB5.out, ?_⟩
    rw [HCODE.out]
    have hh := HSP.out
    rw [HDN.out] at hh ⊢
    exact ⟨fun _ => ⟨R, hh.1, hh.2.1, hh.2.2, rfl⟩, fun hh => absurd rfl hh, rfl⟩
  · have HNC := Lib.hid hcode
    subst hdv
    clear hcode HF
    go_enter Try.func73, Try.ntmps73
    go_wp2_with fail
    refine HCK.out.mono ?_
    rintro e w1 ⟨c1, rfl, hb1, hc1⟩
    have HC1 := Lib.hid (cxCode_of hc1)
    have hne : ¬ c1 = 0 := fun e => HNC.out (by rw [← HC1.out]; exact e)
    have hne2 : (c1 != 0) = true := by simp [hne]
    have hne3 : (c1 == 0) = false := by simp [hne]
    have HX1 := Lib.hid (HX0.out.next hb1)
    clear hb1 hc1 HCK HX0 hne
    go_wp2
    go_ret2
    refine ⟨_, [], c1, rfl, TW.nil _ _ _, HX1.out.below, ?_⟩
    rw [HC1.out]
    exact SpOut.of_no HNC.out

set_option maxHeartbeats 1600000 in
theorem cyclesOf_any (p n : Int) (dv mv : Value) (ds : List Int) (ms : List (List (List Int))) (w : World) (h : Cx 0 w dv mv ds ms) (hd : ds.length ≤ 1048576) (hm : Bd3 1048576 ms) :
    Calls Try.prog 29 #[.agg #[.int .i64 p, dv, mv], .int .i64 n] w (SpW p (dimN ds n) (CycD p ds ms n) (cxCode p ds ms n) w) := by
  have HX0 := Lib.hid (Bx.start (p := p) 37 h)
  have HSA := Lib.hid (spaceAt_cyc p n (CycD p ds ms n) dv mv ds ms _ HX0.out.cx hd hm (fun hcx hr W hW => by
    obtain ⟨q, rfl⟩ : ∃ q : Nat, n = (q : Int) := ⟨n.toNat, by have := hr.1; omega⟩
    exact cycleSpace_any p q dv mv ds ms W hW hcx (by have := hr.2; omega)))
  obtain ⟨ad, cap, rfl⟩ := Sl.shape h.dims
  obtain ⟨am, capm, rfl⟩ := Sl.shape h.maps
  have c0 := HX0.out.c0
  have c1 := HX0.out.c1
  have c2 := HX0.out.c2
  clear h hm
  go_enter Try.func29, Try.ntmps29
  go_wp2_with fail
  refine HSA.out.mono ?_
  rintro e w1 ⟨u, out, c, rfl, ht, hb, ho⟩
  have HT := Lib.hid ht
  have HB := Lib.hid (HX0.out.next hb).below
  have HO := Lib.hid ho
  clear ht hb ho HSA
  have hs0 := HX0.out.below.size
  go_wp2
  go_ret2
  exact ⟨u, out, c, rfl, HT.out.wider hs0, HB.out, HO.out⟩

set_option maxHeartbeats 1600000 in
set_option maxRecDepth 100000 in
theorem l01Cycles_any (p : Int) (q : Nat) (dv mv : Value) (ds : List Int) (ms : List (List (List Int))) (w : World) (h : Cx 0 w dv mv ds ms) (hcx : IsCx p ds ms) (hq : q < ds.length) :
    Calls Try.prog 71 #[.agg #[.int .i64 p, dv, mv], .int .i64 q] w (KerR p (dimN ds (q : Int)) (cycM ds q) (cycT ds ms q) w) := by
  have HX0 := Lib.hid (Bx.start (p := p) 37 h)
  obtain ⟨ad, cap, rfl⟩ := Sl.shape h.dims
  obtain ⟨am, capm, rfl⟩ := Sl.shape h.maps
  have HCX := Lib.hid hcx
  have hl6 := hcx.1.len1
  have c0 := HX0.out.c0
  have c1 := HX0.out.c1
  have c2 := HX0.out.c2
  have HOK := Lib.hid (cyc_ok hcx hq)
  have HD8 := Lib.hid (dimN_le8 hcx q)
  have HDZ : Hid (dimZ ds (q : Int) = (dimN ds (q : Int) : Int)) := Lib.hid (by
    unfold dimZ
    rw [if_pos (by omega), Int.toNat_natCast]
    exact (dimN_le8 hcx q).2)
  have HMZ : Hid (mapZ ds ms (q : Int) = cycT ds ms q) := Lib.hid rfl
  clear h hcx
  go_enter Try.func71, Try.ntmps71
  go_wp2
  go_region_held3 (fun w' => w'.cell? ⟨w.heap.size, 0, none⟩ = some (.int .i64 p) ∧ w'.cell? ⟨w.heap.size, 1, none⟩ = some (.slice ad ds.length cap) ∧ w'.cell? ⟨w.heap.size, 2, none⟩ = some (.slice am ms.length capm) ∧ Hid (Bx w w' w.heap.size p (.slice ad ds.length cap) (.slice am ms.length capm) ds ms))
    (first | exact ⟨HX0.out.c0, HX0.out.c1, HX0.out.c2, HX0⟩ | exact ⟨HX0.out.c0, HX0.out.c1, HX0.out.c2, Lib.hid (HX0.out.next (Below.refl _ _).drew)⟩ | exact ⟨HX3.out.c0, HX3.out.c1, HX3.out.c2, HX3⟩ | exact ⟨HX4.out.c0, HX4.out.c1, HX4.out.c2, HX4⟩ | exact ⟨HX5.out.c0, HX5.out.c1, HX5.out.c2, HX5⟩ | go_keep)
    (first
      | (go_at_call 96; refine (l01Dim_any p (q : Int) _ _ ds ms _ ?_ (by omega)).mono ?_; (exact (HX0.out.next (Below.refl _ _).drew).cx); rw [HDZ.out]; rintro e w3 ⟨rfl, hb3⟩; have HX3 := Lib.hid ((HX0.out.next (Below.refl _ _).drew).next hb3); clear hb3)
      | (go_at_call 97; refine (l01Map_any p (q : Int) _ _ ds ms _ HX3.out.cx HCX.out).mono ?_; rw [HMZ.out]; rintro e w4 ⟨v4, rfl, hl4, hb4⟩; have HX4 := Lib.hid (HX3.out.next hb4); have HL4 := Lib.hid hl4; clear hl4 hb4)
      | (go_at_call 123; refine (l01Kernel_any p (dimN ds (q : Int)) (cycM ds q) v4 (cycT ds ms q) _ HCX.out.1.prime HL4.out HOK.out.1 HOK.out.2.1 (by have := HD8.out.1; omega) (by have := HOK.out.2.2; omega)).mono ?_; rintro e w5 ⟨u5, R, rfl, hg5, hb5, hr5⟩; have HX5 := Lib.hid (HX4.out.next hb5); have HG5 := Lib.hid (hg5.mono HX4.out.below.size); have HR5 := Lib.hid hr5; clear hg5 hb5 hr5))
  go_wp2
  go_ret
  exact ⟨u5, R, rfl, HG5.out, HX5.out.below, HR5.out⟩

set_option maxHeartbeats 1600000 in
theorem spCyclesOf_any (p n : Int) (dv mv : Value) (ds : List Int) (ms : List (List (List Int))) (w : World) (h : Cx 0 w dv mv ds ms) (hd : ds.length ≤ 1048576) (hm : Bd3 1048576 ms) :
    Calls Try.prog 27 #[.agg #[.int .i64 p, dv, mv], .int .i64 n] w (SpS p (dimN ds n) (CycD p ds ms n) (cxCode p ds ms n) w) := by
  have HX0 := Lib.hid (Bx.start (p := p) 37 h)
  have HCK := Lib.hid (l01Code_any p n dv mv ds ms _ HX0.out.cx hd hm)
  obtain ⟨ad, cap, rfl⟩ := Sl.shape h.dims
  obtain ⟨am, capm, rfl⟩ := Sl.shape h.maps
  have c0 := HX0.out.c0
  have c1 := HX0.out.c1
  have c2 := HX0.out.c2
  clear h hm
  go_enter Try.func27, Try.ntmps27
  go_wp2_with fail
  refine HCK.out.mono ?_
  rintro e w1 ⟨k, rfl, hb1, hc1⟩
  have HC1 := Lib.hid (cxCode_of hc1)
  have HX1 := Lib.hid (HX0.out.next hb1)
  clear hb1 hc1 c0 c1 c2 HCK
  have c0 := HX1.out.c0
  have c1 := HX1.out.c1
  have c2 := HX1.out.c2
  by_cases hk : k = 0
  · subst hk
    obtain ⟨hcx, hr⟩ := cxCode_zero HC1.out.symm
    obtain ⟨q, rfl⟩ : ∃ q : Nat, n = (q : Int) := ⟨n.toNat, by have := hr.1; omega⟩
    have HB := Lib.hid (l01Cycles_any p q _ _ ds ms _ HX1.out.cx hcx (by have := hr.2; omega))
    clear hcx hr
    go_wp2_with fail
    refine HB.out.mono ?_
    rintro e w2 ⟨u2, R, rfl, hg2, hb2, hr2⟩
    have HG2 := Lib.hid hg2.l2
    have HX2 := Lib.hid (HX1.out.next hb2)
    have HR2 := Lib.hid hr2
    clear hg2 hb2 hr2 HB
    go_wp2
    go_ret2
    refine ⟨u2, R.map (toL (dimN ds (q : Int))), 0, rfl, HG2.out, HX2.out.below, ?_⟩
    rw [← HC1.out]
    exact ⟨fun _ => ⟨R, HR2.out.1, HR2.out.2.1, HR2.out.2.2, rfl⟩, fun hh => absurd rfl hh, rfl⟩
  · have hne2 : (k != 0) = true := by simp [hk]
    have hne3 : (k == 0) = false := by simp [hk]
    have HK := Lib.hid hk
    clear hk
    go_wp2
    go_ret2
    refine ⟨_, [], k, rfl, nil2 _, HX1.out.below, ?_⟩
    rw [← HC1.out]
    exact SpOut.of_no HK.out
end Go.Proofs.Ytlbalcckjokeiaa
