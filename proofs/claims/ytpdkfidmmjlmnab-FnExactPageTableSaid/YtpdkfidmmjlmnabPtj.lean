/-
  PageTable of the program: all numbers of a page, cut into rows.
-/
import Derived.Test.YtpdkfidmmjlmnabPti
import Derived.Deep.RegionHeld3
namespace Go.Proofs.Ytpdkfidmmjlmnab
open Go.RowKit

theorem cutZ_tab {p : Int} {ds : List Int} {ms : List (List (List Int))} {ls : List (List Int)} {r : Int} {n : Nat} {Z : Nat → Int} (h : ∀ k, k < n → ∀ q : Nat, q < 6 → PgNum p ds ms ls k r (q : Int) (Z (k * 6 + q))) : PtTab p ds ms ls r n (cutZ n Z) := by
  refine ⟨by simp [cutZ, tableOf], fun k hk => ?_⟩
  have hl : k < (cutZ n Z).length := by simp [cutZ, tableOf]; exact hk
  have e : (cutZ n Z).getD k [] = (List.range 6).map fun q => Z (k * 6 + q) := by
    rw [getD_of_lt _ hl]
    simp [cutZ, tableOf]
  rw [e]
  refine ⟨by simp, fun q hq => ?_⟩
  have e2 : ((List.range 6).map fun q => Z (k * 6 + q)).getD q 0 = Z (k * 6 + q) := by
    rw [getD_of_lt _ (by simp; exact hq)]
    simp
  rw [e2]
  exact h k hk q hq
set_option maxHeartbeats 1600000 in
set_option maxRecDepth 100000 in
theorem numbersOfPage_any (p r : Int) (dv mv lv : Value) (ds : List Int) (ms : List (List (List Int))) (ls : List (List Int)) (w : World) (h : Fi 0 w dv mv lv ds ms ls) (hf : IsFil p ds ms ls) (hr : 0 ≤ r ∧ r ≤ 8) :
    Calls Try.prog 103 #[.agg #[.int .i64 p, dv, mv, lv], .int .i64 r] w (NumsR p ds ms ls r w) := by
  have hl6 := hf.1.1.len1
  have hres : Try.f103.results = #[.cell 4 103] := by kernel_rfl
  have HRES := Lib.hid hres
  have e36 : madeCells #[.int .i64 0] 36 = #[.int .i64 0, .int .i64 0, .int .i64 0, .int .i64 0, .int .i64 0, .int .i64 0, .int .i64 0, .int .i64 0, .int .i64 0, .int .i64 0, .int .i64 0, .int .i64 0, .int .i64 0, .int .i64 0, .int .i64 0, .int .i64 0, .int .i64 0, .int .i64 0, .int .i64 0, .int .i64 0, .int .i64 0, .int .i64 0, .int .i64 0, .int .i64 0, .int .i64 0, .int .i64 0, .int .i64 0, .int .i64 0, .int .i64 0, .int .i64 0, .int .i64 0, .int .i64 0, .int .i64 0, .int .i64 0, .int .i64 0, .int .i64 0] := by kernel_rfl
  have hmf : ∀ (fn : Fn) (first cap : Array Value) (w : World), (Instr.makeFunc fn first cap).run Try.prog w = .ok (.func fn first cap) w := fun _ _ _ _ => rfl
  obtain ⟨wa, hwa⟩ : ∃ wa, wa = w.alloc (.cells #[.int .i64 p, dv, mv, lv] 33) := ⟨_, rfl⟩
  obtain ⟨wb, hwb⟩ : ∃ wb, wb = wa.alloc (.cells #[.int .i64 r] 2) := ⟨_, rfl⟩
  obtain ⟨wc, hwc⟩ : ∃ wc, wc = wb.alloc (.cells #[.int .i64 0, .int .i64 0, .int .i64 0, .int .i64 0, .int .i64 0, .int .i64 0, .int .i64 0, .int .i64 0, .int .i64 0, .int .i64 0, .int .i64 0, .int .i64 0, .int .i64 0, .int .i64 0, .int .i64 0, .int .i64 0, .int .i64 0, .int .i64 0, .int .i64 0, .int .i64 0, .int .i64 0, .int .i64 0, .int .i64 0, .int .i64 0, .int .i64 0, .int .i64 0, .int .i64 0, .int .i64 0, .int .i64 0, .int .i64 0, .int .i64 0, .int .i64 0, .int .i64 0, .int .i64 0, .int .i64 0, .int .i64 0] 103) := ⟨_, rfl⟩
  have hsa : wa.heap.size = w.heap.size + 1 := by rw [hwa]; simp
  have hsb : wb.heap.size = w.heap.size + 1 + 1 := by rw [hwb]; simp [hsa]
  have hsc : wc.heap.size = w.heap.size + 3 := by rw [hwc]; simp [hsb]
  have hba : Below wa.heap.size wa wb := by rw [hwb]; exact below_alloc1 _ _
  have hbb : Below wb.heap.size wb wc := by rw [hwc]; exact below_alloc1 _ _
  have HX0 : Hid (Fx w wa w.heap.size p dv mv lv ds ms ls) := Lib.hid (by rw [hwa]; exact Fx.start (p := p) 33 h)
  have HX1 := Lib.hid ((HX0.out.next hba).next hbb)
  have HD1 : Hid (wc.cell? ⟨w.heap.size + 1, 0, none⟩ = some (.int .i64 r)) := Lib.hid (later hbb (Nat.le_refl _) (by rw [hwb, ← hsa]; simp))
  have HV : Hid (wc.rowIs (w.heap.size + 1 + 1) 103 36 (fun _ => .int .i64 0)) := Lib.hid (by rw [← hsb, hwc, ← e36]; exact World.rowIs_made wb _ 36 _)
  have HFI := Lib.hid hf
  have HNA := Lib.hid (numbersAtCells_any p r (.pointer (some ⟨w.heap.size, 0, none⟩)) (.pointer (some ⟨w.heap.size + 1, 0, none⟩)) _ _ _ ds ms ls wc HX1.out.fi hl6 (fun W hW k q hk hq => numFn_any p r k q w.heap.size (w.heap.size + 1) _ _ _ ds ms ls W (HX1.out.next hW).fi HFI.out hk hr hq (HX1.out.next hW).c0 (HX1.out.next hW).c1 (HX1.out.next hW).c2 (HX1.out.next hW).c3 (later hW (Nat.le_refl _) HD1.out)))
  have c0 := HX1.out.c0
  have c1 := HX1.out.c1
  have c2 := HX1.out.c2
  have c3 := HX1.out.c3
  clear hres h hf hba hbb e36 HX0
  go_enter Try.func103, Try.ntmps103
  go_upto_region 1 with fail
  rw [← hwa, ← hwb, ← hwc]
  clear hwa hwb hwc hsa hsb
  go_wp2_with fail
  refine HNA.out.mono ?_
  rintro e w2 ⟨cs, Z, rfl, hsz, hget, hb2, hP⟩
  obtain ⟨old, hold, hosz, _⟩ := HV.out.of_block (hb2.block _ HV.out.lt)
  have HZ := Lib.hid hold
  have HPAD : Hid ((Try.prog.info? 103).map (·.size) = some cs.size) := Lib.hid (by rw [hsz]; exact Try.infoP)
  have HOS : Hid (old.size = cs.size) := Lib.hid (by rw [hosz, hsz])
  have HALL : Hid (cs.all (·.oneCell') = true) := Lib.hid (by
    rw [Array.all_eq_true]
    intro i hi
    have h1 := hget i (by omega)
    rw [Array.getElem?_eq_getElem hi] at h1
    injection h1 with h1
    rw [h1]
    rfl)
  have HOUT := Lib.hid (And.intro hsz (And.intro hget hP))
  have HBW := Lib.hid (HX1.out.below.trans (hb2.mono (by omega)))
  clear hold hget hosz hsz hb2 hP c0 c1 c2 c3
  go_wp2_with (with_reducible refine wpList_store_row rfl 103 (.tmp 4) (.tmp 7) rfl (w.heap.size + 1 + 1) cs rfl rfl 103 old HZ.out HPAD.out HOS.out HALL.out ?_)
  exact bodyPost_ret (v := .agg cs) (results_cell_row HRES.out _ _ (w.heap.size + 1 + 1) 103 cs (0, 0) _ rfl (setRow_heap _ _ _ _ _ _ HZ.out) Try.underlyingP rfl HPAD.out) rfl ⟨cs, Z, rfl, HOUT.out.1, HOUT.out.2.1, below_setRow HBW.out (by omega) _, HOUT.out.2.2⟩

set_option maxHeartbeats 1600000 in
set_option maxRecDepth 100000 in
theorem degreeRows_any (n : Nat) (cs : Array Value) (Z : Nat → Int) (w : World) (hn : n ≤ 6) (hsz : cs.size = 36) (hget : ∀ i, i < 36 → cs[i]? = some (.int .i64 (Z i))) :
    Calls Try.prog 102 #[.agg cs, .int .i64 n] w (CutR w.heap.size n Z w) := by
  obtain ⟨wa, hwa⟩ : ∃ wa, wa = w.alloc (.cells cs 103) := ⟨_, rfl⟩
  have hba : Below w.heap.size w wa := by rw [hwa]; exact below_alloc1 _ _
  have hsa : wa.heap.size = w.heap.size + 1 := by rw [hwa]; simp
  have hrow : wa.rowIs w.heap.size 103 36 (fun i => .int .i64 (Z i)) := ⟨cs, by rw [hwa]; exact heap_alloc_new _ _, hsz, hget⟩
  have HCT := Lib.hid (cutRows_any w.heap.size n w.heap.size Z wa hn (Nat.le_refl _) (by omega) (by omega) (fun i hi => ⟨hrow.cell (by omega), hrow.frozen i⟩))
  have HBA := Lib.hid hba
  have hal : Try.prog.arrayLen 103 = 36 := by kernel_rfl
  have hel : Try.prog.elem 103 = 2 := by kernel_rfl
  clear hget hba hrow
  go_enter Try.func102, Try.ntmps102
  go_upto_region 1 with fail
  rw [← hwa]
  clear hwa
  go_wp2_with fail
  refine HCT.out.mono ?_
  rintro e w2 ⟨u, rfl, hr2, hb2⟩
  have HR := Lib.hid hr2
  have HB := Lib.hid (HBA.out.trans (hb2.mono (by omega)))
  clear hr2 hb2
  go_wp2
  go_ret
  exact ⟨u, rfl, HR.out, HB.out⟩

set_option maxHeartbeats 1600000 in
set_option maxRecDepth 100000 in
theorem pageTableOf_any (p r : Int) (dv mv lv : Value) (ds : List Int) (ms : List (List (List Int))) (ls : List (List Int)) (w : World) (h : Fi 0 w dv mv lv ds ms ls) (hd : ds.length ≤ 1048576) (hm : Bd3 1048576 ms) (hl : Bd2 1048576 ls) :
    Calls Try.prog 37 #[.agg #[.int .i64 p, dv, mv, lv], .int .i64 r] w (AnsW Rw2 (PtTab p ds ms ls r ds.length) [] (celCode p ds ms ls r 0 0) w) := by
  obtain ⟨al, cl, rfl⟩ := Sl.shape h.lv
  have HX0 := Lib.hid (Fx.start (p := p) 33 h)
  have HCK := Lib.hid (checkCell_any p r 0 0 _ _ _ ds ms ls _ HX0.out.fi hd hm hl)
  have c0 := HX0.out.c0
  have c1 := HX0.out.c1
  have c2 := HX0.out.c2
  have c3 := HX0.out.c3
  obtain ⟨kc, hkc⟩ : ∃ kc, kc = celCode p ds ms ls r 0 0 := ⟨_, rfl⟩
  rw [← hkc] at HCK ⊢
  have HKE := Lib.hid hkc
  clear h hm hl hkc
  go_enter Try.func37, Try.ntmps37
  go_wp2_with fail
  refine HCK.out.mono ?_
  rintro e w1 ⟨rfl, hb1⟩
  have HX1 := Lib.hid (HX0.out.next hb1)
  clear hb1 c0 c1 c2 c3 HCK
  have c0 := HX1.out.c0
  have c1 := HX1.out.c1
  have c2 := HX1.out.c2
  have c3 := HX1.out.c3
  by_cases hk : kc = 0
  · subst hk
    obtain ⟨hfil, hcr, _, _⟩ := celCode_zero HKE.out.symm
    have hl6 := hfil.1.1.len1
    have HLL := Lib.hid hfil.2.len
    have hls6 : ls.length ≤ 6 := by rw [HLL.out]; exact hl6
    have hs1 : w.heap.size ≤ w1.heap.size := HX1.out.below.size
    have HSP : Hid (∀ W, Below w1.heap.size w1 W → W.cell? ⟨w.heap.size, 0, none⟩ = some (.int .i64 p) ∧ W.cell? ⟨w.heap.size, 1, none⟩ = some dv ∧ W.cell? ⟨w.heap.size, 2, none⟩ = some mv ∧ W.cell? ⟨w.heap.size, 3, none⟩ = some (.slice al ls.length cl) ∧ Hid (Below w1.heap.size w1 W)) := Lib.hid (fun W h => ⟨later h (Nat.le_refl _) c0, later h (Nat.le_refl _) c1, later h (Nat.le_refl _) c2, later h (Nat.le_refl _) c3, Lib.hid h⟩)
    have HDD : Hid (Below w1.heap.size w1 w1.drew) := Lib.hid (Below.refl _ _).drew
    have HNP : Hid (∀ W, Below w1.heap.size w1 W → Calls Try.prog 103 #[.agg #[.int .i64 p, dv, mv, .slice al ls.length cl], .int .i64 r] W (NumsR p ds ms ls r W)) := Lib.hid (fun W h => numbersOfPage_any p r _ _ _ ds ms ls W (HX1.out.next h).fi hfil hcr)
    clear hfil hcr
    go_wp2
    go_region_held3 (fun W => W.cell? ⟨w.heap.size, 0, none⟩ = some (.int .i64 p) ∧ W.cell? ⟨w.heap.size, 1, none⟩ = some dv ∧ W.cell? ⟨w.heap.size, 2, none⟩ = some mv ∧ W.cell? ⟨w.heap.size, 3, none⟩ = some (.slice al ls.length cl) ∧ Hid (Below w1.heap.size w1 W))
      (first | exact HSP.out _ (Below.refl _ _) | exact HSP.out _ HDD.out | exact HSP.out _ HB4.out | exact HSP.out _ HB5.out | go_keep)
      (first
        | (go_at_call 103; (with_reducible refine (HNP.out _ HDD.out).mono ?_); rintro e w4 ⟨cs, Z, rfl, hsz, hget, hb4, hP⟩; have HB4 : Hid (Below w1.heap.size w1 w4) := Lib.hid (HDD.out.trans hb4); have HOUT := Lib.hid (And.intro hsz (And.intro hget hP)); clear hb4 hsz hget hP)
        | (go_at_call 102; (with_reducible refine (degreeRows_any ls.length cs Z _ hls6 HOUT.out.1 HOUT.out.2.1).mono ?_); rintro e w5 ⟨u5, rfl, hr5, hb5⟩; have HB5 : Hid (Below w1.heap.size w1 w5) := Lib.hid (HB4.out.trans (hb5.mono HB4.out.size)); have HR5 := Lib.hid hr5; clear hb5 hr5))
    have HX5 := Lib.hid (HX1.out.next HB5.out)
    have hs4 : w1.heap.size ≤ w4.heap.size := HB4.out.size
    clear c0 c1 c2 c3 HSP HNP HDD
    go_wp2
    go_ret2
    exact ⟨u5, cutZ ls.length Z, 0, rfl, HR5.out.wider (by omega) (Nat.le_refl _), HX5.out.below, RsOut.of_yes rfl (by rw [HLL.out]; exact cutZ_tab HOUT.out.2.2)⟩
  · have hne2 : (kc != 0) = true := by simp [hk]
    have hne3 : (kc == 0) = false := by simp [hk]
    have HNE := Lib.hid hk
    clear hk
    go_wp2
    go_ret2
    exact ⟨_, [], kc, rfl, Rw2.nil _ _ _, HX1.out.below, RsOut.of_no HNE.out⟩
end Go.Proofs.Ytpdkfidmmjlmnab
