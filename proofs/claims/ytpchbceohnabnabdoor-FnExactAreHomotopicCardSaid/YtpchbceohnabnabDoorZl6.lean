/-
  Texts that ProofAhl needs, part 6.
-/
import Derived.Test.YtpchbceohnabnabDoorZl5
import Derived.Laws.EntriesVeiled
import Derived.Defers
import Derived.Recover
import Derived.Test.YtpchbceohnabnabDoorChecked
import Derived.Outline
import Derived.Deep.RegionHeld3
import Derived.Maps.AppendAt
namespace Go.Proofs.YtpchbceohnabnabDoor
open Go.RowKit

/-- It returns for a chain map, and panics for a family that is none. -/
def ReqR (p : Int) (ds : List Int) (ms : List (List (List Int))) (ds2 : List Int) (ms2 fs : List (List (List Int))) (u : TypeId) (pv : Value) (w : World) (e : Ending) (w' : World) : Prop :=
  Below w.heap.size w w' ∧ ((ChainOk p ds ms ds2 ms2 fs ∧ e = .returned (.tuple #[])) ∨ (¬ ChainOk p ds ms ds2 ms2 fs ∧ e = .panicked [{ v := .iface u pv, recovered := false }]))

set_option maxHeartbeats 6400000 in
set_option maxRecDepth 100000 in
theorem requireChainMap_any (p : Int) (ut : TypeId) (pv : Value) (dv mv dv2 mv2 fv : Value) (ds : List Int) (ms : List (List (List Int))) (ds2 : List Int) (ms2 fs : List (List (List Int))) (w : World) (h : Cx 0 w dv mv ds ms) (h2 : Cx 0 w dv2 mv2 ds2 ms2) (hf : L3 0 w fv fs) (hcx : IsCx p ds ms) (hcy : IsCx p ds2 ms2) (hl : ds.length = ds2.length) (hF : FamOk p ds ds2 0 fs) (hgl : w.cell? ⟨0, 0, none⟩ = some (.iface ut pv)) :
    Calls Tryd.prog 73 #[.agg #[.int .i64 p, dv, mv], .agg #[.int .i64 p, dv2, mv2], fv] w (ReqR p ds ms ds2 ms2 fs ut pv w) := by
  obtain ⟨ad, cap, rfl⟩ := Sl.shape h.dims
  obtain ⟨am, capm, rfl⟩ := Sl.shape h.maps
  obtain ⟨ad2, cap2, rfl⟩ := Sl.shape h2.dims
  obtain ⟨am2, capm2, rfl⟩ := Sl.shape h2.maps
  obtain ⟨af, cf, rfl⟩ := Sl.shape hf
  obtain ⟨k1, k2⟩ := bx_two (p := p) (p2 := p) 30 h h2
  have HX0 := Lib.hid k1
  have HY0 := Lib.hid k2
  have HCX := Lib.hid hcx
  have HCY := Lib.hid hcy
  have HLL := Lib.hid hl
  have HFO := Lib.hid hF
  obtain ⟨w1, hw1⟩ : ∃ w1, w1 = ((w.alloc (.cells #[.int .i64 p, .slice ad ds.length cap, .slice am ms.length capm] 30)).alloc (.cells #[.int .i64 p, .slice ad2 ds2.length cap2, .slice am2 ms2.length capm2] 30)) := ⟨_, rfl⟩
  rw [← hw1] at HX0 HY0
  have HB01 := Lib.hid HX0.out.below
  have HF1 := Lib.hid (hf.below HB01.out)
  have HGL1 := Lib.hid (later HB01.out (Nat.le_refl _) hgl)
  have hp7 : 2 ≤ p ∧ p ≤ 7 := ⟨hcx.1.prime.lo, hcx.1.prime.hi⟩
  obtain ⟨w2, hw2⟩ : ∃ w2, w2 = w1.alloc (.cells #[.int .i64 p, .slice ad2 ds2.length cap2, .slice am2 ms2.length capm2, .int .i64 0, .slice af fs.length cf] 69) := ⟨_, rfl⟩
  have HB12 : Hid (Below w1.heap.size w1 w2) := Lib.hid (by rw [hw2]; exact below_alloc1 _ _)
  have HG2 : Hid (Rz w2 w1.heap.size 69 #[.int .i64 p, .slice ad2 ds2.length cap2, .slice am2 ms2.length capm2, .int .i64 0, .slice af fs.length cf]) := Lib.hid (by rw [hw2]; exact Rz.new _ _ _)
  have HNX : Hid (∀ W, Below w2.heap.size w2 W → Bx w W w.heap.size p (.slice ad ds.length cap) (.slice am ms.length capm) ds ms ∧ Bx w W (w.heap.size + 1) p (.slice ad2 ds2.length cap2) (.slice am2 ms2.length capm2) ds2 ms2 ∧ Rz W w1.heap.size 69 #[.int .i64 p, .slice ad2 ds2.length cap2, .slice am2 ms2.length capm2, .int .i64 0, .slice af fs.length cf] ∧ L3 0 W (.slice af fs.length cf) fs ∧ W.cell? ⟨0, 0, none⟩ = some (.iface ut pv)) := Lib.hid (fun W hb => by
    have hb1 := HB12.out.trans (hb.mono HB12.out.size)
    exact ⟨HX0.out.next hb1, HY0.out.next hb1, HG2.out.next hb, HF1.out.below hb1, later hb1 (Nat.le_refl _) HGL1.out⟩)
  have d0 := HY0.out.c0
  have d1 := HY0.out.c1
  have d2 := HY0.out.c2
  clear h h2 hf k1 k2 hcx hcy hl hF hgl
  go_enter Tryd.func73, Tryd.ntmps73
  go_upto_region 1 with fail
  rw [← hw1]
  clear hw1
  go_upto_region 2 with fail
  rw [← hw2]
  clear hw2 d0 d1 d2
  refine wp_region_held (S := fun W => Below w2.heap.size w2 W) (by kernel_rfl) ?_
  have S0 : Below w2.heap.size w2 w2.drew := (Below.refl _ _).drew
  change wpAnyH _ _ _ _ _ _ _ _ w2.drew
  obtain ⟨wd, hwd⟩ : ∃ wd, wd = w2.drew := ⟨_, rfl⟩
  rw [← hwd] at S0 ⊢
  clear hwd
  refine held_take (i := 0) (v := .agg #[.int .i64 p, .slice ad ds.length cap, .slice am ms.length capm]) (some 11) rfl rfl (by kernel_rfl) (by kernel_rfl) (by kernel_rfl) (fun _ _ _ h => h) (yieldsIf_cell (by kernel_rfl) rfl (by kernel_rfl) (fun W h => hload3x (HNX.out W h).1)) S0 ?_
  refine held_take (i := 1) (v := .agg #[.int .i64 p, .slice ad2 ds2.length cap2, .slice am2 ms2.length capm2]) (some 12) rfl rfl (by kernel_rfl) (by kernel_rfl) (by kernel_rfl) (fun _ _ _ h => h) (yieldsIf_cell (by kernel_rfl) rfl (by kernel_rfl) (fun W h => hload3x (HNX.out W h).2.1)) S0 ?_
  refine held_take (i := 2) (v := .agg #[.int .i64 p, .slice ad ds.length cap, .slice am ms.length capm]) (some 13) rfl rfl (by kernel_rfl) (by kernel_rfl) (by kernel_rfl) (fun _ _ _ h => h) (yieldsIf_cell (by kernel_rfl) rfl (by kernel_rfl) (fun W h => hload3x (HNX.out W h).1)) S0 ?_
  refine held_take (i := 5) (v := .agg #[.int .i64 p, .slice ad2 ds2.length cap2, .slice am2 ms2.length capm2, .int .i64 0, .slice af fs.length cf]) (some 16) rfl rfl (by kernel_rfl) (by kernel_rfl) (by kernel_rfl) (fun _ _ _ h => h) (yieldsIf_cell (by kernel_rfl) rfl (by kernel_rfl) (fun W h => hloadGr W (HNX.out W h).2.2.1)) S0 ?_
  refine held_take (i := 6) (v := .func (.func 66) #[.agg #[.int .i64 p, .slice ad2 ds2.length cap2, .slice am2 ms2.length capm2, .int .i64 0, .slice af fs.length cf]] #[]) (some 17) rfl rfl (by kernel_rfl) (by kernel_rfl) (by kernel_rfl) (fun _ _ _ h => h) (yieldsIf_run (by kernel_rfl) (fun W _ => by kernel_rfl)) S0 ?_
  refine held_take (i := 9) (v := .pointer (some ⟨w.heap.size, 0, none⟩)) (some 20) rfl rfl (by kernel_rfl) (by kernel_rfl) (by kernel_rfl) (fun _ _ _ h => h) (yieldsIf_run (by kernel_rfl) (fun W _ => by kernel_rfl)) S0 ?_
  refine held_take (i := 10) (v := .int .i64 p) (some 21) rfl rfl (by kernel_rfl) (by kernel_rfl) (by kernel_rfl) (fun _ _ _ h => h) (yieldsIf_cell (by kernel_rfl) rfl (by kernel_rfl) (fun W h => hload W (HNX.out W h).1.c0)) S0 ?_
  refine held_take (i := 11) (v := .int .i64 (p - 1)) (some 22) rfl rfl (by kernel_rfl) (by kernel_rfl) (by kernel_rfl) (fun _ _ _ h => h) (yieldsIf_bin (by kernel_rfl) rfl (by kernel_rfl) (by kernel_rfl) (fun _ => rfl) (hsubA (IntWalk.i64_in _ (by omega)))) S0 ?_
  refine held_take (i := 12) (v := .agg #[.int .i64 p, .slice ad2 ds2.length cap2, .slice am2 ms2.length capm2, .int .i64 0, .slice af fs.length cf]) (some 23) rfl rfl (by kernel_rfl) (by kernel_rfl) (by kernel_rfl) (fun _ _ _ h => h) (yieldsIf_cell (by kernel_rfl) rfl (by kernel_rfl) (fun W h => hloadGr W (HNX.out W h).2.2.1)) S0 ?_
  refine held_take (i := 13) (v := .func (.func 66) #[.agg #[.int .i64 p, .slice ad2 ds2.length cap2, .slice am2 ms2.length capm2, .int .i64 0, .slice af fs.length cf]] #[]) (some 24) rfl rfl (by kernel_rfl) (by kernel_rfl) (by kernel_rfl) (fun _ _ _ h => h) (yieldsIf_run (by kernel_rfl) (fun W _ => by kernel_rfl)) S0 ?_
  refine held_take (i := 14) (v := .agg #[.int .i64 p, .slice ad2 ds2.length cap2, .slice am2 ms2.length capm2]) (some 25) rfl rfl (by kernel_rfl) (by kernel_rfl) (by kernel_rfl) (fun _ _ _ h => h) (yieldsIf_cell (by kernel_rfl) rfl (by kernel_rfl) (fun W h => hload3x (HNX.out W h).2.1)) S0 ?_
  refine held_enter (i := 3) (some 14) (f := 67) (args := #[.agg #[.int .i64 p, .slice ad ds.length cap, .slice am ms.length capm]]) (by kernel_rfl) rfl rfl rfl (by kernel_rfl) (differentialMap_any p _ _ ds ms wd (HNX.out wd S0).1.cx HCX.out) ?_ (fun c w' h => by obtain ⟨_, h, _⟩ := h; cases h) (fun w' h => by obtain ⟨_, h, _⟩ := h; cases h)
  rintro e1 V1 ⟨ux, he1, hA, hb1⟩
  injection he1 with he1
  subst he1
  obtain ⟨ua, ca, rfl⟩ := Sl.shape hA
  have S1 : Below w2.heap.size w2 V1 := S0.trans (hb1.mono S0.size)
  refine ⟨S1, ?_⟩
  refine held_take (i := 4) (v := .func (.func 66) #[.agg #[.int .i64 p, .slice ad ds.length cap, .slice am ms.length capm, .int .i64 (-1), .slice ua (dfL ds ms).length ca]] #[]) (some 15) rfl rfl (by kernel_rfl) (by kernel_rfl) (by kernel_rfl) (fun _ _ _ h => h) (yieldsIf_run (by kernel_rfl) (fun W _ => by kernel_rfl)) S1 ?_
  obtain ⟨V2, hV2⟩ : ∃ W', W' = V1.alloc (.cells #[.func (.func 66) #[.agg #[.int .i64 p, .slice ad ds.length cap, .slice am ms.length capm, .int .i64 (-1), .slice ua (dfL ds ms).length ca]] #[], .func (.func 66) #[.agg #[.int .i64 p, .slice ad2 ds2.length cap2, .slice am2 ms2.length capm2, .int .i64 0, .slice af fs.length cf]] #[]] 75) := ⟨_, rfl⟩
  have hb2 : Below V1.heap.size V1 V2 := by rw [hV2]; exact below_alloc1 _ _
  have S2 : Below w2.heap.size w2 V2 := S1.trans (hb2.mono S1.size)
  have hA_2 := hA.below hb2
  have a0 : V2.cell? ⟨V1.heap.size, 0, none⟩ = some (.func (.func 66) #[.agg #[.int .i64 p, .slice ad ds.length cap, .slice am ms.length capm, .int .i64 (-1), .slice ua (dfL ds ms).length ca]] #[]) := by rw [hV2]; exact cell_new2 _ _ _ _
  have a1 : V2.cell? ⟨V1.heap.size, 1, none⟩ = some (.func (.func 66) #[.agg #[.int .i64 p, .slice ad2 ds2.length cap2, .slice am2 ms2.length capm2, .int .i64 0, .slice af fs.length cf]] #[]) := by rw [hV2]; exact cell_new2' _ _ _ _
  refine held_mem (i := 7) (v := .slice (some ⟨V1.heap.size, 0, none⟩) 2 2) (w' := V2) (some 18) (by kernel_rfl) rfl rfl rfl (by rw [hV2]; go_simp) S2 ?_
  refine held_enter (i := 8) (some 19) (f := 65) (args := #[.int .i64 1, .slice (some ⟨V1.heap.size, 0, none⟩) 2 2]) (by kernel_rfl) rfl rfl rfl (by kernel_rfl) (along_any _ _ 2 2 V2) ?_ (fun c w' h => by cases h.1) (fun w' h => by cases h.1)
  rintro e3 V3 ⟨he3, hb3⟩
  injection he3 with he3
  subst he3
  have S3 : Below w2.heap.size w2 V3 := S2.trans (hb3.mono S2.size)
  have hA_3 := hA_2.below hb3
  have a0_3 := later hb3 (Nat.le_refl _) a0
  have a1_3 := later hb3 (Nat.le_refl _) a1
  refine ⟨S3, ?_⟩
  refine held_enter (i := 15) (some 26) (f := 67) (args := #[.agg #[.int .i64 p, .slice ad2 ds2.length cap2, .slice am2 ms2.length capm2]]) (by kernel_rfl) rfl rfl rfl (by kernel_rfl) (differentialMap_any p _ _ ds2 ms2 V3 (HNX.out V3 S3).2.1.cx HCY.out) ?_ (fun c w' h => by obtain ⟨_, h, _⟩ := h; cases h) (fun w' h => by obtain ⟨_, h, _⟩ := h; cases h)
  rintro e4 V4 ⟨uy, he4, hB, hb4⟩
  injection he4 with he4
  subst he4
  obtain ⟨ub, cb, rfl⟩ := Sl.shape hB
  have S4 : Below w2.heap.size w2 V4 := S3.trans (hb4.mono S3.size)
  have hA_4 := hA_3.below hb4
  have a0_4 := later hb4 (Nat.le_refl _) a0_3
  have a1_4 := later hb4 (Nat.le_refl _) a1_3
  refine ⟨S4, ?_⟩
  refine held_take (i := 16) (v := .func (.func 66) #[.agg #[.int .i64 p, .slice ad2 ds2.length cap2, .slice am2 ms2.length capm2, .int .i64 (-1), .slice ub (dfL ds2 ms2).length cb]] #[]) (some 27) rfl rfl (by kernel_rfl) (by kernel_rfl) (by kernel_rfl) (fun _ _ _ h => h) (yieldsIf_run (by kernel_rfl) (fun W _ => by kernel_rfl)) S4 ?_
  obtain ⟨V5, hV5⟩ : ∃ W', W' = V4.alloc (.cells #[.func (.func 66) #[.agg #[.int .i64 p, .slice ad2 ds2.length cap2, .slice am2 ms2.length capm2, .int .i64 0, .slice af fs.length cf]] #[], .func (.func 66) #[.agg #[.int .i64 p, .slice ad2 ds2.length cap2, .slice am2 ms2.length capm2, .int .i64 (-1), .slice ub (dfL ds2 ms2).length cb]] #[]] 75) := ⟨_, rfl⟩
  have hb5 : Below V4.heap.size V4 V5 := by rw [hV5]; exact below_alloc1 _ _
  have S5 : Below w2.heap.size w2 V5 := S4.trans (hb5.mono S4.size)
  have hA_5 := hA_4.below hb5
  have a0_5 := later hb5 (Nat.le_refl _) a0_4
  have a1_5 := later hb5 (Nat.le_refl _) a1_4
  have hB_5 := hB.below hb5
  have b0 : V5.cell? ⟨V4.heap.size, 0, none⟩ = some (.func (.func 66) #[.agg #[.int .i64 p, .slice ad2 ds2.length cap2, .slice am2 ms2.length capm2, .int .i64 0, .slice af fs.length cf]] #[]) := by rw [hV5]; exact cell_new2 _ _ _ _
  have b1 : V5.cell? ⟨V4.heap.size, 1, none⟩ = some (.func (.func 66) #[.agg #[.int .i64 p, .slice ad2 ds2.length cap2, .slice am2 ms2.length capm2, .int .i64 (-1), .slice ub (dfL ds2 ms2).length cb]] #[]) := by rw [hV5]; exact cell_new2' _ _ _ _
  refine held_mem (i := 17) (v := .slice (some ⟨V4.heap.size, 0, none⟩) 2 2) (w' := V5) (some 28) (by kernel_rfl) rfl rfl rfl (by rw [hV5]; go_simp) S5 ?_
  refine held_enter (i := 18) (some 29) (f := 65) (args := #[.int .i64 (p - 1), .slice (some ⟨V4.heap.size, 0, none⟩) 2 2]) (by kernel_rfl) rfl rfl rfl (by kernel_rfl) (along_any _ _ 2 2 V5) ?_ (fun c w' h => by cases h.1) (fun w' h => by cases h.1)
  rintro e6 V6 ⟨he6, hb6⟩
  injection he6 with he6
  subst he6
  have S6 : Below w2.heap.size w2 V6 := S5.trans (hb6.mono S5.size)
  have hA_6 := hA_5.below hb6
  have a0_6 := later hb6 (Nat.le_refl _) a0_5
  have a1_6 := later hb6 (Nat.le_refl _) a1_5
  have hB_6 := hB_5.below hb6
  have b0_6 := later hb6 (Nat.le_refl _) b0
  have b1_6 := later hb6 (Nat.le_refl _) b1
  refine ⟨S6, ?_⟩
  obtain ⟨V7, hV7⟩ : ∃ W', W' = V6.alloc (.cells #[.int .i64 1, .slice (some ⟨V1.heap.size, 0, none⟩) 2 2, .int .i64 (p - 1), .slice (some ⟨V4.heap.size, 0, none⟩) 2 2] 73) := ⟨_, rfl⟩
  have hb7 : Below V6.heap.size V6 V7 := by rw [hV7]; exact below_alloc1 _ _
  have S7 : Below w2.heap.size w2 V7 := S6.trans (hb7.mono S6.size)
  have hA_7 := hA_6.below hb7
  have a0_7 := later hb7 (Nat.le_refl _) a0_6
  have a1_7 := later hb7 (Nat.le_refl _) a1_6
  have hB_7 := hB_6.below hb7
  have b0_7 := later hb7 (Nat.le_refl _) b0_6
  have b1_7 := later hb7 (Nat.le_refl _) b1_6
  have p0 : V7.cell? ⟨V6.heap.size, 0, none⟩ = some (.int .i64 1) := by rw [hV7]; simp
  have p1 : V7.cell? ⟨V6.heap.size, 1, none⟩ = some (.slice (some ⟨V1.heap.size, 0, none⟩) 2 2) := by rw [hV7]; simp
  have p2 : V7.cell? ⟨V6.heap.size, 2, none⟩ = some (.int .i64 (p - 1)) := by rw [hV7]; simp
  have p3 : V7.cell? ⟨V6.heap.size, 3, none⟩ = some (.slice (some ⟨V4.heap.size, 0, none⟩) 2 2) := by rw [hV7]; simp
  refine held_mem (i := 19) (v := .slice (some ⟨V6.heap.size, 0, none⟩) 2 2) (w' := V7) (some 30) (by kernel_rfl) rfl rfl rfl (by rw [hV7]; go_simp) S7 ?_
  have hN := HNX.out V7 S7
  have hcon := chSum_any p (V6.heap.size) (V1.heap.size) (V4.heap.size) _ _ _ _ _ _ _ ds ms ds2 ms2 fs V7 hN.1.cx hN.2.1.cx hN.2.2.2.1 hA_7 hB_7 HCX.out HCY.out HLL.out HFO.out p0 p1 p2 p3 a0_7 a1_7 b0_7 b1_7
  refine held_enter (i := 20) (some 31) (f := 64) (args := #[.agg #[.int .i64 p, .slice ad ds.length cap, .slice am ms.length capm], .agg #[.int .i64 p, .slice ad2 ds2.length cap2, .slice am2 ms2.length capm2], .int .i64 (-1), .slice (some ⟨V6.heap.size, 0, none⟩) 2 2]) (by kernel_rfl) rfl rfl rfl (by kernel_rfl) (hcon) ?_ (fun c w' h => by obtain ⟨_, h, _⟩ := h; cases h) (fun w' h => by obtain ⟨_, h, _⟩ := h; cases h)
  rintro e8 V8 ⟨uF, he8, hrF, hb8⟩
  injection he8 with he8
  subst he8
  obtain ⟨auF, cuF, hsF⟩ := hrF.shape
  obtain ⟨nF, hnF⟩ : ∃ n, n = (famL ds.length (rsF ds) (csF ds2 (-1)) (chZ p ds ms ds2 ms2 fs)).length := ⟨_, rfl⟩
  rw [← hnF] at hsF
  subst hsF
  have S8 : Below w2.heap.size w2 V8 := S7.trans (hb8.mono S7.size)
  refine ⟨S8, ?_⟩
  refine held_take (i := 21) (v := .slice auF nF cuF) (some 7) rfl rfl (by kernel_rfl) (by kernel_rfl) (by kernel_rfl) (fun _ _ _ h => h) (yieldsIf_assign (by kernel_rfl) rfl (by kernel_rfl)) S8 ?_
  refine wpAnyH_done (by kernel_rfl) ?_ _
  simp only [Act.put, List.setIfInBounds_toArray, List.set_cons_zero, List.set_cons_succ]
  have HRF := Lib.hid hrF.l
  have HSF := Lib.hid S8
  obtain ⟨wz, hwz⟩ : ∃ wz : World, wz = V8 := ⟨_, rfl⟩
  rw [← hwz] at HRF HSF ⊢
  have HH := Lib.hid (HNX.out wz HSF.out)
  have hl6 := HCX.out.1.len1
  have HZC := Lib.hid (isZeroFamily_any (.slice auF nF cuF) _ wz HRF.out (by rw [famL_length]; omega) (fun n hn => by rw [famL_length] at hn; rw [famL_get hn, tableOf_len]; have := HCX.out.1.dim n; simp only [rsF]; omega) (fun n hn i hi => by rw [famL_length] at hn; rw [famL_get hn, tableOf_len] at hi; rw [famL_get hn, tableOf_get hi, List.length_map, List.length_range]; have := dimZ_8 HCY.out ((n : Int) + (-1)); simp only [csF]; omega))
  have HIF : Hid (ZeroF (famL ds.length (rsF ds) (csF ds2 (-1)) (chZ p ds ms ds2 ms2 fs)) ↔ ChainOk p ds ms ds2 ms2 fs) := Lib.hid (zeroF_famL.trans (chain_iff HCX.out.1 HCY.out.1 HLL.out HFO.out))
  clear hcon hN hrF hwz hnF hb1 hb2 hb3 hb4 hb5 hb6 hb7 hb8 S0 S1 S2 S3 S4 S5 S6 S7 S8 hV2 hV5 hV7
  go_wp2_with fail
  refine HZC.out.mono ?_
  rintro ee w9 ⟨bb, rfl, hb9, hbb⟩
  have HB9 := Lib.hid (HH.out.1.below.trans (hb9.mono HH.out.1.below.size))
  have HG9 := Lib.hid (later hb9 (Nat.le_refl _) HH.out.2.2.2.2)
  clear HZC hb9
  by_cases hc : ChainOk p ds ms ds2 ms2 fs
  · obtain rfl : bb = true := hbb.2 (HIF.out.2 hc)
    have HC := Lib.hid hc
    clear hbb hc
    go_wp2
    go_end0
    exact ⟨HB9.out, Or.inl ⟨HC.out, rfl⟩⟩
  · obtain rfl : bb = false := by
      cases bb with
      | false => rfl
      | true => exact absurd (HIF.out.1 (hbb.1 rfl)) hc
    have HC := Lib.hid hc
    have g0 := HG9.out
    clear hbb hc
    go_wp2
    exact ⟨rfl, HB9.out, Or.inr ⟨HC.out, rfl⟩⟩
end Go.Proofs.YtpchbceohnabnabDoor


namespace Go.Proofs.YtpchbceohnabnabDoor
open Go.RowKit

theorem hasserts (pv : Value) (W : World) : (Instr.typeAssert (.iface 135 pv) 20 83 true).run Tryd.prog W = .ok (.tuple #[.iface 135 pv, .bool true]) W := by kernel_rfl
theorem hassertn (W : World) : (Instr.typeAssert .nilIface 20 83 true).run Tryd.prog W = .ok (.tuple #[.nilIface, .bool false]) W := by kernel_rfl

set_option maxRecDepth 100000 in
theorem catch_yes (a : Addr) (x : Int) (pv : Value) (older : List PanicEntry) (w : World) (hc : w.cell? a = some (.int .i64 x)) (hz : w.frozen? a = false) :
    CallsD Tryd.prog 72 #[.pointer (some a)] (.panicking ({ v := .iface 135 pv, recovered := false } :: older)) w fun e u' w' =>
      e = .returned (.tuple #[]) ∧ u' = .panicking ({ v := .iface 135 pv, recovered := true } :: older) ∧ w' = w.setCell a (.int .i64 5) := by
  refine callsD_of_wpS Tryd.func72 rfl fun c₀ cs hu => ?_
  apply wpS_seq
  apply wpS_region
  simp [wpOpsS, go_sem, recoverD, hu, Tryd.ntmps72, Exit.thenS, hasserts]
  apply wpS_seq
  apply wpS_region
  simp [wpOpsS, go_sem, Exit.thenS, Array.replicate]
  refine wpS_cond (t := true) (by simp [Act.eval]) ?_
  simp only [if_true]
  apply wpS_region
  simp [wpOpsS, go_sem, hc, hz, bodyPostS, results, Tryd.results72]
theorem catch_no (a : Addr) (w : World) :
    CallsD Tryd.prog 72 #[.pointer (some a)] .returning w fun e u' w' => e = .returned (.tuple #[]) ∧ u' = .returning ∧ w' = w := by
  refine callsD_of_wpS Tryd.func72 rfl fun c₀ cs hu => ?_
  apply wpS_seq
  apply wpS_region
  simp [wpOpsS, go_sem, recoverD, hu, Tryd.ntmps72, Exit.thenS, hassertn]
  apply wpS_seq
  apply wpS_region
  simp [wpOpsS, go_sem, Exit.thenS, Array.replicate]
  refine wpS_cond (t := false) (by simp [Act.eval]) ?_
  simp only [Bool.false_eq_true, if_false]
  refine wpS_of_wp (wp_skip ?_)
  cases c₀
  simp_all [bodyPostS, results, Tryd.results72]

/-- Families in a row at block b. -/
def FamsAt (w : World) (b k : Nat) (F : Nat → List (List (List Int))) : Prop := ∀ j, j < k → ∃ v, w.cell? ⟨b, j, none⟩ = some v ∧ L3 0 w v (F j)
def StR (p : Int) (ds : List Int) (ms : List (List (List Int))) (ds2 : List Int) (ms2 : List (List (List Int))) (k : Nat) (F : Nat → List (List (List Int))) (w : World) (e : Ending) (w' : World) : Prop :=
  ∃ c : Int, e = .returned (.int .i64 c) ∧ Below w.heap.size w w' ∧ ((c = 0 ∧ ∀ j, j < k → ChainOk p ds ms ds2 ms2 (F j)) ∨ (c = 5 ∧ ¬ ∀ j, j < k → ChainOk p ds ms ds2 ms2 (F j)))

set_option maxHeartbeats 6400000 in
set_option maxRecDepth 100000 in
theorem checkState_any (p : Int) (k b : Nat) (F : Nat → List (List (List Int))) (pv : Value) (dv mv dv2 mv2 : Value) (ds : List Int) (ms : List (List (List Int))) (ds2 : List Int) (ms2 : List (List (List Int))) (w : World) (h : Cx 0 w dv mv ds ms) (h2 : Cx 0 w dv2 mv2 ds2 ms2) (hFs : FamsAt w b k F) (hk : k ≤ 100) (hcx : IsCx p ds ms) (hcy : IsCx p ds2 ms2) (hl : ds.length = ds2.length) (hF : ∀ j, j < k → FamOk p ds ds2 0 (F j)) (hgl : w.cell? ⟨0, 0, none⟩ = some (.iface 135 pv)) :
    Calls Tryd.prog 37 #[.agg #[.int .i64 p, dv, mv], .agg #[.int .i64 p, dv2, mv2], .slice (some ⟨b, 0, none⟩) k k] w (StR p ds ms ds2 ms2 k F w) := by
  have hmf : ∀ (fn : Fn) (first cap : Array Value) (w : World), (Instr.makeFunc fn first cap).run Tryd.prog w = .ok (.func fn first cap) w := fun _ _ _ _ => rfl
  obtain ⟨ad, cap, rfl⟩ := Sl.shape h.dims
  obtain ⟨am, capm, rfl⟩ := Sl.shape h.maps
  obtain ⟨ad2, cap2, rfl⟩ := Sl.shape h2.dims
  obtain ⟨am2, capm2, rfl⟩ := Sl.shape h2.maps
  obtain ⟨k1, k2⟩ := bx_two (p := p) (p2 := p) 30 h h2
  obtain ⟨wb, hwb⟩ : ∃ wb, wb = ((w.alloc (.cells #[.int .i64 p, .slice ad ds.length cap, .slice am ms.length capm] 30)).alloc (.cells #[.int .i64 p, .slice ad2 ds2.length cap2, .slice am2 ms2.length capm2] 30)) := ⟨_, rfl⟩
  rw [← hwb] at k1 k2
  have hsb : wb.heap.size = w.heap.size + 2 := by rw [hwb]; simp
  obtain ⟨w1, hw1⟩ : ∃ w1, w1 = wb.alloc (.cells #[.int .i64 0] 2) := ⟨_, rfl⟩
  have hb1 : Below wb.heap.size wb w1 := by rw [hw1]; exact below_alloc1 _ _
  have HX0 := Lib.hid (k1.next hb1)
  have HY0 := Lib.hid (k2.next hb1)
  have HZ0 : Hid (Rz w1 (w.heap.size + 2) 2 #[.int .i64 0]) := Lib.hid (by rw [hw1, ← hsb]; exact Rz.new _ _ _)
  have HB01 := Lib.hid HX0.out.below
  have HFS := Lib.hid hFs
  have HCX := Lib.hid hcx
  have HCY := Lib.hid hcy
  have HLL := Lib.hid hl
  have HFO := Lib.hid hF
  have HGL := Lib.hid hgl
  have HRES : Hid (Tryd.f37.results = #[.cell 6 2]) := Lib.hid (by kernel_rfl)
  have HNX : Hid (∀ W, Below w1.heap.size w1 W → Bx w W w.heap.size p (.slice ad ds.length cap) (.slice am ms.length capm) ds ms ∧ Bx w W (w.heap.size + 1) p (.slice ad2 ds2.length cap2) (.slice am2 ms2.length capm2) ds2 ms2 ∧ Rz W (w.heap.size + 2) 2 #[.int .i64 0] ∧ Below w.heap.size w W) := Lib.hid (fun W hb => ⟨HX0.out.next hb, HY0.out.next hb, HZ0.out.next hb, HB01.out.trans (hb.mono HB01.out.size)⟩)
  rw [hwb] at hw1
  clear h h2 hFs hcx hcy hl hF hgl k1 k2 hb1 hwb hsb
  go_enter_defers Tryd.func37, Tryd.ntmps37
  go_upto_region 1 with fail
  rw [← hw1]
  clear hw1
  go_wp2
  go_loopw [12] (fun i wr => ∃ (j : Nat), j ≤ k ∧ i = .int .i64 j ∧ Hid (Below w1.heap.size w1 wr) ∧ Hid (∀ j2, j2 < j → ChainOk p ds ms ds2 ms2 (F j2))) (fun i _ => k - (intOf i).toNat)
  case atStart => exact ⟨0, Nat.zero_le _, rfl, Lib.hid (Below.refl _ _), Lib.hid (fun _ h => absurd h (Nat.not_lt_zero _))⟩
  case round =>
    obtain ⟨j, hj, rfl, HB, HC⟩ := hrel
    obtain ⟨wx, hwx⟩ : ∃ wx : World, wx = wr := ⟨_, rfl⟩
    subst hwx
    have HH := Lib.hid (HNX.out wx HB.out)
    by_cases hlt : j < k
    · obtain ⟨v, hv, hl3⟩ := HFS.out j hlt
      have hbw := HH.out.2.2.2
      have hv' := later hbw (Nat.le_refl _) hv
      obtain ⟨af, cf, rfl⟩ := Sl.shape hl3
      have HRQ := Lib.hid (requireChainMap_any p 135 pv _ _ _ _ _ ds ms ds2 ms2 (F j) wx HH.out.1.cx HH.out.2.1.cx (hl3.below hbw) HCX.out HCY.out HLL.out (HFO.out j hlt) (later hbw (Nat.le_refl _) HGL.out))
      have c0 := HH.out.1.c0
      have c1 := HH.out.1.c1
      have c2 := HH.out.1.c2
      have d0 := HH.out.2.1.c0
      have d1 := HH.out.2.1.c1
      have d2 := HH.out.2.1.c2
      obtain ⟨fl, hfl⟩ : ∃ fl, fl = (F j).length := ⟨_, rfl⟩
      rw [← hfl] at hv' HRQ
      clear hv hl3 hbw hfl
      go_wp2_with fail
      refine HRQ.out.mono ?_
      rintro e w2 ⟨hb2, hh⟩
      have HB2 := Lib.hid (HB.out.trans (hb2.mono HB.out.size))
      clear HRQ hb2 c0 c1 c2 d0 d1 d2 hv'
      rcases hh with ⟨hc, rfl⟩ | ⟨hc, rfl⟩
      · have HC2 := Lib.hid hc
        clear hc
        go_wp2
        go_roundw
        case rel => exact ⟨j + 1, by omega, by go_num, HB2, Lib.hid (fun j2 h2 => by
          by_cases e : j2 = j
          · subst e; exact HC2.out
          · exact HC.out j2 (by omega))⟩
        case measure => simp [intOf]; omega
      · have HC2 := Lib.hid hc
        clear hc
        have HN2 := Lib.hid (HNX.out w2 HB2.out)
        have q0 : w2.cell? ⟨w.heap.size + 2, 0, none⟩ = some (.int .i64 0) := HN2.out.2.2.1.cell (i := 0) rfl
        have z0 := rz_frozen HN2.out.2.2.1 0
        go_wp2
        refine leaves_cons (f := 72) (args := #[.pointer (some ⟨w.heap.size + 1 + 1, 0, none⟩)]) (by simp) (by simp [go_sem]) ?_
        refine (catch_yes ⟨w.heap.size + 1 + 1, 0, none⟩ 0 pv [] w2 q0 z0).mono ?_
        rintro e u' w'' ⟨rfl, rfl, rfl⟩
        have q5 : (w2.setCell ⟨w.heap.size + 1 + 1, 0, none⟩ (.int .i64 5)).cell? ⟨w.heap.size + 1 + 1, 0, none⟩ = some (.int .i64 5) := World.cell?_setCell_same _ _ _ q0
        refine ⟨.int .i64 5, ?_, 5, rfl, HN2.out.2.2.2.setCell (by show w.heap.size ≤ w.heap.size + 1 + 1; omega) _, Or.inr ⟨rfl, fun hall => HC2.out (hall j hlt)⟩⟩
        simp only [results, HRES.out]
        go_simp
    · have HN2 := HH
      have q0 : wx.cell? ⟨w.heap.size + 2, 0, none⟩ = some (.int .i64 0) := HN2.out.2.2.1.cell (i := 0) rfl
      have z0 := rz_frozen HN2.out.2.2.1 0
      have q5 : (wx.setCell ⟨w.heap.size + 1 + 1, 0, none⟩ (.int .i64 0)).cell? ⟨w.heap.size + 1 + 1, 0, none⟩ = some (.int .i64 0) := World.cell?_setCell_same _ _ _ q0
      go_wp2
      refine leaves_cons (f := 72) (args := #[.pointer (some ⟨w.heap.size + 1 + 1, 0, none⟩)]) (by simp) (by simp [go_sem]) ?_
      refine (catch_no ⟨w.heap.size + 1 + 1, 0, none⟩ _).mono ?_
      rintro e u' w'' ⟨rfl, rfl, rfl⟩
      refine ⟨.int .i64 0, ?_, 0, rfl, HN2.out.2.2.2.setCell (by show w.heap.size ≤ w.heap.size + 1 + 1; omega) _, Or.inl ⟨rfl, fun j2 h2 => HC.out j2 (by omega)⟩⟩
      simp only [results, HRES.out]
      go_simp
end Go.Proofs.YtpchbceohnabnabDoor


namespace Go.Proofs.YtpchbceohnabnabDoor
open Go.RowKit

def ApB (p : Int) (c : Nat) (v : List Int) (t : List (List Int)) (w : World) (e : Ending) (w' : World) : Prop := ∃ u, e = .returned u ∧ Gb w.heap.size w' u (apT p c v t) ∧ Below w.heap.size w w'
theorem Ap.doneB {w wr : World} {p : Int} {c : Nat} {v : List Int} {t : List (List Int)} (hc : c ≤ 1048576) (ok : ApOk p c v t) (h : Ap w wr 2 p c v t v.length 0) : Gb w.heap.size wr (.slice (some ⟨w.heap.size, 0, none⟩) c c) (apT p c v t) := by
  have hl := apTo_length ok (Nat.le_refl _)
  have h1 : wr.rowIs w.heap.size 2 c (fun i => .int .i64 ((apT p c v t).getD i 0)) := h.row.congr (fun j _ => by simp [apCell, apT])
  have hlen : (apT p c v t).length = c := hl
  exact gb_row h1 hlen (fun i hi => by rw [getD_of_lt _ hi]) (by unfold maxLen; omega) (Nat.le_refl _)
set_option maxHeartbeats 3200000 in
theorem l01ApplyB_any (p : Int) (c : Nat) (va vt : Value) (v : List Int) (t : List (List Int)) (w : World) (ok : ApOk p c v t) (ha : L1 0 w va v) (ht : L2 0 w vt t) (hv : v.length ≤ 1048576) (hc : c ≤ 1048576) :
    Calls Tryd.prog 87 #[.int .i64 p, vt, va, .int .i64 c] w (ApB p c v t w) := by
  have hmk := run_make_row' (P := Tryd.prog) 22 2 (.int .i64 0) 8 Tryd.underlying22 Tryd.infoI rfl .i64 .i64 c (by omega) (by omega)
  have hp0 := ok.prime.lo
  have hp1 := ok.prime.hi
  have OK := Lib.hid ok
  clear ok
  refine Sl.cases ha (fun ad cap hx hv' => ?_) (fun b o cap hv' _ hpos hcl => ?_)
  · subst hx hv'
    clear ha ht
    go_enter Tryd.func87, Tryd.ntmps87
    go_wp2
    refine wp_loop_rounds 1 ?_
    rw [rounds_succ]
    go_wp2
    go_ret
    exact ⟨_, rfl, Ap.doneB (by omega) OK.out (Ap.start _ _ _ _ _ _), (Below.refl _ _).alloc (Nat.le_refl _) _⟩
  · refine Sl.cases ht (fun ad2 cap2 hx2 hv2 => absurd OK.out.len (by subst hx2; simp only [List.length_nil]; omega)) (fun b2 o2 cap2 hv2 _ hpos2 hcl2 => ?_)
    subst hv' hv2
    clear ha ht
    have hlen := OK.out.len
    have HC := Lib.hid hcl
    have HC2 := Lib.hid hcl2
    clear hcl hcl2
    go_enter Tryd.func87, Tryd.ntmps87
    go_wp2
    clear hmk
    go_loopw [10, 11] (fun i _ wr => ∃ (k : Nat), k ≤ v.length ∧ i = .int .i64 k ∧ Ap w wr 2 p c v t k 0) (fun i _ _ => v.length - (intOf i).toNat)
    case atStart => exact ⟨0, Nat.zero_le _, rfl, Ap.start _ _ _ _ _ _⟩
    case round =>
      obtain ⟨k, hk, rfl, HA⟩ := hrel
      by_cases hlt2 : k < v.length
      · have hlt3 : k < t.length := by omega
        obtain ⟨u, hu, hr⟩ := HC.out k hlt2
        obtain ⟨u2, hu2, hr2⟩ := HC2.out k hlt3
        have hnum := OK.out.num hlt2
        have hrow := OK.out.row hlt2
        rw [getD_of_lt _ hlt2] at hnum
        rw [getD_of_lt _ hlt3] at hrow
        obtain ⟨f, hf⟩ : ∃ f, f = v[k] := ⟨_, rfl⟩
        obtain ⟨ys, hy⟩ : ∃ ys, ys = t[k] := ⟨_, rfl⟩
        rw [← hf] at hnum
        rw [← hy] at hrow hr2
        obtain ⟨hf0, hf1⟩ := hnum
        have HU : Hid (w.cell? ⟨b, o + k, none⟩ = some (.int .i64 f)) := Lib.hid (by rw [hu, hr, hf])
        have HU2 := Lib.hid hu2
        have HF := Lib.hid hf
        have HY := Lib.hid hy
        have HROW := Lib.hid hrow
        have HR2 := Lib.hid hr2
        have HA' := Lib.hid HA
        clear hf hy hrow HA hu hr hu2 hr2
        obtain ⟨wo, hwo⟩ : ∃ wo : World, wo = wr := ⟨_, rfl⟩
        have HWO := Lib.hid hwo
        clear hwo
        go_wp2
        go_loopw [11] (fun i wr => ∃ (q : Nat), q ≤ c ∧ i = .int .i64 q ∧ Ap w wr 2 p c v t k q) (fun i _ => c - (intOf i).toNat)
        case atStart => exact ⟨0, Nat.zero_le _, rfl, HA'.out⟩
        case round =>
          obtain ⟨q, hq, rfl, HB⟩ := hrel
          by_cases hlt4 : q < c
          · have hl5 : q < ys.length := by have := HROW.out.1; omega
            refine Sl.cases HR2.out (fun ad3 cap3 hx3 hv3 => absurd hl5 (by subst hx3; simp)) (fun b3 o3 cap3 hv3 _ hpos3 hcl3 => ?_)
            obtain ⟨u3, hu3, hr3⟩ := hcl3 q hl5
            have hx := HROW.out.2 _ (List.getElem_mem hl5)
            obtain ⟨x, hxx⟩ : ∃ x, x = ys[q] := ⟨_, rfl⟩
            obtain ⟨a, haa⟩ : ∃ a, a = (apTo p c v t k).getD q 0 := ⟨_, rfl⟩
            have hab := apTo_mod OK.out (Nat.le_of_lt hlt2) q
            have hac := HB.cell hlt4
            have hfz := HB.row.frozen q
            rw [← haa] at hab hac
            rw [← hxx] at hx
            obtain ⟨hx0, hx1⟩ := hx
            obtain ⟨ha0, ha1⟩ := hab
            have hu' : wr.cell? ⟨b, o + k, none⟩ = some (.int .i64 f) := by rw [HB.below.cell (p := ⟨b, o + k, none⟩) (cell_lt HU.out)]; exact HU.out
            have hu2' : wr.cell? ⟨b2, o2 + k, none⟩ = some (.slice (some ⟨b3, o3, none⟩) ys.length cap3) := by rw [HB.below.cell (p := ⟨b2, o2 + k, none⟩) (cell_lt HU2.out)]; rw [HU2.out, hv3]
            have hu3' : wr.cell? ⟨b3, o3 + q, none⟩ = some (.int .i64 x) := by rw [HB.below.cell (p := ⟨b3, o3 + q, none⟩) (cell_lt hu3), hu3, hr3, hxx]
            have m0 : 0 ≤ f * x := Int.mul_nonneg hf0 hx0
            have m1 : f * x ≤ 36 := Int.le_trans (Int.mul_le_mul (show f ≤ 6 by omega) (show x ≤ 6 by omega) hx0 (by omega)) (by omega)
            have HS := Lib.hid (HB.step OK.out hlt2 hlt4 (x := (a + f * x) % p) (by rw [haa, HF.out, hxx, getD_of_lt _ hlt2, getD_of_lt _ hlt3, ← HY.out, getD_of_lt _ hl5]))
            clear HB hu3 hr3 haa hxx hv3 hcl3
            go_wp2
            go_region
            all_goals go_wp2
            all_goals go_roundw
            case rel => exact ⟨q + 1, by omega, by go_num, HS.out.drew⟩
            case measure => simp [intOf]; omega
          · have HB' := Lib.hid HB
            have hqc : Hid (q = c) := Lib.hid (by omega)
            clear HB
            go_wp2
            go_roundw
            case rel => exact ⟨k + 1, by omega, by go_num, Ap.next (by have := HB'.out; rwa [hqc.out] at this)⟩
            case measure => simp [intOf]; omega
      · have hkk : k = v.length := by omega
        subst hkk
        have HA' := Lib.hid HA
        clear HA
        go_wp2
        go_ret
        exact ⟨_, rfl, Ap.doneB (by omega) OK.out HA'.out, HA'.out.below⟩


set_option maxHeartbeats 1600000 in
set_option maxRecDepth 100000 in
theorem l04D_any (p : Int) (i c : Nat) (dv mv va : Value) (ds : List Int) (ms : List (List (List Int))) (vs : List Int) (w : World) (h : Cx 0 w dv mv ds ms) (hcx : IsCx p ds ms) (hi : i < ds.length) (hc : dimZ ds ((i : Int) + (-1)) = (c : Int)) (ha : L1 0 w va vs) (ok : ApOk p c vs (cycT ds ms i)) (hvl : vs.length ≤ 1048576) :
    Calls Tryd.prog 59 #[.agg #[.int .i64 p, dv, mv], .int .i64 (i : Int), va] w (GbR (apT p c vs (cycT ds ms i)) w) := by
  obtain ⟨ad, cap, rfl⟩ := Sl.shape h.dims
  obtain ⟨am, capm, rfl⟩ := Sl.shape h.maps
  obtain ⟨av, cv, rfl⟩ := Sl.shape ha
  have HX0 := Lib.hid (Bx.start (p := p) 30 h)
  have HCX := Lib.hid hcx
  have HOK := Lib.hid ok
  have hl6 := hcx.1.len1
  have hz := dimZ_b hcx ((i : Int) + (-1))
  have hc8 : c ≤ 8 := by omega
  obtain ⟨w1, hw1⟩ : ∃ w1 : World, w1 = w.alloc (.cells #[.int .i64 p, .slice ad ds.length cap, .slice am ms.length capm] 30) := ⟨_, rfl⟩
  rw [← hw1] at HX0
  have HA1 := Lib.hid (ha.below HX0.out.below)
  have HN1 : Hid (∀ W, Below w1.heap.size w1 W → Bx w W w.heap.size p (.slice ad ds.length cap) (.slice am ms.length capm) ds ms ∧ L1 0 W (.slice av vs.length cv) vs) := Lib.hid (fun W hb => ⟨HX0.out.next hb, HA1.out.below hb⟩)
  have hs1 := HX0.out.below.size
  have HDC := Lib.hid hc
  clear h hcx ha ok hz hc
  go_enter Tryd.func59, Tryd.ntmps59
  go_upto_region 1 with fail
  rw [← hw1]
  clear hw1
  by_cases h0 : i = 0
  · have hq : ((i : Int) == 0) = true := by simp [h0]
    have HE : Hid (apT p c vs (cycT ds ms i) = []) := Lib.hid (List.eq_nil_of_length_eq_zero (by have h1 := apT_length' HOK.out; have h2 := HDC.out; rw [dimZ_neg (by omega)] at h2; omega))
    clear h0
    go_wp2
    go_ret
    refine ⟨_, rfl, ?_, HX0.out.below.trans ((below_alloc1 _ _).mono hs1)⟩
    rw [HE.out]
    exact (Gb.new w1 (Nat.le_refl _)).mono hs1
  · have hq : ((i : Int) == 0) = false := by simp [h0]
    have hwk : IntKind.i64.wrap ((i : Int) - 1) = (i : Int) + (-1) := by rw [show (i : Int) - 1 = (i : Int) + (-1) by omega]; exact IntWalk.i64_in _ (by omega)
    clear h0
    go_wp2
    refine wp_region_held (S := fun W => Below w1.heap.size w1 W) (by kernel_rfl) ?_
    have S0 : Below w1.heap.size w1 w1.drew := (Below.refl _ _).drew
    refine held_take (i := 0) (v := .pointer (some ⟨w.heap.size, 0, none⟩)) (some 10) rfl rfl (by kernel_rfl) (by kernel_rfl) (by kernel_rfl) (fun _ _ _ h => h) (yieldsIf_run (by kernel_rfl) (fun W _ => by kernel_rfl)) S0 ?_
    refine held_take (i := 1) (v := .int .i64 p) (some 11) rfl rfl (by kernel_rfl) (by kernel_rfl) (by kernel_rfl) (fun _ _ _ h => h) (yieldsIf_cell (by kernel_rfl) rfl (by kernel_rfl) (fun W h => hload W ((HN1.out W h).1.c0))) S0 ?_
    refine held_take (i := 2) (v := .agg #[.int .i64 p, .slice ad ds.length cap, .slice am ms.length capm]) (some 12) rfl rfl (by kernel_rfl) (by kernel_rfl) (by kernel_rfl) (fun _ _ _ h => h) (yieldsIf_cell (by kernel_rfl) rfl (by kernel_rfl) (fun W h => hload3x (HN1.out W h).1)) S0 ?_
    refine held_take (i := 3) (v := .int .i64 (i : Int)) (some 13) rfl rfl (by kernel_rfl) (by kernel_rfl) (by kernel_rfl) (fun _ _ _ h => h) (yieldsIf_move (by kernel_rfl) rfl (by kernel_rfl)) S0 ?_
    refine held_take (i := 5) (v := .slice av vs.length cv) (some 15) rfl rfl (by kernel_rfl) (by kernel_rfl) (by kernel_rfl) (fun _ _ _ h => h) (yieldsIf_move (by kernel_rfl) rfl (by kernel_rfl)) S0 ?_
    refine held_take (i := 6) (v := .agg #[.int .i64 p, .slice ad ds.length cap, .slice am ms.length capm]) (some 16) rfl rfl (by kernel_rfl) (by kernel_rfl) (by kernel_rfl) (fun _ _ _ h => h) (yieldsIf_cell (by kernel_rfl) rfl (by kernel_rfl) (fun W h => hload3x (HN1.out W h).1)) S0 ?_
    refine held_take (i := 7) (v := .int .i64 (i : Int)) (some 17) rfl rfl (by kernel_rfl) (by kernel_rfl) (by kernel_rfl) (fun _ _ _ h => h) (yieldsIf_move (by kernel_rfl) rfl (by kernel_rfl)) S0 ?_
    refine held_take (i := 8) (v := .int .i64 ((i : Int) + (-1))) (some 18) rfl rfl (by kernel_rfl) (by kernel_rfl) (by kernel_rfl) (fun _ _ _ h => h) (yieldsIf_bin (by kernel_rfl) rfl (by kernel_rfl) (by kernel_rfl) (fun _ => rfl) (hsubA hwk)) S0 ?_
    refine held_enter (i := 4) (some 14) (f := 88) (args := #[.agg #[.int .i64 p, .slice ad ds.length cap, .slice am ms.length capm], .int .i64 (i : Int)]) (by kernel_rfl) rfl rfl rfl (by kernel_rfl) (l01Map_any p (i : Int) _ _ ds ms _ (HN1.out _ S0).1.cx HCX.out) ?_ (fun c w' h => by obtain ⟨_, h, _⟩ := h; cases h) (fun w' h => by obtain ⟨_, h, _⟩ := h; cases h)
    rintro ee w2 ⟨vt, he, hvt, hb2⟩
    injection he with he
    subst he
    have S1 : Below w1.heap.size w1 w2 := S0.trans (hb2.mono S0.size)
    obtain ⟨at', ct, hv⟩ := Sl.shape hvt
    subst hv
    refine ⟨S1, ?_⟩
    refine held_enter (i := 9) (some 19) (f := 58) (args := #[.agg #[.int .i64 p, .slice ad ds.length cap, .slice am ms.length capm], .int .i64 ((i : Int) + (-1))]) (by kernel_rfl) rfl rfl rfl (by kernel_rfl) (l01Dim_any p ((i : Int) + (-1)) _ _ ds ms _ (HN1.out _ S1).1.cx (by omega)) ?_ (fun c w' h => by cases h.1) (fun w' h => by cases h.1)
    rintro ee w3 ⟨he, hb3⟩
    injection he with he
    subst he
    have S2 : Below w1.heap.size w1 w3 := S1.trans (hb3.mono S1.size)
    refine ⟨S2, ?_⟩
    have hvt3 := hvt.below hb3
    have hmz : mapZ ds ms (i : Int) = cycT ds ms i := rfl
    rw [HDC.out]
    refine held_enter (i := 10) (some 20) (f := 87) (args := #[.int .i64 p, .slice at' (mapZ ds ms (i : Int)).length ct, .slice av vs.length cv, .int .i64 (c : Int)]) (by kernel_rfl) rfl rfl rfl (by kernel_rfl) (l01ApplyB_any p c _ _ vs (cycT ds ms i) _ HOK.out (HN1.out _ S2).2 hvt3 hvl (by omega)) ?_ (fun c w' h => by obtain ⟨_, h, _⟩ := h; cases h) (fun w' h => by obtain ⟨_, h, _⟩ := h; cases h)
    rintro ee w4 ⟨u4, he, hu, hb4⟩
    injection he with he
    subst he
    obtain ⟨a4, c4, hv⟩ := Sl.shape hu.l1
    subst hv
    have S3 : Below w1.heap.size w1 w4 := S2.trans (hb4.mono S2.size)
    have HU := Lib.hid (hu.mono (Nat.le_trans hs1 S2.size))
    have HBW := Lib.hid (HN1.out _ S3).1.below
    refine ⟨S3, ?_⟩
    refine held_take (i := 11) (v := .slice a4 (apT p c vs (cycT ds ms i)).length c4) (some 6) rfl rfl (by kernel_rfl) (by kernel_rfl) (by kernel_rfl) (fun _ _ _ h => h) (yieldsIf_assign (by kernel_rfl) rfl (by kernel_rfl)) S3 ?_
    refine wpAnyH_done (by kernel_rfl) ?_ _
    simp only [Act.put, List.setIfInBounds_toArray, List.set_cons_zero, List.set_cons_succ]
    clear S0 S1 S2 S3 hb2 hb3 hb4 hu hvt hvt3
    go_wp2
    go_ret
    exact ⟨_, rfl, HU.out, HBW.out⟩
end Go.Proofs.YtpchbceohnabnabDoor


namespace Go.Proofs.YtpchbceohnabnabDoor
open Go.RowKit

set_option maxHeartbeats 800000 in
theorem l04Same_any (va vb : Value) (xs ys : List Int) (w : World) (ha : L1 0 w va xs) (hb : L1 0 w vb ys) (hm : xs.length ≤ 1048576) (hn : ys.length ≤ 1048576) :
    Calls Tryd.prog 62 #[va, vb] w (QR (.bool (decide (xs = ys))) w) := by
  by_cases hl : ys.length = xs.length
  · refine Sl.cases ha (fun ad cap hx hv => ?_) (fun b o cap hv _ hpos hc => ?_)
    · subst hx hv
      obtain ⟨ad2, cap2, hv2⟩ := Sl.shape hb
      rw [hl] at hv2
      obtain rfl : ys = [] := List.eq_nil_of_length_eq_zero hl
      subst hv2
      clear ha hb hl
      go_enter Tryd.func62, Tryd.ntmps62
      go_wp2
      refine wp_loop_rounds 1 ?_
      rw [rounds_succ]
      go_wp2
      go_ret
      exact ⟨rfl, 0, rfl⟩
    · refine Sl.cases hb (fun ad cap hx hv => absurd hl (by subst hx; simp; omega)) (fun b2 o2 cap2 hv2 _ hpos2 hc2 => ?_)
      rw [hl] at hv2
      subst hv hv2
      clear ha hb
      have HL := Lib.hid hl
      have HC := Lib.hid hc
      have HC2 := Lib.hid hc2
      clear hl hc hc2
      go_enter Tryd.func62, Tryd.ntmps62
      go_wp2
      go_loopw [5] (fun i wr => ∃ (k m : Nat), k ≤ xs.length ∧ i = .int .i64 k ∧ wr = w.drewN m ∧ Hid (∀ j (h1 : j < xs.length) (h2 : j < ys.length), j < k → xs[j] = ys[j])) (fun i _ => xs.length - (intOf i).toNat)
      case atStart => exact ⟨0, 0, Nat.zero_le _, rfl, rfl, Lib.hid (fun _ _ _ h => absurd h (Nat.not_lt_zero _))⟩
      case round =>
        obtain ⟨k, m, hk, rfl, rfl, HD⟩ := hrel
        by_cases hlt2 : k < xs.length
        · have hlt3 : k < ys.length := by have := HL.out; omega
          obtain ⟨u, hu, hr⟩ := HC.out k hlt2
          obtain ⟨u2, hu2, hr2⟩ := HC2.out k hlt3
          obtain ⟨x, hx⟩ : ∃ x, x = xs[k] := ⟨_, rfl⟩
          obtain ⟨y, hy⟩ : ∃ y, y = ys[k] := ⟨_, rfl⟩
          rw [hr, ← hx] at hu
          rw [hr2, ← hy] at hu2
          have HX := Lib.hid hx
          have HY := Lib.hid hy
          clear hx hy hr hr2
          by_cases hxy : x = y
          · have HXY := Lib.hid hxy
            have hq : (x != y) = false := by simp [hxy]
            have hq2 : (x == y) = true := by simp [hxy]
            clear hxy
            go_wp2
            go_quiet (fail)
            go_wp2
            go_roundw
            case rel => exact ⟨k + 1, _, by omega, by go_num, rfl, Lib.hid (fun j h1 h2 hjk => by
              by_cases e : j = k
              · subst e; rw [← HX.out, ← HY.out, HXY.out]
              · exact HD.out j h1 h2 (by omega))⟩
            case measure => simp [intOf]; omega
          · have HXY := Lib.hid hxy
            have hq : (x != y) = true := by simp [hxy]
            have hq2 : (x == y) = false := by simp [hxy]
            clear hxy
            go_wp2
            go_quiet (fail)
            go_wp2
            go_ret
            refine ⟨ret_bool ?_, m + nq, by rw [World.drewN_drewN]⟩
            have hne : ¬ xs = ys := fun e => HXY.out (by rw [HX.out, HY.out]; subst e; rfl)
            simp [hne]
        · go_wp2
          go_ret
          refine ⟨ret_bool ?_, m, rfl⟩
          have := list_eq_take HL.out (by omega) HD.out
          simp [this]
  · obtain ⟨ad, cap, rfl⟩ := Sl.shape ha
    obtain ⟨ad2, cap2, rfl⟩ := Sl.shape hb
    clear ha hb
    have hq : ((xs.length : Int) != (ys.length : Int)) = true := by simp; omega
    have hq2 : ((xs.length : Int) == (ys.length : Int)) = false := by simp; omega
    have HL := Lib.hid hl
    clear hl
    go_enter Tryd.func62, Tryd.ntmps62
    go_wp2
    go_ret
    refine ⟨ret_bool ?_, 0, rfl⟩
    have hne : ¬ xs = ys := fun e => HL.out (by rw [e])
    simp [hne]
end Go.Proofs.YtpchbceohnabnabDoor


namespace Go.Proofs.YtpchbceohnabnabDoor
open Go.RowKit

theorem hloadSS (w : World) {b o : Nat} {x : Value} (h : w.cell? ⟨b, o, none⟩ = some x) : (Instr.loadAt 48 (.pointer (some ⟨b, o, none⟩))).run Tryd.prog w = .ok x w := by go_simp
theorem hloadSSS (w : World) {b o : Nat} {x : Value} (h : w.cell? ⟨b, o, none⟩ = some x) : (Instr.loadAt 23 (.pointer (some ⟨b, o, none⟩))).run Tryd.prog w = .ok x w := by go_simp
end Go.Proofs.YtpchbceohnabnabDoor


namespace Go.Proofs.YtpchbceohnabnabDoor
open Go.RowKit

theorem chain_zero {p : Int} {ds : List Int} {ms : List (List (List Int))} {ds2 : List Int} {ms2 fs : List (List (List Int))} (hcx : PreOk p ds ms) (hcy : PreOk p ds2 ms2) (hl : ds.length = ds2.length) (hF : FamOk p ds ds2 0 fs) {i : Nat} (hi : i < rsF ds 0) : chA p ds ms ds2 fs 0 i = chB p ds2 ms2 fs 0 i := by
  have h0 := hcx.len0
  have e : csF ds2 (-1) 0 = 0 := by simp only [csF]; rw [dimZ_neg (by omega)]; rfl
  have a := apT_length' (chA_ok hcx hcy hF (by omega) hi)
  have b := apT_length' (chB_ok hcx hcy hl hF (by omega) hi).1
  rw [e] at a b
  have a' : chA p ds ms ds2 fs 0 i = [] := List.eq_nil_of_length_eq_zero (by unfold chA; rw [e]; exact a)
  have b' : chB p ds2 ms2 fs 0 i = [] := List.eq_nil_of_length_eq_zero (by unfold chB; rw [e]; exact b)
  rw [a', b']
theorem hsubNc {a : Int} (h : 1 ≤ a ∧ a ≤ 100) : IntKind.i64.wrap (a - 1) = a - 1 := IntWalk.i64_in _ (by omega)

set_option maxHeartbeats 6400000 in
set_option maxRecDepth 100000 in
theorem l04Chain_any (p : Int) (dv mv dv2 mv2 fv : Value) (ds : List Int) (ms : List (List (List Int))) (ds2 : List Int) (ms2 fs : List (List (List Int))) (w : World) (h : Cx 0 w dv mv ds ms) (h2 : Cx 0 w dv2 mv2 ds2 ms2) (hf : L3 0 w fv fs) (hcx : IsCx p ds ms) (hcy : IsCx p ds2 ms2) (hl : ds.length = ds2.length) (hF : FamOk p ds ds2 0 fs) :
    Calls Tryd.prog 33 #[.agg #[.int .i64 p, dv, mv], .agg #[.int .i64 p, dv2, mv2], fv] w (BB (ChainOk p ds ms ds2 ms2 fs) w) := by
  obtain ⟨ad, cap, rfl⟩ := Sl.shape h.dims
  obtain ⟨am, capm, rfl⟩ := Sl.shape h.maps
  obtain ⟨ad2, cap2, rfl⟩ := Sl.shape h2.dims
  obtain ⟨am2, capm2, rfl⟩ := Sl.shape h2.maps
  obtain ⟨af, cf, rfl⟩ := Sl.shape hf
  obtain ⟨k1, k2⟩ := bx_two (p := p) (p2 := p) 30 h h2
  have HX0 := Lib.hid k1
  have HY0 := Lib.hid k2
  have HCX := Lib.hid hcx
  have HCY := Lib.hid hcy
  have HLL := Lib.hid hl
  have HFO := Lib.hid hF
  have HF := Lib.hid hf
  have hl6 := hcx.1.len1
  have hl1 := hcx.1.len0
  have HFL : Hid (fs.length = ds.length) := Lib.hid hF.1
  obtain ⟨w1, hw1⟩ : ∃ w1, w1 = ((w.alloc (.cells #[.int .i64 p, .slice ad ds.length cap, .slice am ms.length capm] 30)).alloc (.cells #[.int .i64 p, .slice ad2 ds2.length cap2, .slice am2 ms2.length capm2] 30)) := ⟨_, rfl⟩
  rw [← hw1] at HX0 HY0
  have HB01 := Lib.hid HX0.out.below
  have HNX : Hid (∀ W, Below w1.heap.size w1 W → Bx w W w.heap.size p (.slice ad ds.length cap) (.slice am ms.length capm) ds ms ∧ Bx w W (w.heap.size + 1) p (.slice ad2 ds2.length cap2) (.slice am2 ms2.length capm2) ds2 ms2 ∧ Below w.heap.size w W) := Lib.hid (fun W h => ⟨HX0.out.next h, HY0.out.next h, HB01.out.trans (h.mono HB01.out.size)⟩)
  refine Sl.cases h.dims (fun _ _ hx _ => absurd hl1 (by simp [hx])) (fun bd od capd hvd _ _ hcl => ?_)
  injection hvd with e1 e2 e3
  clear e2
  subst e1 e3
  have HDC : Hid (∀ W, Below w.heap.size w W → ∀ n, n < ds.length → W.cell? ⟨bd, od + n, none⟩ = some (.int .i64 (rsF ds n : Int))) := Lib.hid (fun W hb n hn => by
    obtain ⟨u, hu, hr⟩ := hcl n hn
    have := later hb (Nat.le_refl _) hu
    rw [this, hr, ← getD_of_lt 0 hn]
    have := HCX.out.1.dim n
    simp only [rsF]
    congr 2
    omega)
  clear h h2 hf k1 k2 hcx hcy hl hF hcl
  go_enter Tryd.func33, Tryd.ntmps33
  go_upto_region 1 with fail
  rw [← hw1]
  clear hw1
  go_wp2
  go_loopw [7] (fun k wr => ∃ (n : Nat), 1 ≤ n ∧ n ≤ ds.length ∧ k = .int .i64 n ∧ Hid (Below w1.heap.size w1 wr) ∧ Hid (∀ n2, n2 < n → ∀ i, i < rsF ds n2 → chA p ds ms ds2 fs n2 i = chB p ds2 ms2 fs n2 i)) (fun k _ => ds.length - (intOf k).toNat)
  case atStart => exact ⟨1, Nat.le_refl _, hl1, rfl, Lib.hid (Below.refl _ _), Lib.hid (fun n2 h2 i hi => by
    obtain rfl : n2 = 0 := by omega
    exact chain_zero HCX.out.1 HCY.out.1 HLL.out HFO.out hi)⟩
  case round =>
    obtain ⟨n, hn1, hn, rfl, HB, HC⟩ := hrel
    obtain ⟨wx, hwx⟩ : ∃ wx : World, wx = wr := ⟨_, rfl⟩
    subst hwx
    have HN := Lib.hid (HNX.out wx HB.out)
    have c1 := HN.out.1.c1
    by_cases hlt : n < ds.length
    · obtain ⟨r, hr⟩ : ∃ r, r = rsF ds n := ⟨_, rfl⟩
      have HR := Lib.hid hr
      have hr8 : r ≤ 8 := by have := HCX.out.1.dim n; rw [hr]; simp only [rsF]; omega
      clear hr
      go_wp2
      clear c1
      go_loopw [8] (fun k wr => ∃ (i : Nat), i ≤ r ∧ k = .int .i64 i ∧ Hid (Below w1.heap.size w1 wr) ∧ Hid (∀ i2, i2 < i → chA p ds ms ds2 fs n i2 = chB p ds2 ms2 fs n i2)) (fun k _ => r - (intOf k).toNat)
      case atStart => exact ⟨0, Nat.zero_le _, rfl, HB, Lib.hid (fun _ h => absurd h (Nat.not_lt_zero _))⟩
      case round =>
        obtain ⟨i, hi, rfl, HB2, HI⟩ := hrel
        obtain ⟨wy, hwy⟩ : ∃ wy : World, wy = wr := ⟨_, rfl⟩
        subst hwy
        have HN2 := Lib.hid (HNX.out wy HB2.out)
        have c1 := HN2.out.1.c1
        have hu : wy.cell? ⟨bd, od + n, none⟩ = some (.int .i64 (r : Int)) := by rw [HR.out]; exact HDC.out wy HN2.out.2.2 n hlt
        by_cases hlt2 : i < r
        · have HU := Lib.hid (l04Unit_any r i wy (by omega) hlt2)
          go_wp2_with fail
          refine HU.out.mono ?_
          rintro e w3 ⟨u9, rfl, hg9, hb9⟩
          have HB3 := Lib.hid (HB2.out.trans (hb9.mono HB2.out.size))
          have HN3 := Lib.hid (HNX.out w3 HB3.out)
          have HL9 : Hid (L1 0 w3 u9 (unitL r i)) := Lib.hid hg9.l1
          obtain ⟨a9, c9, hv9⟩ := Sl.shape hg9.l1
          rw [unitRow_length] at hv9
          subst hv9
          clear HU hg9 hb9 c1 hu
          have hlf : n < fs.length := by rw [HFL.out]; exact hlt
          refine Sl.cases HF.out (fun _ _ hx _ => absurd hlf (by simp [hx])) (fun bf of cf2 hvf _ _ hcf => ?_)
          injection hvf with e1 e2 e3
          clear e2
          subst e1 e3
          obtain ⟨ut, hut, hrt⟩ := hcf n hlf
          rw [← getD_of_lt [] hlf] at hrt
          obtain ⟨_, _, hit, hro⟩ := fam_row HFO.out hlt (by rw [← HR.out]; exact hlt2) (HCX.out.1.dim n).1 (HCY.out.1.dsOk.dimZ ((n : Int) + 0)).1
          obtain ⟨t, ht⟩ : ∃ t, t = fs.getD n [] := ⟨_, rfl⟩
          rw [← ht] at hrt hit hro
          have HT := Lib.hid ht
          obtain ⟨at', ct, hvt⟩ := Sl.shape hrt
          subst hvt
          refine Sl.cases hrt (fun _ _ hx _ => absurd hit (by simp [hx])) (fun bt ot ct2 hvt _ _ hct => ?_)
          injection hvt with e1 e2 e3
          clear e2
          subst e1 e3
          obtain ⟨uv, huv, hrv⟩ := hct i hit
          rw [← getD_of_lt [] hit] at hrv
          obtain ⟨row, hrow⟩ : ∃ row, row = t.getD i [] := ⟨_, rfl⟩
          rw [← hrow] at hrv hro
          have HROW := Lib.hid hrow
          obtain ⟨av, cv, hvv⟩ := Sl.shape hrv
          subst hvv
          have hrowl : row.length ≤ 1048576 := by have h1 := hro.1; have h2 := HCY.out.1.dsOk.dimZ ((n : Int) + 0); simp only [csF] at h1; omega
          have HLV := Lib.hid hrv
          have HCE : Hid (∀ W, Below w3.heap.size w3 W → W.cell? ⟨bf, of + n, none⟩ = some (.slice (some ⟨bt, ot, none⟩) t.length ct) ∧ W.cell? ⟨bt, ot + i, none⟩ = some (.slice av row.length cv)) := Lib.hid (fun W hb => by
            have h0 := HN3.out.2.2.trans (hb.mono HN3.out.2.2.size)
            exact ⟨later h0 (Nat.le_refl _) hut, later h0 (Nat.le_refl _) huv⟩)
          have HXY : Hid (∀ W, Below w3.heap.size w3 W → Bx w W w.heap.size p (.slice (some ⟨bd, od, none⟩) ds.length cap) (.slice am ms.length capm) ds ms ∧ Bx w W (w.heap.size + 1) p (.slice ad2 ds2.length cap2) (.slice am2 ms2.length capm2) ds2 ms2 ∧ Below w.heap.size w W ∧ L1 0 W (.slice a9 r c9) (unitL r i)) := Lib.hid (fun W hb => by
            have h0 := HNX.out W (HB3.out.trans (hb.mono HB3.out.size))
            exact ⟨h0.1, h0.2.1, h0.2.2, HL9.out.below hb⟩)
          have hir : i < rsF ds n := by rw [← HR.out]; exact hlt2
          have hfr := fam_row (dfL_fam HCX.out.1) hlt hir (HCX.out.1.dim n).1 (HCX.out.1.dsOk.dimZ ((n : Int) + (-1))).1
          have okd : ApOk p (csF ds (-1) n) (unitL r i) (cycT ds ms n) := by
            have := unit_apOk (i := i) HCX.out.1.prime (cn := csF ds (-1) n) rfl hfr.2.1
            rw [dfL_get hlt, ← HR.out] at this
            exact this
          have edr : apT p (csF ds (-1) n) (unitL r i) (cycT ds ms n) = ((dfL ds ms).getD n []).getD i [] := by
            have := unit_apT (i := i) (unit_apOk (i := i) HCX.out.1.prime (cn := csF ds (-1) n) rfl hfr.2.1) hir
            rw [← HR.out] at this
            rw [dfL_get hlt] at this ⊢
            exact this
          have hzx := HCX.out.1.dsOk.dimZ ((n : Int) + (-1))
          have hzy := HCY.out.1.dsOk.dimZ ((n : Int) + (-1))
          have oA := chA_ok HCX.out.1 HCY.out.1 HFO.out hlt hir
          have oB := (chB_ok HCX.out.1 HCY.out.1 HLL.out HFO.out hlt hir).1
          have epr : prevT fs n = fs.getD (n - 1) [] := if_neg (by omega)
          rw [epr] at oA
          have ecn : ((n - 1 : Nat) : Int) = (n : Int) - 1 := by omega
          have hDR : (((dfL ds ms).getD n []).getD i []).length ≤ 1048576 := by have h1 := hfr.2.2.2.1; simp only [csF] at h1; omega
          have HD1 : Hid (∀ W, Below w3.heap.size w3 W → Calls Tryd.prog 59 #[.agg #[.int .i64 p, .slice (some ⟨bd, od, none⟩) ds.length cap, .slice am ms.length capm], .int .i64 (n : Int), .slice a9 r c9] W (GbR (((dfL ds ms).getD n []).getD i []) W)) := Lib.hid (fun W hb => by
            have h0 := HXY.out W hb
            have := l04D_any p n (csF ds (-1) n) _ _ _ ds ms (unitL r i) W h0.1.cx HCX.out hlt (by simp only [csF]; omega) h0.2.2.2 okd (by rw [unitL_length]; omega)
            rwa [edr] at this)
          have HIM : Hid (∀ W u, Below w3.heap.size w3 W → L1 0 W u (((dfL ds ms).getD n []).getD i []) → Calls Tryd.prog 60 #[.agg #[.int .i64 p, .slice (some ⟨bd, od, none⟩) ds.length cap, .slice am ms.length capm], .agg #[.int .i64 p, .slice ad2 ds2.length cap2, .slice am2 ms2.length capm2], .slice (some ⟨bf, of, none⟩) fs.length cf, .int .i64 ((n : Int) - 1), .int .i64 0, u] W (ApG p (csF ds2 (-1) n) (((dfL ds ms).getD n []).getD i []) (fs.getD (n - 1) []) W)) := Lib.hid (fun W u hb hu => by
            have h0 := HXY.out W hb
            have := l04Image_any p p 0 (n - 1) (csF ds2 (-1) n) _ _ _ _ _ u ds ms ds2 ms2 fs _ W h0.1.cx h0.2.1.cx (HF.out.below h0.2.2.1) hu HCY.out (by omega) (by omega) (by omega) (by rw [ecn, show (n : Int) - 1 + 0 = (n : Int) + (-1) by omega]; simp only [csF]; omega) oA hDR
            rwa [ecn] at this)
          have HD2 : Hid (∀ W, Below w3.heap.size w3 W → Calls Tryd.prog 59 #[.agg #[.int .i64 p, .slice ad2 ds2.length cap2, .slice am2 ms2.length capm2], .int .i64 (n : Int), .slice av row.length cv] W (GbR (chB p ds2 ms2 fs n i) W)) := Lib.hid (fun W hb => by
            have h0 := HXY.out W hb
            have hn2 : n < ds2.length := by rw [← HLL.out]; exact hlt
            have o2 := oB
            rw [dfL_get hn2, ← HT.out, ← HROW.out] at o2
            have := l04D_any p n (csF ds2 (-1) n) _ _ _ ds2 ms2 row W h0.2.1.cx HCY.out hn2 (by simp only [csF]; omega) (HLV.out.below h0.2.2.1) o2 hrowl
            unfold chB
            rw [dfL_get hn2, ← HT.out, ← HROW.out]
            exact this)
          have ecA : chA p ds ms ds2 fs n i = apT p (csF ds2 (-1) n) (((dfL ds ms).getD n []).getD i []) (fs.getD (n - 1) []) := by unfold chA; rw [epr]
          have HAE := Lib.hid ecA
          have hLA : (chA p ds ms ds2 fs n i).length = csF ds2 (-1) n := by rw [ecA]; exact apT_length' oA
          have hLB : (chB p ds2 ms2 fs n i).length = csF ds2 (-1) n := apT_length' oB
          have HLAB : Hid ((chA p ds ms ds2 fs n i).length ≤ 1048576 ∧ (chB p ds2 ms2 fs n i).length ≤ 1048576) := Lib.hid (by rw [hLA, hLB]; simp only [csF]; omega)
          obtain ⟨drl, hdrl⟩ : ∃ k, k = (((dfL ds ms).getD n []).getD i []).length := ⟨_, rfl⟩
          have HDRL := Lib.hid hdrl
          clear hut hrt hcf hct huv hrv ht hrow hro hfr okd edr hzx hzy oA oB epr ecn hDR ecA hLA hLB hdrl hrowl
          go_upto_region 8 with fail
          refine wp_region_held (S := fun W => Below w3.heap.size w3 W) (by kernel_rfl) ?_
          have S0 : Below w3.heap.size w3 w3.drew := (Below.refl _ _).drew
          change wpAnyH _ _ _ _ _ _ _ _ w3.drew
          obtain ⟨wd, hwd⟩ : ∃ wd, wd = w3.drew := ⟨_, rfl⟩
          rw [← hwd] at S0 ⊢
          clear hwd
          refine held_take (i := 0) (v := .agg #[.int .i64 p, .slice (some ⟨bd, od, none⟩) ds.length cap, .slice am ms.length capm]) (some 33) rfl rfl (by kernel_rfl) (by kernel_rfl) (by kernel_rfl) (fun _ _ _ h => h) (yieldsIf_cell (by kernel_rfl) rfl (by kernel_rfl) (fun W h => hload3x (HXY.out W h).1)) S0 ?_
          refine held_take (i := 1) (v := .agg #[.int .i64 p, .slice ad2 ds2.length cap2, .slice am2 ms2.length capm2]) (some 34) rfl rfl (by kernel_rfl) (by kernel_rfl) (by kernel_rfl) (fun _ _ _ h => h) (yieldsIf_cell (by kernel_rfl) rfl (by kernel_rfl) (fun W h => hload3x (HXY.out W h).2.1)) S0 ?_
          refine held_take (i := 2) (v := .slice (some ⟨bf, of, none⟩) fs.length cf) (some 35) rfl rfl (by kernel_rfl) (by kernel_rfl) (by kernel_rfl) (fun _ _ _ h => h) (yieldsIf_move (by kernel_rfl) rfl (by kernel_rfl)) S0 ?_
          refine held_take (i := 3) (v := .int .i64 (n : Int)) (some 36) rfl rfl (by kernel_rfl) (by kernel_rfl) (by kernel_rfl) (fun _ _ _ h => h) (yieldsIf_move (by kernel_rfl) rfl (by kernel_rfl)) S0 ?_
          refine held_take (i := 4) (v := .int .i64 ((n : Int) - 1)) (some 37) rfl rfl (by kernel_rfl) (by kernel_rfl) (by kernel_rfl) (fun _ _ _ h => h) (yieldsIf_bin (by kernel_rfl) rfl (by kernel_rfl) (by kernel_rfl) (fun _ => rfl) (hsubA (hsubNc (by omega)))) S0 ?_
          refine held_take (i := 5) (v := .agg #[.int .i64 p, .slice (some ⟨bd, od, none⟩) ds.length cap, .slice am ms.length capm]) (some 38) rfl rfl (by kernel_rfl) (by kernel_rfl) (by kernel_rfl) (fun _ _ _ h => h) (yieldsIf_cell (by kernel_rfl) rfl (by kernel_rfl) (fun W h => hload3x (HXY.out W h).1)) S0 ?_
          refine held_take (i := 6) (v := .int .i64 (n : Int)) (some 39) rfl rfl (by kernel_rfl) (by kernel_rfl) (by kernel_rfl) (fun _ _ _ h => h) (yieldsIf_move (by kernel_rfl) rfl (by kernel_rfl)) S0 ?_
          refine held_take (i := 7) (v := .slice a9 r c9) (some 40) rfl rfl (by kernel_rfl) (by kernel_rfl) (by kernel_rfl) (fun _ _ _ h => h) (yieldsIf_move (by kernel_rfl) rfl (by kernel_rfl)) S0 ?_
          refine held_take (i := 10) (v := .agg #[.int .i64 p, .slice ad2 ds2.length cap2, .slice am2 ms2.length capm2]) (some 43) rfl rfl (by kernel_rfl) (by kernel_rfl) (by kernel_rfl) (fun _ _ _ h => h) (yieldsIf_cell (by kernel_rfl) rfl (by kernel_rfl) (fun W h => hload3x (HXY.out W h).2.1)) S0 ?_
          refine held_take (i := 11) (v := .int .i64 (n : Int)) (some 44) rfl rfl (by kernel_rfl) (by kernel_rfl) (by kernel_rfl) (fun _ _ _ h => h) (yieldsIf_move (by kernel_rfl) rfl (by kernel_rfl)) S0 ?_
          refine held_take (i := 12) (v := .slice (some ⟨bf, of, none⟩) fs.length cf) (some 45) rfl rfl (by kernel_rfl) (by kernel_rfl) (by kernel_rfl) (fun _ _ _ h => h) (yieldsIf_move (by kernel_rfl) rfl (by kernel_rfl)) S0 ?_
          refine held_take (i := 13) (v := .int .i64 (n : Int)) (some 46) rfl rfl (by kernel_rfl) (by kernel_rfl) (by kernel_rfl) (fun _ _ _ h => h) (yieldsIf_move (by kernel_rfl) rfl (by kernel_rfl)) S0 ?_
          refine held_take (i := 14) (v := .pointer (some ⟨bf, of + n, none⟩)) (some 47) rfl rfl (by kernel_rfl) (by kernel_rfl) (by kernel_rfl) (fun _ _ _ h => h) (yieldsIf_index (by kernel_rfl) rfl (by kernel_rfl) (by kernel_rfl) (hidxU bf of cf hlf)) S0 ?_
          refine held_take (i := 15) (v := .slice (some ⟨bt, ot, none⟩) t.length ct) (some 48) rfl rfl (by kernel_rfl) (by kernel_rfl) (by kernel_rfl) (fun _ _ _ h => h) (yieldsIf_cell (by kernel_rfl) rfl (by kernel_rfl) (fun W h => hloadSS W (HCE.out W h).1)) S0 ?_
          refine held_take (i := 16) (v := .int .i64 (i : Int)) (some 49) rfl rfl (by kernel_rfl) (by kernel_rfl) (by kernel_rfl) (fun _ _ _ h => h) (yieldsIf_move (by kernel_rfl) rfl (by kernel_rfl)) S0 ?_
          refine held_take (i := 17) (v := .pointer (some ⟨bt, ot + i, none⟩)) (some 50) rfl rfl (by kernel_rfl) (by kernel_rfl) (by kernel_rfl) (fun _ _ _ h => h) (yieldsIf_index (by kernel_rfl) rfl (by kernel_rfl) (by kernel_rfl) (hidxS bt ot ct hit)) S0 ?_
          refine held_take (i := 18) (v := .slice av row.length cv) (some 51) rfl rfl (by kernel_rfl) (by kernel_rfl) (by kernel_rfl) (fun _ _ _ h => h) (yieldsIf_cell (by kernel_rfl) rfl (by kernel_rfl) (fun W h => hloadS W (HCE.out W h).2)) S0 ?_
          refine held_enter (i := 8) (some 41) (f := 59) (args := #[.agg #[.int .i64 p, .slice (some ⟨bd, od, none⟩) ds.length cap, .slice am ms.length capm], .int .i64 (n : Int), .slice a9 r c9]) (by kernel_rfl) rfl rfl rfl (by kernel_rfl) (HD1.out _ S0) ?_ (fun c w' h => by obtain ⟨_, h, _⟩ := h; cases h) (fun w' h => by obtain ⟨_, h, _⟩ := h; cases h)
          rintro ee V1 ⟨u1, he, hg1, hb1⟩
          injection he with he
          subst he
          obtain ⟨a1, c1, hv1⟩ := Sl.shape hg1.l1
          rw [← HDRL.out] at hv1
          subst hv1
          have S1 : Below w3.heap.size w3 V1 := S0.trans (hb1.mono S0.size)
          refine ⟨S1, ?_⟩
          refine held_enter (i := 9) (some 42) (f := 60) (args := #[.agg #[.int .i64 p, .slice (some ⟨bd, od, none⟩) ds.length cap, .slice am ms.length capm], .agg #[.int .i64 p, .slice ad2 ds2.length cap2, .slice am2 ms2.length capm2], .slice (some ⟨bf, of, none⟩) fs.length cf, .int .i64 ((n : Int) - 1), .int .i64 0, .slice a1 drl c1]) (by kernel_rfl) rfl rfl rfl (by kernel_rfl) (HIM.out _ _ S1 hg1.l1) ?_ (fun c w' h => by obtain ⟨_, h, _⟩ := h; cases h) (fun w' h => by obtain ⟨_, h, _⟩ := h; cases h)
          rintro ee V2 ⟨u2, he, hg2, hb2⟩
          injection he with he
          subst he
          rw [← HAE.out] at hg2
          obtain ⟨a2, c2, hv2⟩ := Sl.shape hg2.l1
          have S2 : Below w3.heap.size w3 V2 := S1.trans (hb2.mono S1.size)
          obtain ⟨la, hla⟩ : ∃ k, k = (chA p ds ms ds2 fs n i).length := ⟨_, rfl⟩
          rw [← hla] at hv2
          subst hv2
          refine ⟨S2, ?_⟩
          refine held_enter (i := 19) (some 52) (f := 59) (args := #[.agg #[.int .i64 p, .slice ad2 ds2.length cap2, .slice am2 ms2.length capm2], .int .i64 (n : Int), .slice av row.length cv]) (by kernel_rfl) rfl rfl rfl (by kernel_rfl) (HD2.out _ S2) ?_ (fun c w' h => by obtain ⟨_, h, _⟩ := h; cases h) (fun w' h => by obtain ⟨_, h, _⟩ := h; cases h)
          rintro ee V3 ⟨u3, he, hg3, hb3⟩
          injection he with he
          subst he
          obtain ⟨a3, c3, hv3⟩ := Sl.shape hg3.l1
          have S3 : Below w3.heap.size w3 V3 := S2.trans (hb3.mono S2.size)
          obtain ⟨lb, hlb⟩ : ∃ k, k = (chB p ds2 ms2 fs n i).length := ⟨_, rfl⟩
          rw [← hlb] at hv3
          subst hv3
          refine ⟨S3, ?_⟩
          refine held_enter (i := 20) (some 53) (f := 62) (args := #[.slice a2 la c2, .slice a3 lb c3]) (by kernel_rfl) rfl rfl rfl (by kernel_rfl) (l04Same_any _ _ (chA p ds ms ds2 fs n i) (chB p ds2 ms2 fs n i) _ (hg2.l1.below hb3) hg3.l1 HLAB.out.1 HLAB.out.2) ?_ (fun c w' h => by cases h.1) (fun w' h => by cases h.1)
          rintro ee V4 ⟨he, q4, hq4⟩
          injection he with he
          subst he
          have hb4 : Below V3.heap.size V3 V4 := by rw [hq4]; exact drewN_below _ _
          have S4 : Below w3.heap.size w3 V4 := S3.trans (hb4.mono S3.size)
          refine ⟨S4, ?_⟩
          refine held_take (i := 21) (v := .bool (!decide (chA p ds ms ds2 fs n i = chB p ds2 ms2 fs n i))) (some 54) rfl rfl (by kernel_rfl) (by kernel_rfl) (by kernel_rfl) (fun _ _ _ h => h) (yieldsIf_run (by kernel_rfl) (fun W _ => by kernel_rfl)) S4 ?_
          refine wpAnyH_done (by kernel_rfl) ?_ _
          simp only [Act.put, List.setIfInBounds_toArray, List.set_cons_zero, List.set_cons_succ]
          have HB4 := Lib.hid (HB3.out.trans (S4.mono HB3.out.size))
          obtain ⟨wz, hwz⟩ : ∃ wz : World, wz = V4 := ⟨_, rfl⟩
          rw [← hwz] at HB4 ⊢
          have HN4 := Lib.hid (HNX.out wz HB4.out)
          clear S0 S1 S2 S3 S4 hb1 hb2 hb3 hb4 hg1 hg2 hg3 hq4 hwz hla hlb HCE HXY HD1 HIM HD2
          by_cases hch : chA p ds ms ds2 fs n i = chB p ds2 ms2 fs n i
          · rw [decide_eq_true hch]
            have HCH := Lib.hid hch
            clear hch
            simp only [Bool.not_true]
            go_wp2
            go_roundw
            case rel => exact ⟨i + 1, by omega, by go_num, HB4, Lib.hid (fun i2 h2 => by
              by_cases e : i2 = i
              · subst e; exact HCH.out
              · exact HI.out i2 (by omega))⟩
            case measure => simp [intOf]; omega
          · rw [decide_eq_false hch]
            have HCH := Lib.hid hch
            clear hch
            simp only [Bool.not_false]
            go_wp2
            go_ret
            exact bb_false HN4.out.2.2 (fun h => HCH.out (h n hlt i hir))
        · go_wp2
          go_roundw
          case rel => exact ⟨n + 1, by omega, by omega, by go_num, HB2, Lib.hid (fun n2 h2 i2 hi2 => by
            by_cases e : n2 = n
            · subst e
              exact HI.out i2 (by rw [← HR.out] at hi2; omega)
            · exact HC.out n2 (by omega) i2 hi2)⟩
          case measure => simp [intOf]; omega
    · go_wp2
      go_ret
      exact bb_true HN.out.2.2 (fun n2 h2 => HC.out n2 (by omega))
end Go.Proofs.YtpchbceohnabnabDoor


namespace Go.Proofs.YtpchbceohnabnabDoor
open Go.RowKit

theorem hidxQ (b o : Nat) {k n : Nat} (cap : Nat) (hk : k < n) (w : World) : (Instr.indexAt 79 (.slice (some ⟨b, o, none⟩) n cap) (.int .i64 k)).run Tryd.prog w = .ok (.pointer (some ⟨b, o + k, none⟩)) w := by
  have h2 : (0 : Int) ≤ (k : Int) := by omega
  have h3 : (k : Int) < (n : Int) := by omega
  go_simp
def AllCh (p : Int) (ds : List Int) (ms : List (List (List Int))) (ds2 : List Int) (ms2 : List (List (List Int))) (k : Nat) (F : Nat → List (List (List Int))) : Prop := ∀ j, j < k → ChainOk p ds ms ds2 ms2 (F j)
open Classical in
/-- The code of families that have to be chain maps, out of that of families. -/
noncomputable def mapCode (cd : Int) (all : Prop) : Int := if cd = 0 then (if all then 0 else 5) else cd
theorem mapCode_ok {cd : Int} {all : Prop} (h : cd = 0) (ha : all) : mapCode cd all = 0 := by unfold mapCode; rw [if_pos h, if_pos ha]
theorem mapCode_no {cd : Int} {all : Prop} (h : cd = 0) (ha : ¬ all) : mapCode cd all = 5 := by unfold mapCode; rw [if_pos h, if_neg ha]
theorem mapCode_ne {cd : Int} {all : Prop} (h : cd ≠ 0) : mapCode cd all = cd := by unfold mapCode; rw [if_neg h]
theorem mapCode_zero {cd : Int} {all : Prop} (h : mapCode cd all = 0) : cd = 0 ∧ all := by
  by_cases h0 : cd = 0
  · by_cases ha : all
    · exact ⟨h0, ha⟩
    · rw [mapCode_no h0 ha] at h; exact absurd h (by decide)
  · rw [mapCode_ne h0] at h; exact absurd h h0

set_option maxHeartbeats 3200000 in
set_option maxRecDepth 100000 in
theorem checkChainMaps_any {pv : Value} (p p2 cd : Int) (k b : Nat) (F : Nat → List (List (List Int))) (dv mv dv2 mv2 : Value) (ds : List Int) (ms : List (List (List Int))) (ds2 : List Int) (ms2 : List (List (List Int))) (w : World) (h : Cx 0 w dv mv ds ms) (h2 : Cx 0 w dv2 mv2 ds2 ms2) (hFs : FamsAt w b k F) (hk : k ≤ 100)
    (hcd : ∀ W, Below w.heap.size w W → Calls Tryd.prog 36 #[.agg #[.int .i64 p, dv, mv], .agg #[.int .i64 p2, dv2, mv2], .int .i64 0, .slice (some ⟨b, 0, none⟩) k k] W (BR (.int .i64 cd) W)) (hz : cd = 0 → EndOk p p2 ds ms ds2 ms2 ∧ ∀ j, j < k → FamOk p ds ds2 0 (F j)) (hgl : w.cell? ⟨0, 0, none⟩ = some (.iface 135 pv)) :
    Calls Tryd.prog 42 #[.agg #[.int .i64 p, dv, mv], .agg #[.int .i64 p2, dv2, mv2], .slice (some ⟨b, 0, none⟩) k k] w (BR (.int .i64 (mapCode cd (AllCh p ds ms ds2 ms2 k F))) w) := by
  obtain ⟨ad, cap, rfl⟩ := Sl.shape h.dims
  obtain ⟨am, capm, rfl⟩ := Sl.shape h.maps
  obtain ⟨ad2, cap2, rfl⟩ := Sl.shape h2.dims
  obtain ⟨am2, capm2, rfl⟩ := Sl.shape h2.maps
  obtain ⟨k1, k2⟩ := bx_two (p := p) (p2 := p2) 30 h h2
  have HX0 := Lib.hid k1
  have HY0 := Lib.hid k2
  obtain ⟨w1, hw1⟩ : ∃ w1, w1 = ((w.alloc (.cells #[.int .i64 p, .slice ad ds.length cap, .slice am ms.length capm] 30)).alloc (.cells #[.int .i64 p2, .slice ad2 ds2.length cap2, .slice am2 ms2.length capm2] 30)) := ⟨_, rfl⟩
  rw [← hw1] at HX0 HY0
  have hb01 : Below w.heap.size w w1 := HX0.out.below
  have HB01 := Lib.hid hb01
  have HCK := Lib.hid (hcd w1 hb01)
  have HFS : Hid (FamsAt w1 b k F) := Lib.hid (fun j hj => by
    obtain ⟨v, hv, hl⟩ := hFs j hj
    exact ⟨v, later hb01 (Nat.le_refl _) hv, hl.below hb01⟩)
  have HG := Lib.hid (later hb01 (Nat.le_refl _) hgl)
  have HZ := Lib.hid hz
  have c0 := HX0.out.c0
  have c1 := HX0.out.c1
  have c2 := HX0.out.c2
  have d0 := HY0.out.c0
  have d1 := HY0.out.c1
  have d2 := HY0.out.c2
  clear h h2 hFs hcd hz hgl k1 k2 hb01
  go_enter Tryd.func42, Tryd.ntmps42
  go_upto_region 1 with fail
  rw [← hw1]
  clear hw1
  go_wp2_with fail
  refine HCK.out.mono ?_
  rintro e w3 ⟨rfl, hb3⟩
  have HX3 := Lib.hid (HX0.out.next hb3)
  have HY3 := Lib.hid (HY0.out.next hb3)
  have HB3 := Lib.hid hb3
  clear hb3 c0 c1 c2 d0 d1 d2 HCK
  by_cases h0 : cd = 0
  · have HC0 := Lib.hid h0
    subst h0
    have hfz := HZ.out rfl
    have hpp := hfz.1.prime
    subst hpp
    have HST := Lib.hid (checkState_any p k b F pv _ _ _ _ ds ms ds2 ms2 w3 HX3.out.cx HY3.out.cx (fun j hj => by
      obtain ⟨v, hv, hl⟩ := HFS.out j hj
      exact ⟨v, later HB3.out (Nat.le_refl _) hv, hl.below HB3.out⟩) hk hfz.1.x hfz.1.y hfz.1.len hfz.2 (later HB3.out (Nat.le_refl _) HG.out))
    clear hfz
    have c0 := HX3.out.c0
    have c1 := HX3.out.c1
    have c2 := HX3.out.c2
    have d0 := HY3.out.c0
    have d1 := HY3.out.c1
    have d2 := HY3.out.c2
    go_wp2_with fail
    refine HST.out.mono ?_
    rintro e w5 ⟨c, rfl, hb5, hc⟩
    have HB5 := Lib.hid (HX3.out.below.trans (hb5.mono HX3.out.below.size))
    have HCC : Hid (mapCode 0 (AllCh p ds ms ds2 ms2 k F) = c) := Lib.hid (by
      rcases hc with ⟨rfl, ha⟩ | ⟨rfl, ha⟩
      · exact mapCode_ok rfl ha
      · exact mapCode_no rfl ha)
    clear HST c0 c1 c2 d0 d1 d2 hb5 hc
    go_wp2
    go_ret
    exact ⟨by rw [HCC.out]; rfl, HB5.out⟩
  · have hne2 : (cd != 0) = true := by simp [h0]
    have HMN := Lib.hid (mapCode_ne (all := AllCh p ds ms ds2 ms2 k F) h0)
    clear h0
    go_wp2
    go_ret
    exact ⟨by rw [HMN.out]; rfl, HX3.out.below⟩

set_option maxHeartbeats 3200000 in
set_option maxRecDepth 100000 in
theorem l04Maps_any (p p2 cd : Int) (k b : Nat) (F : Nat → List (List (List Int))) (dv mv dv2 mv2 : Value) (ds : List Int) (ms : List (List (List Int))) (ds2 : List Int) (ms2 : List (List (List Int))) (w : World) (h : Cx 0 w dv mv ds ms) (h2 : Cx 0 w dv2 mv2 ds2 ms2) (hFs : FamsAt w b k F) (hk : k ≤ 100)
    (hcd : ∀ W, Below w.heap.size w W → Calls Tryd.prog 32 #[.agg #[.int .i64 p, dv, mv], .agg #[.int .i64 p2, dv2, mv2], .slice (some ⟨b, 0, none⟩) k k] W (BR (.int .i64 cd) W)) (hz : cd = 0 → EndOk p p2 ds ms ds2 ms2 ∧ ∀ j, j < k → FamOk p ds ds2 0 (F j)) :
    Calls Tryd.prog 40 #[.agg #[.int .i64 p, dv, mv], .agg #[.int .i64 p2, dv2, mv2], .slice (some ⟨b, 0, none⟩) k k] w (BR (.int .i64 (mapCode cd (AllCh p ds ms ds2 ms2 k F))) w) := by
  obtain ⟨ad, cap, rfl⟩ := Sl.shape h.dims
  obtain ⟨am, capm, rfl⟩ := Sl.shape h.maps
  obtain ⟨ad2, cap2, rfl⟩ := Sl.shape h2.dims
  obtain ⟨am2, capm2, rfl⟩ := Sl.shape h2.maps
  obtain ⟨k1, k2⟩ := bx_two (p := p) (p2 := p2) 30 h h2
  have HX0 := Lib.hid k1
  have HY0 := Lib.hid k2
  obtain ⟨w1, hw1⟩ : ∃ w1, w1 = ((w.alloc (.cells #[.int .i64 p, .slice ad ds.length cap, .slice am ms.length capm] 30)).alloc (.cells #[.int .i64 p2, .slice ad2 ds2.length cap2, .slice am2 ms2.length capm2] 30)) := ⟨_, rfl⟩
  rw [← hw1] at HX0 HY0
  have hb01 : Below w.heap.size w w1 := HX0.out.below
  have HB01 := Lib.hid hb01
  have HCK := Lib.hid (hcd w1 hb01)
  have HFS : Hid (FamsAt w1 b k F) := Lib.hid (fun j hj => by
    obtain ⟨v, hv, hl⟩ := hFs j hj
    exact ⟨v, later hb01 (Nat.le_refl _) hv, hl.below hb01⟩)
  have HZ := Lib.hid hz
  have c0 := HX0.out.c0
  have c1 := HX0.out.c1
  have c2 := HX0.out.c2
  have d0 := HY0.out.c0
  have d1 := HY0.out.c1
  have d2 := HY0.out.c2
  clear h h2 hFs hcd hz k1 k2 hb01
  go_enter Tryd.func40, Tryd.ntmps40
  go_upto_region 1 with fail
  rw [← hw1]
  clear hw1
  go_wp2_with fail
  refine HCK.out.mono ?_
  rintro e w3 ⟨rfl, hb3⟩
  have HX3 := Lib.hid (HX0.out.next hb3)
  have HY3 := Lib.hid (HY0.out.next hb3)
  have HB3 := Lib.hid hb3
  clear hb3 c0 c1 c2 d0 d1 d2 HCK
  by_cases h0 : cd = 0
  · subst h0
    have hfz := HZ.out rfl
    have hpp := hfz.1.prime
    subst hpp
    have HE := Lib.hid hfz.1
    have HFO := Lib.hid hfz.2
    clear hfz
    have HNX : Hid (∀ W, Below w3.heap.size w3 W → Bx w W w.heap.size p (.slice ad ds.length cap) (.slice am ms.length capm) ds ms ∧ Bx w W (w.heap.size + 1) p (.slice ad2 ds2.length cap2) (.slice am2 ms2.length capm2) ds2 ms2 ∧ Below w1.heap.size w1 W) := Lib.hid (fun W hb => ⟨HX3.out.next hb, HY3.out.next hb, HB3.out.trans (hb.mono HB3.out.size)⟩)
    go_wp2
    go_loopw [8] (fun i wr => ∃ (j : Nat), j ≤ k ∧ i = .int .i64 j ∧ Hid (Below w3.heap.size w3 wr) ∧ Hid (∀ j2, j2 < j → ChainOk p ds ms ds2 ms2 (F j2))) (fun i _ => k - (intOf i).toNat)
    case atStart => exact ⟨0, Nat.zero_le _, rfl, Lib.hid (Below.refl _ _), Lib.hid (fun _ h => absurd h (Nat.not_lt_zero _))⟩
    case round =>
      obtain ⟨j, hj, rfl, HB, HC⟩ := hrel
      obtain ⟨wx, hwx⟩ : ∃ wx : World, wx = wr := ⟨_, rfl⟩
      subst hwx
      by_cases hlt : j < k
      · obtain ⟨v, hv, hl3⟩ := HFS.out j hlt
        obtain ⟨af, cf, hvs⟩ := Sl.shape hl3
        obtain ⟨fl, hfl⟩ : ∃ fl, fl = (F j).length := ⟨_, rfl⟩
        rw [← hfl] at hvs
        subst hvs
        have HNA : Hid (∀ W, Below wx.heap.size wx W → Below w3.heap.size w3 W) := Lib.hid (fun W h => HB.out.trans (h.mono HB.out.size))
        have HVC : Hid (∀ W, Below wx.heap.size wx W → W.cell? ⟨b, 0 + j, none⟩ = some (.slice af fl cf)) := Lib.hid (fun W h => by rw [Nat.zero_add]; exact later (HNX.out W (HNA.out W h)).2.2 (Nat.le_refl _) hv)
        have HLC : Hid (∀ W, Below wx.heap.size wx W → Calls Tryd.prog 33 #[.agg #[.int .i64 p, .slice ad ds.length cap, .slice am ms.length capm], .agg #[.int .i64 p, .slice ad2 ds2.length cap2, .slice am2 ms2.length capm2], .slice af fl cf] W (BB (ChainOk p ds ms ds2 ms2 (F j)) W)) := Lib.hid (fun W h => by
          have h0 := HNX.out W (HNA.out W h)
          exact l04Chain_any p _ _ _ _ _ ds ms ds2 ms2 (F j) W h0.1.cx h0.2.1.cx (hl3.below h0.2.2) HE.out.x HE.out.y HE.out.len (HFO.out j hlt))
        clear hv hl3 hfl
        go_upto_region 7 with fail
        refine wp_region_held (S := fun W => Below wx.heap.size wx W) (by kernel_rfl) ?_
        have S0 : Below wx.heap.size wx wx.drew := (Below.refl _ _).drew
        change wpAnyH _ _ _ _ _ _ _ _ wx.drew
        obtain ⟨wd, hwd⟩ : ∃ wd, wd = wx.drew := ⟨_, rfl⟩
        rw [← hwd] at S0 ⊢
        clear hwd
        refine held_take (i := 0) (v := .agg #[.int .i64 p, .slice ad ds.length cap, .slice am ms.length capm]) (some 22) rfl rfl (by kernel_rfl) (by kernel_rfl) (by kernel_rfl) (fun _ _ _ h => h) (yieldsIf_cell (by kernel_rfl) rfl (by kernel_rfl) (fun W h => hload3x (HNX.out W (HNA.out W h)).1)) S0 ?_
        refine held_take (i := 1) (v := .agg #[.int .i64 p, .slice ad2 ds2.length cap2, .slice am2 ms2.length capm2]) (some 23) rfl rfl (by kernel_rfl) (by kernel_rfl) (by kernel_rfl) (fun _ _ _ h => h) (yieldsIf_cell (by kernel_rfl) rfl (by kernel_rfl) (fun W h => hload3x (HNX.out W (HNA.out W h)).2.1)) S0 ?_
        refine held_take (i := 2) (v := .slice (some ⟨b, 0, none⟩) k k) (some 24) rfl rfl (by kernel_rfl) (by kernel_rfl) (by kernel_rfl) (fun _ _ _ h => h) (yieldsIf_move (by kernel_rfl) rfl (by kernel_rfl)) S0 ?_
        refine held_take (i := 3) (v := .int .i64 (j : Int)) (some 25) rfl rfl (by kernel_rfl) (by kernel_rfl) (by kernel_rfl) (fun _ _ _ h => h) (yieldsIf_move (by kernel_rfl) rfl (by kernel_rfl)) S0 ?_
        refine held_take (i := 4) (v := .pointer (some ⟨b, 0 + j, none⟩)) (some 26) rfl rfl (by kernel_rfl) (by kernel_rfl) (by kernel_rfl) (fun _ _ _ h => h) (yieldsIf_index (by kernel_rfl) rfl (by kernel_rfl) (by kernel_rfl) (hidxQ b 0 k hlt)) S0 ?_
        refine held_take (i := 5) (v := .slice af fl cf) (some 27) rfl rfl (by kernel_rfl) (by kernel_rfl) (by kernel_rfl) (fun _ _ _ h => h) (yieldsIf_cell (by kernel_rfl) rfl (by kernel_rfl) (fun W h => hloadSSS W (HVC.out W h))) S0 ?_
        refine held_enter (i := 6) (some 28) (f := 33) (args := #[.agg #[.int .i64 p, .slice ad ds.length cap, .slice am ms.length capm], .agg #[.int .i64 p, .slice ad2 ds2.length cap2, .slice am2 ms2.length capm2], .slice af fl cf]) (by kernel_rfl) rfl rfl rfl (by kernel_rfl) (HLC.out _ S0) ?_ (fun c w' h => by obtain ⟨_, h, _⟩ := h; cases h) (fun w' h => by obtain ⟨_, h, _⟩ := h; cases h)
        rintro ee V1 ⟨bb, he, hb1, hbb⟩
        injection he with he
        subst he
        have S1 : Below wx.heap.size wx V1 := S0.trans (hb1.mono S0.size)
        refine ⟨S1, ?_⟩
        refine held_take (i := 7) (v := .bool (!bb)) (some 29) rfl rfl (by kernel_rfl) (by kernel_rfl) (by kernel_rfl) (fun _ _ _ h => h) (yieldsIf_run (by kernel_rfl) (fun W _ => by kernel_rfl)) S1 ?_
        refine wpAnyH_done (by kernel_rfl) ?_ _
        simp only [Act.put, List.setIfInBounds_toArray, List.set_cons_zero, List.set_cons_succ]
        have HB1 := Lib.hid (HNA.out _ S1)
        have HN1 := Lib.hid (HNX.out _ HB1.out)
        clear S0 S1 hb1 HVC HLC HNA
        by_cases hch : ChainOk p ds ms ds2 ms2 (F j)
        · obtain rfl : bb = true := hbb.2 hch
          have HCH := Lib.hid hch
          clear hch hbb
          simp only [Bool.not_true]
          go_wp2
          go_roundw
          case rel => exact ⟨j + 1, by omega, by go_num, HB1, Lib.hid (fun j2 h2 => by
            by_cases e : j2 = j
            · subst e; exact HCH.out
            · exact HC.out j2 (by omega))⟩
          case measure => simp [intOf]; omega
        · obtain rfl : bb = false := by
            cases bb with
            | false => rfl
            | true => exact absurd (hbb.1 rfl) hch
          have HMC : Hid (mapCode 0 (AllCh p ds ms ds2 ms2 k F) = 5) := Lib.hid (mapCode_no rfl (fun h => hch (h j hlt)))
          clear hch hbb
          simp only [Bool.not_false]
          go_wp2
          go_ret
          exact ⟨by rw [HMC.out]; rfl, HN1.out.1.below⟩
      · have HMC : Hid (mapCode 0 (AllCh p ds ms ds2 ms2 k F) = 0) := Lib.hid (mapCode_ok rfl (fun j2 h2 => HC.out j2 (by omega)))
        have HN1 := Lib.hid (HNX.out _ HB.out)
        go_wp2
        go_ret
        exact ⟨by rw [HMC.out]; rfl, HN1.out.1.below⟩
  · have hne2 : (cd != 0) = true := by simp [h0]
    have HMN := Lib.hid (mapCode_ne (all := AllCh p ds ms ds2 ms2 k F) h0)
    clear h0
    go_wp2
    go_ret
    exact ⟨by rw [HMN.out]; rfl, HX3.out.below⟩
end Go.Proofs.YtpchbceohnabnabDoor


namespace Go.Proofs.YtpchbceohnabnabDoor
open Go.RowKit

/-- The answers of IsChainMap. -/
def ChS (p p2 : Int) (ds : List Int) (ms : List (List (List Int))) (ds2 : List Int) (ms2 fs : List (List (List Int))) (b : Bool) (c : Int) : Prop := c = famCode p p2 0 ds ms ds2 ms2 fs ∧ (b = true ↔ famCode p p2 0 ds ms ds2 ms2 fs = 0 ∧ ChainOk p ds ms ds2 ms2 fs)
theorem ChS.unique {p p2 : Int} {ds : List Int} {ms : List (List (List Int))} {ds2 : List Int} {ms2 fs : List (List (List Int))} {b b2 : Bool} {c c2 : Int} (h : ChS p p2 ds ms ds2 ms2 fs b c) (k : ChS p p2 ds ms ds2 ms2 fs b2 c2) : b = b2 ∧ c = c2 := by
  obtain ⟨h1, h2⟩ := h
  obtain ⟨k1, k2⟩ := k
  refine ⟨?_, h1.trans k1.symm⟩
  cases b <;> cases b2 <;> simp_all
end Go.Proofs.YtpchbceohnabnabDoor


namespace Go.Proofs.YtpchbceohnabnabDoor
open Go.RowKit

set_option maxHeartbeats 400000 in
theorem sz1_any {lo : Nat} (v : Value) (xs : List Int) (left : Int) (w : World) (h : L1 lo w v xs) (h0 : 0 ≤ left) (h1 : left ≤ 1048576) (hm : xs.length ≤ 9223372036854775807) :
    Calls Tryd.prog 30 #[v, .int .i64 left] w (SzR left (Bd1 1048576 xs) w) := by
  obtain ⟨ad, cap, rfl⟩ := Sl.shape h
  by_cases hlt : left - xs.length < 0
  · go_enter Tryd.func30, Tryd.ntmps30
    go_wp2
    go_ret
    exact ⟨_, rfl, rfl, Or.inl rfl⟩
  · go_enter Tryd.func30, Tryd.ntmps30
    go_wp2
    go_ret
    exact ⟨_, rfl, rfl, Or.inr ⟨by omega, by omega, by unfold Bd1; omega⟩⟩

set_option maxHeartbeats 400000 in
theorem sz2_any {lo : Nat} (v : Value) (xs : List (List Int)) (left : Int) (w : World) (h : L2 lo w v xs) (h0 : 0 ≤ left) (h1 : left ≤ 1048576) (hm : Bd2 9223372036854775807 xs) :
    Calls Tryd.prog 31 #[v, .int .i64 left] w (SzR left (Bd2 1048576 xs) w) := by
  have hm0 : xs.length ≤ 9223372036854775807 := hm.1
  refine Sl.cases h (fun ad cap hx hv => ?_) (fun b o cap hv _ hpos hc => ?_)
  · subst hx hv
    go_enter Tryd.func31, Tryd.ntmps31
    go_wp2
    refine wp_loop_rounds 1 ?_
    rw [rounds_succ]
    go_wp2
    go_ret
    exact ⟨_, rfl, rfl, Or.inr ⟨by omega, by omega, by simp [Bd2]⟩⟩
  · subst hv
    clear h
    by_cases hlt : left - xs.length < 0
    · go_enter Tryd.func31, Tryd.ntmps31
      go_wp2
      go_ret
      exact ⟨_, rfl, rfl, Or.inl rfl⟩
    · have HM := Lib.hid hm
      have HC := Lib.hid hc
      clear hm hc
      go_enter Tryd.func31, Tryd.ntmps31
      go_wp2
      go_loop [1, 5] (fun l i => ∃ (k : Nat) (r : Int), k ≤ xs.length ∧ i = .int .i64 k ∧ l = .int .i64 r ∧ 0 ≤ r ∧ r ≤ left ∧ Hid (∀ j (hj : j < xs.length), j < k → Bd1 1048576 xs[j])) (fun _ i => xs.length - (intOf i).toNat)
      case atStart => exact ⟨0, _, Nat.zero_le _, rfl, rfl, by omega, by omega, Lib.hid (fun _ _ h => absurd h (Nat.not_lt_zero _))⟩
      case round =>
        obtain ⟨k, r, hk, rfl, rfl, hr0, hr1, HD⟩ := hrel
        by_cases hlt2 : k < xs.length
        · obtain ⟨u, hu, hr⟩ := HC.out k hlt2
          have hmu : (xs[k]).length ≤ 9223372036854775807 := HM.out.2 _ (List.getElem_mem hlt2)
          go_wp2_with fail
          refine (sz1_any u xs[k] r _ hr hr0 (by omega) hmu).mono ?_
          rintro e w' ⟨r2, rfl, rfl, hpost⟩
          rcases hpost with rfl | ⟨hp0, hp1, hp2⟩
          · go_wp2
            go_ret
            exact ⟨_, rfl, rfl, Or.inl rfl⟩
          · go_wp2
            go_round
            case rel => exact ⟨k + 1, r2, by omega, by go_num, rfl, hp0, by omega, Lib.hid (fun j hj hjk => by
              by_cases e : j = k
              · subst e; exact hp2
              · exact HD.out j hj (by omega))⟩
            case measure => simp [intOf]; omega
        · go_wp2
          go_ret
          exact ⟨_, rfl, rfl, Or.inr ⟨hr0, hr1, by omega, fun x hx => by
            obtain ⟨j, hj, rfl⟩ := List.getElem_of_mem hx
            exact HD.out j hj (by omega)⟩⟩
set_option maxHeartbeats 400000 in
theorem sz3_any {lo : Nat} (v : Value) (xs : List (List (List Int))) (left : Int) (w : World) (h : L3 lo w v xs) (h0 : 0 ≤ left) (h1 : left ≤ 1048576) (hm : Bd3 9223372036854775807 xs) :
    Calls Tryd.prog 10 #[v, .int .i64 left] w (SzR left (Bd3 1048576 xs) w) := by
  have hm0 : xs.length ≤ 9223372036854775807 := hm.1
  refine Sl.cases h (fun ad cap hx hv => ?_) (fun b o cap hv _ hpos hc => ?_)
  · subst hx hv
    go_enter Tryd.func10, Tryd.ntmps10
    go_wp2
    refine wp_loop_rounds 1 ?_
    rw [rounds_succ]
    go_wp2
    go_ret
    exact ⟨_, rfl, rfl, Or.inr ⟨by omega, by omega, by simp [Bd3]⟩⟩
  · subst hv
    clear h
    by_cases hlt : left - xs.length < 0
    · go_enter Tryd.func10, Tryd.ntmps10
      go_wp2
      go_ret
      exact ⟨_, rfl, rfl, Or.inl rfl⟩
    · have HM := Lib.hid hm
      have HC := Lib.hid hc
      clear hm hc
      go_enter Tryd.func10, Tryd.ntmps10
      go_wp2
      go_loop [1, 5] (fun l i => ∃ (k : Nat) (r : Int), k ≤ xs.length ∧ i = .int .i64 k ∧ l = .int .i64 r ∧ 0 ≤ r ∧ r ≤ left ∧ Hid (∀ j (hj : j < xs.length), j < k → Bd2 1048576 xs[j])) (fun _ i => xs.length - (intOf i).toNat)
      case atStart => exact ⟨0, _, Nat.zero_le _, rfl, rfl, by omega, by omega, Lib.hid (fun _ _ h => absurd h (Nat.not_lt_zero _))⟩
      case round =>
        obtain ⟨k, r, hk, rfl, rfl, hr0, hr1, HD⟩ := hrel
        by_cases hlt2 : k < xs.length
        · obtain ⟨u, hu, hr⟩ := HC.out k hlt2
          have hmu : Bd2 9223372036854775807 xs[k] := HM.out.2 _ (List.getElem_mem hlt2)
          go_wp2_with fail
          refine (sz2_any u xs[k] r _ hr hr0 (by omega) hmu).mono ?_
          rintro e w' ⟨r2, rfl, rfl, hpost⟩
          rcases hpost with rfl | ⟨hp0, hp1, hp2⟩
          · go_wp2
            go_ret
            exact ⟨_, rfl, rfl, Or.inl rfl⟩
          · go_wp2
            go_round
            case rel => exact ⟨k + 1, r2, by omega, by go_num, rfl, hp0, by omega, Lib.hid (fun j hj hjk => by
              by_cases e : j = k
              · subst e; exact hp2
              · exact HD.out j hj (by omega))⟩
            case measure => simp [intOf]; omega
        · go_wp2
          go_ret
          exact ⟨_, rfl, rfl, Or.inr ⟨hr0, hr1, by omega, fun x hx => by
            obtain ⟨j, hj, rfl⟩ := List.getElem_of_mem hx
            exact HD.out j hj (by omega)⟩⟩

set_option maxHeartbeats 400000 in
theorem szComplex_any (p : Int) (dv mv : Value) (ds : List Int) (ms : List (List (List Int))) (left : Int) (w : World) (hd : L1 0 w dv ds) (hm : L3 0 w mv ms) (h0 : 0 ≤ left) (h1 : left ≤ 1048576)
    (hdl : ds.length ≤ 9223372036854775807) (hml : Bd3 9223372036854775807 ms) :
    Calls Tryd.prog 9 #[.agg #[.int .i64 p, dv, mv], .int .i64 left] w (SzB left (Bd1 1048576 ds ∧ Bd3 1048576 ms) w) := by
  have HML := Lib.hid hml
  have HD := Lib.hid hd
  have HM := Lib.hid hm
  clear hml hd hm
  go_enter Tryd.func9, Tryd.ntmps9
  go_wp2_with fail
  have hb1 : Below w.heap.size w (w.alloc (.cells #[.int .i64 p, dv, mv] 25)) := (Below.refl _ _).alloc (Nat.le_refl _) _
  refine (sz1_any (lo := 0) dv ds left _ (HD.out.below hb1) h0 h1 hdl).mono ?_
  rintro e w' ⟨r, rfl, rfl, hpost⟩
  rcases hpost with rfl | ⟨hp0, hp1, hp2⟩
  · go_wp2
    go_ret
    exact ⟨_, rfl, hb1, Or.inl rfl⟩
  · go_wp2_with fail
    refine (sz3_any (lo := 0) mv ms r _ (HM.out.below hb1) hp0 (by omega) HML.out).mono ?_
    rintro e w' ⟨r2, rfl, rfl, hpost⟩
    rcases hpost with rfl | ⟨hq0, hq1, hq2⟩
    · go_wp2
      go_ret
      exact ⟨_, rfl, hb1, Or.inl rfl⟩
    · go_wp2
      go_ret
      exact ⟨_, rfl, hb1, Or.inr ⟨hq0, by omega, hp2, hq2⟩⟩
end Go.Proofs.YtpchbceohnabnabDoor

namespace Go.Proofs.YtpchbceohnabnabDoor
open Go.RowKit

structure Fi (lo : Nat) (w : World) (dv mv lv : Value) (ds : List Int) (ms : List (List (List Int))) (ls : List (List Int)) : Prop where
  cx : Cx lo w dv mv ds ms
  lv : L2 lo w lv ls
theorem Fi.below {lo : Nat} {w w' : World} {dv mv lv : Value} {ds : List Int} {ms : List (List (List Int))} {ls : List (List Int)} (h : Fi lo w dv mv lv ds ms ls) (hb : Below w.heap.size w w') : Fi lo w' dv mv lv ds ms ls := ⟨h.cx.below hb, h.lv.below hb⟩
theorem Fi.zero {lo : Nat} {w : World} {dv mv lv : Value} {ds : List Int} {ms : List (List (List Int))} {ls : List (List Int)} (h : Fi lo w dv mv lv ds ms ls) : Fi 0 w dv mv lv ds ms ls := ⟨h.cx.zero, h.lv.lower (Nat.zero_le _)⟩
theorem Fi.drew {lo : Nat} {w : World} {dv mv lv : Value} {ds : List Int} {ms : List (List (List Int))} {ls : List (List Int)} (h : Fi lo w dv mv lv ds ms ls) : Fi lo w.drew dv mv lv ds ms ls := h.below (Below.refl _ _).drew
theorem Fi.shapes {lo : Nat} {w : World} {dv mv lv : Value} {ds : List Int} {ms : List (List (List Int))} {ls : List (List Int)} (h : Fi lo w dv mv lv ds ms ls) : (∃ a c, dv = .slice a ds.length c) ∧ (∃ a c, mv = .slice a ms.length c) ∧ ∃ a c, lv = .slice a ls.length c := ⟨h.cx.shapes.1, h.cx.shapes.2, Sl.shape h.lv⟩

/-- What stands in the box of a filtered complex, in whatever later world. -/
structure Fx (w wr : World) (b : Nat) (p : Int) (dv mv lv : Value) (ds : List Int) (ms : List (List (List Int))) (ls : List (List Int)) : Prop where
  below : Below w.heap.size w wr
  c0 : wr.cell? ⟨b, 0, none⟩ = some (.int .i64 p)
  c1 : wr.cell? ⟨b, 1, none⟩ = some dv
  c2 : wr.cell? ⟨b, 2, none⟩ = some mv
  c3 : wr.cell? ⟨b, 3, none⟩ = some lv
  lt : b < wr.heap.size
  fi : Fi 0 wr dv mv lv ds ms ls
theorem Fx.next {w wr w' : World} {b : Nat} {p : Int} {dv mv lv : Value} {ds : List Int} {ms : List (List (List Int))} {ls : List (List Int)} (h : Fx w wr b p dv mv lv ds ms ls) (hb : Below wr.heap.size wr w') : Fx w w' b p dv mv lv ds ms ls :=
  ⟨h.below.trans (hb.mono h.below.size), later hb (Nat.le_refl _) h.c0, later hb (Nat.le_refl _) h.c1, later hb (Nat.le_refl _) h.c2, later hb (Nat.le_refl _) h.c3, Nat.lt_of_lt_of_le h.lt hb.size, h.fi.below hb⟩
theorem Fx.start {w : World} {p : Int} {dv mv lv : Value} {ds : List Int} {ms : List (List (List Int))} {ls : List (List Int)} (t : TypeId) (h : Fi 0 w dv mv lv ds ms ls) : Fx w (w.alloc (.cells #[.int .i64 p, dv, mv, lv] t)) w.heap.size p dv mv lv ds ms ls :=
  ⟨(Below.refl _ _).alloc (Nat.le_refl _) _, by simp, by simp, by simp, by simp, by simp, h.below ((Below.refl _ _).alloc (Nat.le_refl _) _)⟩

end Go.Proofs.YtpchbceohnabnabDoor

namespace Go.Proofs.YtpchbceohnabnabDoor
open Go.RowKit

end Go.Proofs.YtpchbceohnabnabDoor

namespace Go.Proofs.YtpchbceohnabnabDoor
open Go.RowKit

theorem Fx.all {w wr : World} {b : Nat} {p : Int} {dv mv lv : Value} {ds : List Int} {ms : List (List (List Int))} {ls : List (List Int)} (h : Hid (Fx w wr b p dv mv lv ds ms ls)) :
    wr.cell? ⟨b, 0, none⟩ = some (.int .i64 p) ∧ wr.cell? ⟨b, 1, none⟩ = some dv ∧ wr.cell? ⟨b, 2, none⟩ = some mv ∧ wr.cell? ⟨b, 3, none⟩ = some lv ∧ Hid (Fx w wr b p dv mv lv ds ms ls) := ⟨h.out.c0, h.out.c1, h.out.c2, h.out.c3, h⟩

end Go.Proofs.YtpchbceohnabnabDoor

namespace Go.Proofs.YtpchbceohnabnabDoor
open Go.RowKit

end Go.Proofs.YtpchbceohnabnabDoor


namespace Go.Proofs.YtpchbceohnabnabDoor
open Go.RowKit

/-- Approximate cycles: no numbers at levels above q, and a differential without numbers at levels above q0. -/
structure ZcS (p : Int) (d m : Nat) (t : List (List Int)) (l l0 : List Int) (q q0 : Int) (v : Lin.V) : Prop where
  md : Lin.Md p v
  wd : Lin.Wd d v
  up : ∀ i, i < d → q < l.getD i 0 → v i = 0
  dn : ∀ j, j < m → q0 < l0.getD j 0 → Lin.dot d (Lin.col (fun i => ofL (t.getD i [])) j) v % p = 0

theorem ZcS.zv {p : Int} (hp : 0 < p) (d m : Nat) (t : List (List Int)) (l l0 : List Int) (q q0 : Int) : ZcS p d m t l l0 q q0 Lin.zv :=
  ⟨Lin.zv_md hp, Lin.zv_wd d, fun _ _ _ => rfl, fun j _ _ => by rw [Lin.dot_nil (fun i _ => by simp [Lin.zv])]; rfl⟩
theorem ZcS.add {p : Int} (hp : 0 < p) {d m : Nat} {t : List (List Int)} {l l0 : List Int} {q q0 : Int} {v w : Lin.V} (hv : ZcS p d m t l l0 q q0 v) (c : Int) (hw : ZcS p d m t l l0 q q0 w) : ZcS p d m t l l0 q q0 (Lin.add p v c w) := by
  refine ⟨Lin.add_md hp _ _ _, Lin.add_wd c hv.wd hw.wd, fun i hi h => ?_, fun j hj h => ?_⟩
  · simp [Lin.add, hv.up i hi h, hw.up i hi h]
  · rw [Lin.dot_add]
    have h1 := hv.dn j hj h
    have h2 := hw.dn j hj h
    generalize Lin.dot d (Lin.col (fun i => ofL (t.getD i [])) j) v = a at *
    generalize Lin.dot d (Lin.col (fun i => ofL (t.getD i [])) j) w = b at *
    obtain ⟨x, hx⟩ : ∃ x, a = p * x := Int.dvd_of_emod_eq_zero h1
    obtain ⟨y, hy⟩ : ∃ y, b = p * y := Int.dvd_of_emod_eq_zero h2
    rw [hx, hy, Lin.cg (b := 0) (x + c * y) (by grind)]
    rfl
theorem ZcS.sp {p : Int} (hp : 0 < p) {d m : Nat} {t : List (List Int)} {l l0 : List Int} {q q0 : Int} {O : List Lin.V} (h : ∀ u ∈ O, ZcS p d m t l l0 q q0 u) {v : Lin.V} (hv : Lin.Sp p O v) : ZcS p d m t l l0 q q0 v := by
  induction hv with
  | zero => exact ZcS.zv hp _ _ _ _ _ _ _
  | step c _ hw ih => exact ih.add hp c (h _ hw)

/-! ### The conditions of the program. -/
/-! ### What a test keeps of the places. -/
/-- Approximate cycles of a degree, by the levels. -/
def ZcD (p : Int) (ds : List Int) (ms : List (List (List Int))) (ls : List (List Int)) (n : Nat) (q q0 : Int) : Lin.V → Prop := ZcS p (dimN ds (n : Int)) (cycM ds n) (cycT ds ms n) (ls.getD n []) (ls.getD (n - 1) []) q q0
end Go.Proofs.YtpchbceohnabnabDoor

namespace Go.Proofs.YtpchbceohnabnabDoor
open Go.RowKit

end Go.Proofs.YtpchbceohnabnabDoor

namespace Go.Proofs.YtpchbceohnabnabDoor
open Go.RowKit

end Go.Proofs.YtpchbceohnabnabDoor

namespace Go.Proofs.YtpchbceohnabnabDoor
open Go.RowKit

end Go.Proofs.YtpchbceohnabnabDoor

namespace Go.Proofs.YtpchbceohnabnabDoor
open Go.RowKit

end Go.Proofs.YtpchbceohnabnabDoor

namespace Go.Proofs.YtpchbceohnabnabDoor
open Go.RowKit

end Go.Proofs.YtpchbceohnabnabDoor

namespace Go.Proofs.YtpchbceohnabnabDoor
open Go.RowKit

end Go.Proofs.YtpchbceohnabnabDoor

namespace Go.Proofs.YtpchbceohnabnabDoor
open Go.RowKit

end Go.Proofs.YtpchbceohnabnabDoor


namespace Go.Proofs.YtpchbceohnabnabDoor
open Go.RowKit

section
variable {md : Region.Mode} {ops : Array Oper} {Q : Exit → Act → World → Prop} {S : World → Prop}
end
theorem Gs.rowsOf {base : Nat} {w : World} {u : Value} {tb : List (List Int)} (h : Gs base w u tb) : ∃ vs, RowsAt w u tb vs ∧ ∀ k (h1 : k < vs.length) (h2 : k < tb.length), G1 w vs[k] tb[k] := by
  obtain ⟨vs, ho, hr⟩ := h
  have hvl : vs.length = tb.length := by have := ho.1; omega
  refine ⟨vs, ⟨hvl, fun k h1 h2 => (hr k h1 h2).l1, fun x hx => ?_, ?_⟩, hr⟩
  · obtain ⟨k, hk, rfl⟩ := List.getElem_of_mem hx
    obtain ⟨ad, cap, e⟩ := Sl.shape (hr k hk (by omega)).l1
    rw [e]
    rfl
  · have ho' := ho
    rcases ho'.2 with ⟨h0, h1⟩ | ⟨g, cap, cur, hv, _, _, _⟩
    · exact ⟨none, 0, by rw [h0, h1], fun h2 => absurd h2 (by omega)⟩
    · refine ⟨_, cap, hv, fun _ => ⟨_, rfl, fun j x hj => ?_⟩⟩
      rw [hv] at ho
      have hjl : j < vs.length := (List.getElem?_eq_some_iff.1 hj).1
      rw [Addr.add_mid, Nat.zero_add, World.ownsRow.cellAt ho j (by omega)]
      exact hj
/-- Cycles of levels of at most q together with all boundaries. -/
def LimD (p : Int) (ds : List Int) (ms : List (List (List Int))) (ls : List (List Int)) (k : Nat) (q : Int) (v : Lin.V) : Prop :=
  ∃ Z B, SpF p (dimN ds (k : Int)) (ZcD p ds ms ls k q (-1)) Z ∧ SpF p (dimN ds (k : Int)) (Lin.Sp p ((tabN ms k).map ofL)) B ∧ Lin.Sp p (Z ++ B) v
def LDim (p : Int) (ds : List Int) (ms : List (List (List Int))) (ls : List (List Int)) (k : Nat) (q x : Int) : Prop := ∃ E, SpF p (dimN ds (k : Int)) (LimD p ds ms ls k q) E ∧ x = (E.length : Int)
theorem SpF.unique' {p : Int} {n : Nat} {S : Lin.V → Prop} {R R' : List Lin.V} (hp : 1 < p) (h : SpF p n S R) (k : SpF p n S R') : R = R' := Lin.Red.unique hp h.1 k.1 (fun v => (h.2.2 v).trans (k.2.2 v).symm)
theorem LDim.unique {p : Int} {ds : List Int} {ms : List (List (List Int))} {ls : List (List Int)} {k : Nat} {q x y : Int} (hp : 1 < p) (h : LDim p ds ms ls k q x) (h' : LDim p ds ms ls k q y) : x = y := by
  obtain ⟨A, a, rfl⟩ := h
  obtain ⟨B, b, rfl⟩ := h'
  rw [a.unique' hp b]
theorem LDim.bd {p : Int} {ds : List Int} {ms : List (List (List Int))} {ls : List (List Int)} {k : Nat} {q x : Int} (hcx : IsCx p ds ms) (h : LDim p ds ms ls k q x) : 0 ≤ x ∧ x ≤ 8 := by
  obtain ⟨A, a, rfl⟩ := h
  have := a.short
  have := (dimN_le8 hcx k).1
  omega
def IntR (P : Int → Prop) (w : World) (e : Ending) (w' : World) : Prop := ∃ x : Int, e = .returned (.int .i64 x) ∧ Below w.heap.size w w' ∧ P x
/-- The limit number. -/
def LimNum (p : Int) (ds : List Int) (ms : List (List (List Int))) (ls : List (List Int)) (k : Nat) (q x : Int) : Prop := ∃ a b, LDim p ds ms ls k q a ∧ LDim p ds ms ls k (q - 1) b ∧ x = a - b
theorem LimNum.unique {p : Int} {ds : List Int} {ms : List (List (List Int))} {ls : List (List Int)} {k : Nat} {q x y : Int} (hp : 1 < p) (h : LimNum p ds ms ls k q x) (h' : LimNum p ds ms ls k q y) : x = y := by
  obtain ⟨a, b, ha, hb, rfl⟩ := h
  obtain ⟨c, d, hc, hd, rfl⟩ := h'
  rw [ha.unique hp hc, hb.unique hp hd]
/-- A number and a code. -/
structure NOut (P : Int → Prop) (c0 x c : Int) : Prop where
  code : c = c0
  bad : c0 ≠ 0 → x = 0
  good : c0 = 0 → P x
theorem NOut.unique {P : Int → Prop} {c0 x c y d : Int} (hu : c0 = 0 → ∀ a b, P a → P b → a = b) (h : NOut P c0 x c) (k : NOut P c0 y d) : x = y ∧ c = d := by
  refine ⟨?_, h.code.trans k.code.symm⟩
  by_cases h0 : c0 = 0
  · exact hu h0 _ _ (h.good h0) (k.good h0)
  · rw [h.bad h0, k.bad h0]
end Go.Proofs.YtpchbceohnabnabDoor


namespace Go.Proofs.YtpchbceohnabnabDoor
open Go.RowKit

/-- The differential of a vector, by the table. -/
def dimg (p : Int) (d : Nat) (t : List (List Int)) (u : Lin.V) : Lin.V := img p d (rowsV (t.map ofL)) u
theorem dimg_apT {p : Int} {d c : Nat} {t : List (List Int)} {u : Lin.V} (hp : IsP p) (htl : t.length = d) (htr : ∀ r ∈ t, RowOk p (c : Int) r) (hu : Lin.Md p u) : ApOk p c (toL d u) t ∧ apT p c (toL d u) t = toL c (dimg p d t u) := by
  have hrows : (t.map ofL).map (toL c) = t := rows_toL' (fun r hr => by have := (htr r hr).1; omega)
  have ok : ApOk p c (toL d u) t := ⟨hp, by rw [toL_length, htl]; exact Nat.le_refl _, fun x hx => by
    obtain ⟨i, _, rfl⟩ := List.mem_map.1 hx
    have := hu i
    omega, htr⟩
  refine ⟨ok, ?_⟩
  have h := apT_img (p := p) (n := c) (a := d) (E := t.map ofL) (s := u) (by rw [hrows]; exact ok) (by rw [List.length_map, htl])
  rw [hrows] at h
  exact h
theorem dimg_md {p : Int} (hp : 0 < p) (d : Nat) (t : List (List Int)) (u : Lin.V) : Lin.Md p (dimg p d t u) := img_md hp _ _ _
theorem dimg_wd {p : Int} {d c : Nat} {t : List (List Int)} (htl : t.length = d) (htr : ∀ r ∈ t, RowOk p (c : Int) r) (u : Lin.V) : Lin.Wd c (dimg p d t u) := fun j hj => by
  simp only [dimg, img]
  rw [Lin.dot_nil (fun i hi => by
    simp only [Lin.col]
    rw [rowsV_at (by rw [List.length_map, htl]; exact hi), List.getElem_map]
    have hr := htr _ (List.getElem_mem (show i < t.length by omega))
    have : ofL t[i] j = 0 := ofL_wd (n := c) (by have := hr.1; omega) j hj
    rw [this, Int.zero_mul])]
  rfl
theorem at_l1 {w : World} {b d : Nat} {u : Lin.V} (h : At w b 0 u) (hd : d ≤ 40) : L1 0 w (.slice (some ⟨b, 0, none⟩) d 40) (toL d u) := by
  by_cases h0 : d = 0
  · subst h0
    exact Or.inl ⟨rfl, _, _, rfl⟩
  · refine Or.inr ⟨b, 0, 40, by rw [toL_length], Nat.zero_le _, by rw [toL_length]; omega, fun k hk => ?_⟩
    have hk' : k < d := by rw [toL_length] at hk; exact hk
    exact ⟨_, h.cell (by omega), by rw [toL_get]; rfl⟩
section
variable {P : Program} {ops : Array Oper} {S : World → Prop}
theorem yieldsIf_slice {o : Oper} {a : Act} {x y : Operand} {u i v : Value} {t : TypeId} (hg : o.guard = none) (ho : o.op = .slice t x none (some y) none) (hx : a.eval x = u) (hy : a.eval y = i) (hrun : ∀ w, (Instr.sliceAt t u none (some i) none).run P w = .ok v w) : YieldsIf P ops S o v a :=
  Or.inl ⟨by unfold Region.wanted; rw [hg], fun w _ => by
    unfold execOp
    simp only [ho, Option.map_none, Option.map_some, hx, hy, Sem.run_bind, hrun w, Result.andThen_ok]
    rfl⟩
end

end Go.Proofs.YtpchbceohnabnabDoor


namespace Go.Proofs.YtpchbceohnabnabDoor
open Go.RowKit

/-- The homology number of a degree. -/
def HNum (p : Int) (ds : List Int) (ms : List (List (List Int))) (q : Nat) (x : Int) : Prop :=
  ∃ R1 R2, SpF p (dimN ds (q : Int)) (CycS p (dimN ds (q : Int)) (cycM ds q) (cycT ds ms q)) R1 ∧ SpF p (dimN ds (q : Int)) (Lin.Sp p ((tabN ms q).map ofL)) R2 ∧ x = (R1.length : Int) - (R2.length : Int)
theorem SpF.unique {p : Int} {n : Nat} {S : Lin.V → Prop} {R R' : List Lin.V} (hp : 1 < p) (h : SpF p n S R) (k : SpF p n S R') : R = R' := Lin.Red.unique hp h.1 k.1 (fun v => (h.2.2 v).trans (k.2.2 v).symm)
theorem HNum.unique {p : Int} {ds : List Int} {ms : List (List (List Int))} {q : Nat} {x y : Int} (hp : 1 < p) (h : HNum p ds ms q x) (k : HNum p ds ms q y) : x = y := by
  obtain ⟨A, B, a, b, rfl⟩ := h
  obtain ⟨C, D, c, d, rfl⟩ := k
  rw [a.unique hp c, b.unique hp d]
theorem HNum.bd {p : Int} {ds : List Int} {ms : List (List (List Int))} {q : Nat} {x : Int} (hcx : IsCx p ds ms) (h : HNum p ds ms q x) : -8 ≤ x ∧ x ≤ 8 := by
  obtain ⟨A, B, a, b, rfl⟩ := h
  have := a.short
  have := b.short
  have := (dimN_le8 hcx q).1
  omega
/-- What IsExactAt answers. -/
structure ExOut (p : Int) (ds : List Int) (ms : List (List (List Int))) (n : Int) (b : Bool) (c : Int) : Prop where
  code : c = cxCode p ds ms n
  bad : c ≠ 0 → b = false
  good : c = 0 → ∃ x, HNum p ds ms n.toNat x ∧ (b = true ↔ x = 0)
theorem ExOut.unique {p : Int} {ds : List Int} {ms : List (List (List Int))} {n : Int} {b1 b2 : Bool} {c1 c2 : Int} (h : ExOut p ds ms n b1 c1) (k : ExOut p ds ms n b2 c2) : b1 = b2 ∧ c1 = c2 := by
  have e : c1 = c2 := h.code.trans k.code.symm
  refine ⟨?_, e⟩
  by_cases h0 : c1 = 0
  · obtain ⟨x, hx, hb⟩ := h.good h0
    obtain ⟨y, hy, hd⟩ := k.good (by rw [← e]; exact h0)
    have hp := (cxCode_zero (h.code.symm.trans h0)).1.1.prime.lo1
    have := hx.unique hp hy
    subst this
    exact Bool.eq_iff_iff.2 (hb.trans hd.symm)
  · rw [h.bad h0, k.bad (by rw [← e]; exact h0)]
end Go.Proofs.YtpchbceohnabnabDoor


namespace Go.Proofs.YtpchbceohnabnabDoor
open Go.RowKit

section
variable {p : Int} {ds ds2 : List Int} {ms ms2 fs : List (List (List Int))}
/-- The images of vectors of the degree n. -/
def fImg (p : Int) (ds : List Int) (fs : List (List (List Int))) (n : Nat) (A : List Lin.V) : List Lin.V := A.map (dimg p (dimN ds (n : Int)) (fs.getD n []))
/-- The rank that a family induces. -/
def RkInd (p : Int) (ds : List Int) (ms : List (List (List Int))) (ds2 : List Int) (ms2 fs : List (List (List Int))) (n : Nat) (x : Int) : Prop :=
  ∃ A B E, SpF p (dimN ds (n : Int)) (CycS p (dimN ds (n : Int)) (cycM ds n) (cycT ds ms n)) A ∧ SpF p (dimN ds2 (n : Int)) (Lin.Sp p ((tabN ms2 n).map ofL)) B ∧ SpF p (dimN ds2 (n : Int)) (Lin.Sp p (fImg p ds fs n A ++ B)) E ∧ x = (E.length : Int) - (B.length : Int)
theorem RkInd.unique {n : Nat} {x y : Int} (hp : 1 < p) (h : RkInd p ds ms ds2 ms2 fs n x) (k : RkInd p ds ms ds2 ms2 fs n y) : x = y := by
  obtain ⟨A, B, E, a, b, e, rfl⟩ := h
  obtain ⟨A', B', E', a', b', e', rfl⟩ := k
  obtain rfl := a.unique hp a'
  obtain rfl := b.unique hp b'
  rw [e.unique hp e']
theorem fam_tab (hcx : IsCx p ds ms) (hcy : IsCx p ds2 ms2) (hl : ds.length = ds2.length) (hF : FamOk p ds ds2 0 fs) {n : Nat} (hn : n < ds.length) : n < fs.length ∧ (fs.getD n []).length = dimN ds (n : Int) ∧ ∀ r ∈ fs.getD n [], RowOk p (dimN ds2 (n : Int) : Int) r := by
  have hnf : n < fs.length := by have := hF.1; omega
  have ht := hF.2 n hnf
  have e1 := (dimN_le8 hcx n).2
  have e2 := (dimN_le8 hcy n).2
  have e3 : dimZ ds2 ((n : Int) + 0) = ds2.getD n 0 := by rw [Int.add_zero, dimZ_in rfl (show n < ds2.length by omega), ← getD_of_lt 0 (show n < ds2.length by omega)]
  rw [e3, e2, e1] at ht
  exact ⟨hnf, by have := ht.1; omega, ht.2⟩
theorem fImg_md (hp : 0 < p) (n : Nat) (A : List Lin.V) : ∀ u ∈ fImg p ds fs n A, Lin.Md p u := fun u hu => by
  obtain ⟨y, _, rfl⟩ := List.mem_map.1 hu
  exact dimg_md hp _ _ _
theorem fImg_wd (hcx : IsCx p ds ms) (hcy : IsCx p ds2 ms2) (hl : ds.length = ds2.length) (hF : FamOk p ds ds2 0 fs) {n : Nat} (hn : n < ds.length) (A : List Lin.V) : ∀ u ∈ fImg p ds fs n A, Lin.Wd (dimN ds2 (n : Int)) u := fun u hu => by
  obtain ⟨y, _, rfl⟩ := List.mem_map.1 hu
  have h := fam_tab hcx hcy hl hF hn
  exact dimg_wd h.2.1 h.2.2 y
theorem rk_close {n : Nat} {A B E : List Lin.V} (hcx : IsCx p ds ms) (hcy : IsCx p ds2 ms2) (hl : ds.length = ds2.length) (hF : FamOk p ds ds2 0 fs) (hn : n < ds.length) (a : SpF p (dimN ds (n : Int)) (CycS p (dimN ds (n : Int)) (cycM ds n) (cycT ds ms n)) A) (b : SpF p (dimN ds2 (n : Int)) (Lin.Sp p ((tabN ms2 n).map ofL)) B) (hr : Lin.Red p E) (he : Lin.Eqv p E (fImg p ds fs n A ++ B)) :
    RkInd p ds ms ds2 ms2 fs n ((E.length : Int) - (B.length : Int)) :=
  ⟨A, B, E, a, b, ⟨hr, fun u hu => Lin.Sp.wd (fun x hx => (List.mem_append.1 hx).elim (fImg_wd hcx hcy hl hF hn A x) (b.2.1 x)) ((he u).1 (Lin.Sp.mem hu (hr.md u hu))), he⟩, rfl⟩
theorem app_swap (hp : 0 < p) {A B : List Lin.V} (hA : ∀ u ∈ A, Lin.Md p u) (hB : ∀ u ∈ B, Lin.Md p u) : Lin.Eqv p (B ++ A) (A ++ B) :=
  Lin.Eqv.of hp (fun w hw => (List.mem_append.1 hw).elim (fun h => Lin.Sp.mem (List.mem_append.2 (Or.inr h)) (hB w h)) (fun h => Lin.Sp.mem (List.mem_append.2 (Or.inl h)) (hA w h)))
    (fun w hw => (List.mem_append.1 hw).elim (fun h => Lin.Sp.mem (List.mem_append.2 (Or.inr h)) (hA w h)) (fun h => Lin.Sp.mem (List.mem_append.2 (Or.inl h)) (hB w h)))
theorem fImg_take {n k : Nat} {A : List Lin.V} (hk : k < A.length) : fImg p ds fs n (A.take (k + 1)) = fImg p ds fs n (A.take k) ++ [dimg p (dimN ds (n : Int)) (fs.getD n []) A[k]] := by
  unfold fImg
  rw [List.take_succ_eq_append_getElem hk, List.map_append]
  rfl
theorem fImg_len (n : Nat) (A : List Lin.V) : (fImg p ds fs n A).length = A.length := by unfold fImg; rw [List.length_map]
end
end Go.Proofs.YtpchbceohnabnabDoor


namespace Go.Proofs.YtpchbceohnabnabDoor
open Go.RowKit
theorem Same.setRow {lo hi g : Nat} {w : World} (x : Array Value) (h : g < lo ∨ hi ≤ g) : Same lo hi w (w.setRow g x) := fun b hl hb => setRow_other w g b x (by omega)
end Go.Proofs.YtpchbceohnabnabDoor


namespace Go.Proofs.YtpchbceohnabnabDoor
open Go.RowKit

theorem infoEl (y0 y1 : Value) : (Tryd.prog.info? 96).map (·.size) = some (#[y0, y1] : Array Value).size := by kernel_rfl
theorem hsubD {a b : Int} (h0 : -1000 ≤ a - b) (h1 : a - b ≤ 1000) (w : World) : (binOp .sub 3 (.int .i64 a) (.int .i64 b)).run Tryd.prog w = .ok (.int .i64 (a - b)) w := by
  have := IntWalk.i64_in (a - b) (by omega)
  go_simp

set_option maxHeartbeats 6400000 in
set_option maxRecDepth 100000 in
theorem inducedRank_any (p : Int) (n : Nat) (dv mv dv2 mv2 fv : Value) (ds : List Int) (ms : List (List (List Int))) (ds2 : List Int) (ms2 fs : List (List (List Int))) (w : World) (h : Cx 0 w dv mv ds ms) (h2 : Cx 0 w dv2 mv2 ds2 ms2) (hf : L3 0 w fv fs) (hcx : IsCx p ds ms) (hcy : IsCx p ds2 ms2) (hl : ds.length = ds2.length) (hF : FamOk p ds ds2 0 fs) (hn : n < ds.length) :
    Calls Tryd.prog 53 #[.agg #[.int .i64 p, dv, mv], .agg #[.int .i64 p, dv2, mv2], fv, .int .i64 (n : Int)] w (IntR (RkInd p ds ms ds2 ms2 fs n) w) := by
  obtain ⟨ad, cap, rfl⟩ := Sl.shape h.dims
  obtain ⟨am, capm, rfl⟩ := Sl.shape h.maps
  obtain ⟨ad2, cap2, rfl⟩ := Sl.shape h2.dims
  obtain ⟨am2, capm2, rfl⟩ := Sl.shape h2.maps
  obtain ⟨af, cf, rfl⟩ := Sl.shape hf
  obtain ⟨k1, k2⟩ := bx_two (p := p) (p2 := p) 30 h h2
  have HX0 := Lib.hid k1
  have HY0 := Lib.hid k2
  have HCX := Lib.hid hcx
  have HCY := Lib.hid hcy
  have HLL := Lib.hid hl
  have HFO := Lib.hid hF
  have hp0 : 0 < p := by have := hcx.1.prime.lo; omega
  have hl6 := hcx.1.len1
  have hft := fam_tab hcx hcy hl hF hn
  have HNF := Lib.hid hft.1
  obtain ⟨d, hd⟩ : ∃ d, d = dimN ds (n : Int) := ⟨_, rfl⟩
  have hd8 : d ≤ 8 := by rw [hd]; exact (dimN_le8 hcx n).1
  obtain ⟨c, hc⟩ : ∃ c, c = dimN ds2 (n : Int) := ⟨_, rfl⟩
  have hc8 : c ≤ 8 := by rw [hc]; exact (dimN_le8 hcy n).1
  obtain ⟨t, ht⟩ : ∃ t, t = fs.getD n [] := ⟨_, rfl⟩
  have HTL : Hid (t.length = d) := Lib.hid (by rw [ht, hd]; exact hft.2.1)
  have HTR : Hid (∀ r ∈ t, RowOk p (c : Int) r) := Lib.hid (by rw [ht, hc]; exact hft.2.2)
  have HD := Lib.hid hd
  have HC := Lib.hid hc
  have HT := Lib.hid ht
  have HZC : Hid (dimZ ds2 ((n : Int) + 0) = (c : Int)) := Lib.hid (by rw [Int.add_zero, dimZ_in rfl (show n < ds2.length by omega), ← getD_of_lt 0 (show n < ds2.length by omega), hc]; exact (dimN_le8 hcy n).2)
  obtain ⟨w1, hw1⟩ : ∃ w1, w1 = ((w.alloc (.cells #[.int .i64 p, .slice ad ds.length cap, .slice am ms.length capm] 30)).alloc (.cells #[.int .i64 p, .slice ad2 ds2.length cap2, .slice am2 ms2.length capm2] 30)) := ⟨_, rfl⟩
  rw [← hw1] at HX0 HY0
  have HB01 := Lib.hid HX0.out.below
  have HF1 := Lib.hid (hf.below HB01.out)
  obtain ⟨w2, hw2⟩ : ∃ w2, w2 = w1.alloc (.cells #[.int .i64 p, .slice ad2 ds2.length cap2, .slice am2 ms2.length capm2, .int .i64 0, .slice af fs.length cf] 69) := ⟨_, rfl⟩
  have HB12 : Hid (Below w1.heap.size w1 w2) := Lib.hid (by rw [hw2]; exact below_alloc1 _ _)
  have HG2 : Hid (Rz w2 w1.heap.size 69 #[.int .i64 p, .slice ad2 ds2.length cap2, .slice am2 ms2.length capm2, .int .i64 0, .slice af fs.length cf]) := Lib.hid (by rw [hw2]; exact Rz.new _ _ _)
  refine Sl.cases h.dims (fun _ _ hx _ => absurd hn (by simp [hx])) (fun bd od capd hvd _ _ hcl => ?_)
  injection hvd with e1 e2 e3
  clear e2
  subst e1 e3
  have HNX : Hid (∀ W, Below w2.heap.size w2 W → Bx w W w.heap.size p (.slice (some ⟨bd, od, none⟩) ds.length cap) (.slice am ms.length capm) ds ms ∧ Bx w W (w.heap.size + 1) p (.slice ad2 ds2.length cap2) (.slice am2 ms2.length capm2) ds2 ms2 ∧ Rz W w1.heap.size 69 #[.int .i64 p, .slice ad2 ds2.length cap2, .slice am2 ms2.length capm2, .int .i64 0, .slice af fs.length cf] ∧ L3 0 W (.slice af fs.length cf) fs ∧ W.cell? ⟨bd, od + n, none⟩ = some (.int .i64 (d : Int))) := Lib.hid (fun W hb => by
    have hb1 := HB12.out.trans (hb.mono HB12.out.size)
    have hx := HX0.out.next hb1
    refine ⟨hx, HY0.out.next hb1, HG2.out.next hb, HF1.out.below hb1, ?_⟩
    obtain ⟨u, hu, hr⟩ := hcl n hn
    rw [later hx.below (Nat.le_refl _) hu, hr, ← getD_of_lt 0 hn, (dimN_le8 HCX.out n).2, HD.out])
  have d0 := HY0.out.c0
  have d1 := HY0.out.c1
  have d2 := HY0.out.c2
  clear h h2 hf k1 k2 hcx hcy hl hF hft hd hc ht hcl
  go_enter Tryd.func53, Tryd.ntmps53
  go_upto_region 1 with fail
  rw [← hw1]
  clear hw1
  go_upto_region 2 with fail
  rw [← hw2]
  clear hw2 d0 d1 d2
  have HN2 := Lib.hid (HNX.out _ (Below.refl _ _))
  have c0 := HN2.out.1.c0
  have c1 := HN2.out.1.c1
  have c2 := HN2.out.1.c2
  go_wp2_with fail
  refine (cycleSpace_any p n _ _ ds ms _ HN2.out.1.cx HCX.out hn).mono ?_
  rintro e w3 ⟨s3, A, rfl, hb3, ho3, hr3⟩
  have hA8 : A.length ≤ 8 := by have := hr3.short; have := (dimN_le8 HCX.out n).1; omega
  obtain ⟨ac, cc, rfl⟩ := ho3.shape
  have HB3 := Lib.hid hb3
  have HA := Lib.hid ho3.vs
  have HR3 := Lib.hid hr3
  have hs23 : w2.heap.size ≤ w3.heap.size := hb3.size
  clear c0 c1 c2 hb3 ho3 hr3 HN2
  go_wp2
  go_loopw [10, 22] (fun iv i wr => ∃ (k : Nat), k ≤ A.length ∧ i = .int .i64 k ∧ Hid (Below w3.heap.size w3 wr) ∧ Hid (Ow w3.heap.size wr iv (fImg p ds fs n (A.take k)))) (fun _ i _ => A.length - (intOf i).toNat)
  case atStart => exact ⟨0, Nat.zero_le _, rfl, Lib.hid (Below.refl _ _), Lib.hid (Ow.nil _ _)⟩
  case round =>
    obtain ⟨k, hk, rfl, HB, HO⟩ := hrel
    obtain ⟨wx, hwx⟩ : ∃ wx : World, wx = wr := ⟨_, rfl⟩
    subst hwx
    have hsx : w3.heap.size ≤ wx.heap.size := HB.out.size
    have HB2 := Lib.hid (HB3.out.trans (HB.out.mono hs23))
    obtain ⟨ai, ci, hiv⟩ := HO.out.shape
    rw [fImg_len, List.length_take, Nat.min_eq_left hk] at hiv
    subst hiv
    by_cases hlt : k < A.length
    · refine Vs.cases (HA.out.below HB.out) (fun _ _ hx _ => absurd hlt (by simp [hx])) (fun b o cap3 hv _ _ hc => ?_)
      obtain ⟨rfl, rfl⟩ : ac = some ⟨b, o, none⟩ ∧ cc = cap3 := by simpa using hv
      obtain ⟨u, hu⟩ : ∃ u, u = A[k] := ⟨_, rfl⟩
      have HVA : Hid (At wx b (o + k * 40) u) := Lib.hid (by rw [hu]; exact hc k hlt)
      have HI2V := Lib.hid (Tryd.infoVl u)
      have HIS : Hid ((Tryd.prog.info? 94).map (·.size) = some (vl u).toArray.size) := Lib.hid (by have := HI2V.out; simpa using this)
      have HUM : Hid (Lin.Md p u) := Lib.hid (by rw [hu]; exact HR3.out.1.md _ (List.getElem_mem hlt))
      have HTK : Hid (fImg p ds fs n (A.take (k + 1)) = fImg p ds fs n (A.take k) ++ [dimg p d t u]) := Lib.hid (by rw [fImg_take hlt, ← HD.out, ← HT.out, hu])
      have HAP := Lib.hid (dimg_apT (u := u) HCX.out.1.prime HTL.out HTR.out HUM.out)
      clear hv hc hu
      go_upto_region 6 with (first | (with_reducible refine wpList_load_mid rfl 94 (.tmp 24) rfl b (o + k * 40) rfl (vl u) _ HVA.out.range Tryd.underlyingV rfl HI2V.out ?_) | (with_reducible refine wpList_allocV rfl (some 12) rfl rfl ?_; intro W2 hn2; have HN2 := Lib.hid hn2; have HT2 : Hid (W2.there wx.heap.size 0 (vl u).toArray.size) := (Lib.hid (by have := hn2.there; simpa [vl_length] using this)); clear hn2) | (with_reducible refine wpList_store_mid rfl 94 (.tmp 12) (.tmp 25) rfl wx.heap.size 0 (vl u).toArray rfl rfl HT2.out HIS.out (vl_all _) ?_))
      refine forget_wp (fun W => Hid (At W wx.heap.size 0 u ∧ Below wx.heap.size wx W)) (Lib.hid ?_) ?_
      · have hp2 := HN2.out.put u
        exact ⟨hp2.2.1, hp2.1⟩
      intro W3 HS3
      clear HN2 HT2 HVA HIS
      simp only [Act.put]
      have HB4 := Lib.hid (HB2.out.trans (HS3.out.2.mono (by omega)))
      have HO4 := Lib.hid (HO.out.below HS3.out.2)
      have hs43 : wx.heap.size < W3.heap.size := HS3.out.1.lt
      have HBX := Lib.hid (HB.out.trans (HS3.out.2.mono hsx))
      have HNA : Hid (∀ W, Below W3.heap.size W3 W → Below w2.heap.size w2 W) := Lib.hid (fun W h => HB4.out.trans (h.mono HB4.out.size))
      have hsl := hsliceV wx.heap.size d (by omega)
      refine wp_region_held (S := fun W => Below W3.heap.size W3 W) (by kernel_rfl) ?_
      have S0 : Below W3.heap.size W3 W3.drew := (Below.refl _ _).drew
      have hsd : W3.heap.size ≤ W3.drew.heap.size := Nat.le_refl _
      change wpAnyH _ _ _ _ _ _ _ _ W3.drew
      obtain ⟨wd, hwd⟩ : ∃ wd, wd = W3.drew := ⟨_, rfl⟩
      rw [← hwd] at S0 hsd ⊢
      clear hwd
      refine held_take (i := 0) (v := .agg #[.int .i64 p, .slice ad2 ds2.length cap2, .slice am2 ms2.length capm2, .int .i64 0, .slice af fs.length cf]) (some 26) rfl rfl (by kernel_rfl) (by kernel_rfl) (by kernel_rfl) (fun _ _ _ h => h) (yieldsIf_cell (by kernel_rfl) rfl (by kernel_rfl) (fun W h => hloadGr W (HNX.out W (HNA.out W h)).2.2.1)) S0 ?_
      refine held_take (i := 1) (v := .int .i64 (n : Int)) (some 27) rfl rfl (by kernel_rfl) (by kernel_rfl) (by kernel_rfl) (fun _ _ _ h => h) (yieldsIf_move (by kernel_rfl) rfl (by kernel_rfl)) S0 ?_
      refine held_take (i := 2) (v := .pointer (some ⟨w.heap.size, 1, none⟩)) (some 28) rfl rfl (by kernel_rfl) (by kernel_rfl) (by kernel_rfl) (fun _ _ _ h => h) (yieldsIf_run (by kernel_rfl) (fun W _ => by kernel_rfl)) S0 ?_
      refine held_take (i := 3) (v := .slice (some ⟨bd, od, none⟩) ds.length cap) (some 29) rfl rfl (by kernel_rfl) (by kernel_rfl) (by kernel_rfl) (fun _ _ _ h => h) (yieldsIf_cell (by kernel_rfl) rfl (by kernel_rfl) (fun W h => hloadS W (HNX.out W (HNA.out W h)).1.c1)) S0 ?_
      refine held_take (i := 4) (v := .int .i64 (n : Int)) (some 30) rfl rfl (by kernel_rfl) (by kernel_rfl) (by kernel_rfl) (fun _ _ _ h => h) (yieldsIf_move (by kernel_rfl) rfl (by kernel_rfl)) S0 ?_
      refine held_take (i := 5) (v := .pointer (some ⟨bd, od + n, none⟩)) (some 31) rfl rfl (by kernel_rfl) (by kernel_rfl) (by kernel_rfl) (fun _ _ _ h => h) (yieldsIf_index (by kernel_rfl) rfl (by kernel_rfl) (by kernel_rfl) (hidxI bd od cap hn)) S0 ?_
      refine held_take (i := 6) (v := .int .i64 (d : Int)) (some 32) rfl rfl (by kernel_rfl) (by kernel_rfl) (by kernel_rfl) (fun _ _ _ h => h) (yieldsIf_cell (by kernel_rfl) rfl (by kernel_rfl) (fun W h => hload W (HNX.out W (HNA.out W h)).2.2.2.2)) S0 ?_
      refine held_take (i := 7) (v := .slice (some ⟨wx.heap.size, 0, none⟩) d 40) (some 33) rfl rfl (by kernel_rfl) (by kernel_rfl) (by kernel_rfl) (fun _ _ _ h => h) (yieldsIf_slice (by kernel_rfl) rfl (by kernel_rfl) (by kernel_rfl) hsl) S0 ?_
      refine held_take (i := 8) (v := .agg #[.int .i64 (n : Int), .slice (some ⟨wx.heap.size, 0, none⟩) d 40]) (some 34) rfl rfl (by kernel_rfl) (by kernel_rfl) (by kernel_rfl) (fun _ _ _ h => h) (yieldsIf_run (by kernel_rfl) (fun W _ => by kernel_rfl)) S0 ?_
      have HLE : Hid (∀ W, Below W3.heap.size W3 W → Calls Tryd.prog 66 #[.agg #[.int .i64 p, .slice ad2 ds2.length cap2, .slice am2 ms2.length capm2, .int .i64 0, .slice af fs.length cf], .agg #[.int .i64 (n : Int), .slice (some ⟨wx.heap.size, 0, none⟩) d 40]] W (LeadR ((n : Int) + 0) (toL c (dimg p d t u)) W)) := Lib.hid (fun W hb => by
        have h0 := HNX.out W (HNA.out W hb)
        have h1 := lead_any p 0 n c _ _ _ _ ds2 ms2 fs (toL d u) W h0.2.1.cx h0.2.2.2.1 (at_l1 (HS3.out.1.later hb) (by omega)) HCY.out HNF.out (by omega) (by omega) HZC.out (by rw [← HT.out]; exact HAP.out.1) (by have := HFO.out.1; omega) (by rw [toL_length]; omega)
        rw [← HT.out, HAP.out.2] at h1
        exact h1)
      refine held_two (i := 9) (j := 10) (by kernel_rfl) ?_ ?_
      · refine op_enter (i := 9) (some 35) (f := 66) (args := #[.agg #[.int .i64 p, .slice ad2 ds2.length cap2, .slice am2 ms2.length capm2, .int .i64 0, .slice af fs.length cf], .agg #[.int .i64 (n : Int), .slice (some ⟨wx.heap.size, 0, none⟩) d 40]]) rfl rfl rfl (by kernel_rfl) (HLE.out wd S0) ?_ (fun c w' h => by obtain ⟨_, h, _⟩ := h; cases h) (fun w' h => by obtain ⟨_, h, _⟩ := h; cases h)
        rintro ee V1 ⟨uu, he, hU, hb1⟩
        injection he with he
        subst he
        obtain ⟨au, cu, hvu⟩ := Sl.shape hU.l1
        rw [toL_length] at hvu
        subst hvu
        have S1 : Below W3.heap.size W3 V1 := S0.trans (hb1.mono S0.size)
        refine ⟨S1, ?_⟩
        refine held_one (i := 10) (by kernel_rfl) ?_
        obtain ⟨V2, hW2⟩ : ∃ W', W' = V1.alloc (.cells #[.int .i64 0, .slice none 0 0] 96) := ⟨_, rfl⟩
        have hb2 : Below V1.heap.size V1 V2 := by rw [hW2]; exact below_alloc1 _ _
        have hR2 : Rz V2 V1.heap.size 96 #[.int .i64 0, .slice none 0 0] := by rw [hW2]; exact Rz.new _ _ _
        have S2 : Below W3.heap.size W3 V2 := S1.trans (hb2.mono S1.size)
        have z2 := S1.size
        refine op_mem (i := 10) (v := .pointer (some ⟨V1.heap.size, 0, none⟩)) (w' := V2) (some 13) rfl rfl rfl (by rw [hW2]; go_simp) ?_
        refine ⟨S2, ?_⟩
        have hU2 := hU.same (Same.of_below hb2 (Nat.le_refl _))
        refine held_one (i := 11) (by kernel_rfl) ?_
        obtain ⟨WF, hWF⟩ : ∃ WF, WF = V2.setRow (V1.heap.size) #[.int .i64 ((n : Int) + 0), .slice au c cu] := ⟨_, rfl⟩
        have SF : Below W3.heap.size W3 WF := by rw [hWF]; exact below_setRow S2 (by omega) _
        have hRF : Rz WF (V1.heap.size) 96 #[.int .i64 ((n : Int) + 0), .slice au c cu] := by rw [hWF]; exact hR2.set _
        have hUF : L1 0 WF (.slice au c cu) (toL c (dimg p d t u)) := by rw [hWF]; exact (hU2.same (Same.setRow _ (Or.inr (by omega)))).l1.lower (Nat.zero_le _)
        refine op_row (i := 11) rfl rfl rfl 96 (.tmp 13) (.tmp 35) rfl (V1.heap.size) #[.int .i64 ((n : Int) + 0), .slice au c cu] (by kernel_rfl) (by kernel_rfl) 96 _ hR2 (infoEl _ _) (by kernel_rfl) (by kernel_rfl) ?_
        rw [← hWF]
        refine ⟨SF, ?_⟩
        refine wpAnyH_done (by kernel_rfl) ?_ _
        simp only [Act.put, List.setIfInBounds_toArray, List.set_cons_zero, List.set_cons_succ]
        obtain ⟨gE, hgE⟩ : ∃ g, g = V1.heap.size := ⟨_, rfl⟩
        rw [← hgE] at hRF ⊢
        have HSF := Lib.hid SF
        have HUF := Lib.hid hUF
        have e1 := hRF.cell (i := 1) rfl
        have HRV : Hid (Calls Tryd.prog 84 #[.slice au c cu] WF (AR (ints (pad (toL c (dimg p d t u)))) WF)) := Lib.hid (vectorOf_any _ _ WF HUF.out (by rw [toL_length]; omega))
        rw [ints_ofL (by rw [toL_length]; omega), ofL_toL (dimg_wd HTL.out HTR.out u)] at HRV
        have HO5 := Lib.hid (HO4.out.below HSF.out)
        have hs5 : w3.heap.size ≤ WF.heap.size := by have := SF.size; omega
        have hSl : (fImg p ds fs n (A.take k)).length ≤ 1048576 := by rw [fImg_len, List.length_take]; omega
        have HSL := Lib.hid hSl
        clear hWF hgE hRF hUF SF S0 hsd hSl 
        go_wp2_with fail
        refine HRV.out.mono ?_
        rintro e w5 ⟨he, hb5⟩
        subst he
        have HB5 := Lib.hid (HSF.out.trans (hb5.mono HSF.out.size))
        have HO6 := Lib.hid (HO5.out.below hb5)
        have hs6 : w3.heap.size ≤ w5.heap.size := Nat.le_trans hs5 hb5.size
        clear hb5
        go_wp2_with (first | (with_reducible refine wpList_oneV rfl (some 40) rfl (.tmp 39) rfl (dimg p d t u) rfl ?_; intro W7 hn7; have HN7 := Lib.hid hn7; have HZ7 : Hid (w3.heap.size ≤ W7.heap.size) := (Lib.hid (by have := hn7.size; omega)); have HO7 := Lib.hid (HO6.out.below hn7.below); clear hn7) | (at_builtin; with_reducible refine wpList_appendV rfl (some 41) rfl (.tmp 36) (.tmp 40) rfl w3.heap.size (.slice ai k ci) (fImg p ds fs n (A.take k)) rfl HO7.out w5.heap.size 1 (dimg p d t u) rfl HN7.out.at' HSL.out HZ7.out ?_; intro s8 W8 ho8 hg8; have HO8 := Lib.hid ho8; have HG8 := Lib.hid hg8; clear ho8 hg8))
        have HB8 : Hid (Below w3.heap.size w3 W8) := Lib.hid (((HBX.out.trans (HB5.out.mono HBX.out.size)).trans (HN7.out.below.mono hs6)).trans ((Below.refl _ _).grown HG8.out HZ7.out (fun g hg => (World.ownsRow.lt HO7.out g hg).1)))
        go_wp2
        go_roundw
        case rel => exact ⟨k + 1, by omega, by go_num, HB8, Lib.hid (by rw [HTK.out]; exact HO8.out)⟩
        case measure => simp [intOf]; omega
      · obtain ⟨V1, hW1⟩ : ∃ W', W' = wd.alloc (.cells #[.int .i64 0, .slice none 0 0] 96) := ⟨_, rfl⟩
        have hb1 : Below wd.heap.size wd V1 := by rw [hW1]; exact below_alloc1 _ _
        have hR1 : Rz V1 wd.heap.size 96 #[.int .i64 0, .slice none 0 0] := by rw [hW1]; exact Rz.new _ _ _
        have S1 : Below W3.heap.size W3 V1 := S0.trans (hb1.mono S0.size)
        have z1 := S0.size
        refine op_mem (i := 10) (v := .pointer (some ⟨wd.heap.size, 0, none⟩)) (w' := V1) (some 13) rfl rfl rfl (by rw [hW1]; go_simp) ?_
        refine ⟨S1, ?_⟩
        have zz := hR1.lt
        refine held_one (i := 9) (by kernel_rfl) ?_
        refine op_enter (i := 9) (some 35) (f := 66) (args := #[.agg #[.int .i64 p, .slice ad2 ds2.length cap2, .slice am2 ms2.length capm2, .int .i64 0, .slice af fs.length cf], .agg #[.int .i64 (n : Int), .slice (some ⟨wx.heap.size, 0, none⟩) d 40]]) rfl rfl rfl (by kernel_rfl) (HLE.out V1 S1) ?_ (fun c w' h => by obtain ⟨_, h, _⟩ := h; cases h) (fun w' h => by obtain ⟨_, h, _⟩ := h; cases h)
        rintro ee V2 ⟨uu, he, hU, hb2⟩
        injection he with he
        subst he
        obtain ⟨au, cu, hvu⟩ := Sl.shape hU.l1
        rw [toL_length] at hvu
        subst hvu
        have S2 : Below W3.heap.size W3 V2 := S1.trans (hb2.mono S1.size)
        refine ⟨S2, ?_⟩
        have hR2 := hR1.next hb2
        refine held_one (i := 11) (by kernel_rfl) ?_
        obtain ⟨WF, hWF⟩ : ∃ WF, WF = V2.setRow (wd.heap.size) #[.int .i64 ((n : Int) + 0), .slice au c cu] := ⟨_, rfl⟩
        have SF : Below W3.heap.size W3 WF := by rw [hWF]; exact below_setRow S2 (by omega) _
        have hRF : Rz WF (wd.heap.size) 96 #[.int .i64 ((n : Int) + 0), .slice au c cu] := by rw [hWF]; exact hR2.set _
        have hUF : L1 0 WF (.slice au c cu) (toL c (dimg p d t u)) := by rw [hWF]; exact (hU.same (Same.setRow _ (Or.inl (by omega)))).l1.lower (Nat.zero_le _)
        refine op_row (i := 11) rfl rfl rfl 96 (.tmp 13) (.tmp 35) rfl (wd.heap.size) #[.int .i64 ((n : Int) + 0), .slice au c cu] (by kernel_rfl) (by kernel_rfl) 96 _ hR2 (infoEl _ _) (by kernel_rfl) (by kernel_rfl) ?_
        rw [← hWF]
        refine ⟨SF, ?_⟩
        refine wpAnyH_done (by kernel_rfl) ?_ _
        simp only [Act.put, List.setIfInBounds_toArray, List.set_cons_zero, List.set_cons_succ]
        obtain ⟨gE, hgE⟩ : ∃ g, g = wd.heap.size := ⟨_, rfl⟩
        rw [← hgE] at hRF ⊢
        have HSF := Lib.hid SF
        have HUF := Lib.hid hUF
        have e1 := hRF.cell (i := 1) rfl
        have HRV : Hid (Calls Tryd.prog 84 #[.slice au c cu] WF (AR (ints (pad (toL c (dimg p d t u)))) WF)) := Lib.hid (vectorOf_any _ _ WF HUF.out (by rw [toL_length]; omega))
        rw [ints_ofL (by rw [toL_length]; omega), ofL_toL (dimg_wd HTL.out HTR.out u)] at HRV
        have HO5 := Lib.hid (HO4.out.below HSF.out)
        have hs5 : w3.heap.size ≤ WF.heap.size := by have := SF.size; omega
        have hSl : (fImg p ds fs n (A.take k)).length ≤ 1048576 := by rw [fImg_len, List.length_take]; omega
        have HSL := Lib.hid hSl
        clear hWF hgE hRF hUF SF S0 hsd hSl 
        go_wp2_with fail
        refine HRV.out.mono ?_
        rintro e w5 ⟨he, hb5⟩
        subst he
        have HB5 := Lib.hid (HSF.out.trans (hb5.mono HSF.out.size))
        have HO6 := Lib.hid (HO5.out.below hb5)
        have hs6 : w3.heap.size ≤ w5.heap.size := Nat.le_trans hs5 hb5.size
        clear hb5
        go_wp2_with (first | (with_reducible refine wpList_oneV rfl (some 40) rfl (.tmp 39) rfl (dimg p d t u) rfl ?_; intro W7 hn7; have HN7 := Lib.hid hn7; have HZ7 : Hid (w3.heap.size ≤ W7.heap.size) := (Lib.hid (by have := hn7.size; omega)); have HO7 := Lib.hid (HO6.out.below hn7.below); clear hn7) | (at_builtin; with_reducible refine wpList_appendV rfl (some 41) rfl (.tmp 36) (.tmp 40) rfl w3.heap.size (.slice ai k ci) (fImg p ds fs n (A.take k)) rfl HO7.out w5.heap.size 1 (dimg p d t u) rfl HN7.out.at' HSL.out HZ7.out ?_; intro s8 W8 ho8 hg8; have HO8 := Lib.hid ho8; have HG8 := Lib.hid hg8; clear ho8 hg8))
        have HB8 : Hid (Below w3.heap.size w3 W8) := Lib.hid (((HBX.out.trans (HB5.out.mono HBX.out.size)).trans (HN7.out.below.mono hs6)).trans ((Below.refl _ _).grown HG8.out HZ7.out (fun g hg => (World.ownsRow.lt HO7.out g hg).1)))
        go_wp2
        go_roundw
        case rel => exact ⟨k + 1, by omega, by go_num, HB8, Lib.hid (by rw [HTK.out]; exact HO8.out)⟩
        case measure => simp [intOf]; omega
    · have hke : Hid (A.take k = A) := Lib.hid (List.take_of_length_le (by omega))
      have HKE : Hid (k = A.length) := Lib.hid (by omega)
      have HN4 := Lib.hid (HNX.out _ HB2.out)
      have d0 := HN4.out.2.1.c0
      have d1 := HN4.out.2.1.c1
      have d2 := HN4.out.2.1.c2
      go_wp2_with fail
      refine (boundarySpace_any p n _ _ ds2 ms2 _ HN4.out.2.1.cx HCY.out).mono ?_
      rintro e w5 ⟨s5, B, rfl, hb5, ho5, hr5⟩
      have hB8 : B.length ≤ 8 := by have := hr5.short; have := (dimN_le8 HCY.out n).1; omega
      obtain ⟨a5, c5, rfl⟩ := ho5.shape
      have HB5 := Lib.hid (HB2.out.trans (hb5.mono HB2.out.size))
      have HVB := Lib.hid ho5.vs
      have HR5 := Lib.hid hr5
      have HVI := Lib.hid (HO.out.below hb5).vs
      have HN5 := Lib.hid (HNX.out _ HB5.out)
      clear d0 d1 d2 hb5 ho5 hr5
      have c0 := HN5.out.1.c0
      have HSS : Hid (∀ W, Below w5.heap.size w5 W → Calls Tryd.prog 86 #[.int .i64 p, .slice ai k ci, .slice a5 B.length c5] W (VsR (fun R => RedOf p R (fImg p ds fs n A ++ B) ∧ R.length ≤ (fImg p ds fs n A ++ B).length) W)) := Lib.hid (fun W hW => by
        have hi := (HVI.out.lower (Nat.zero_le _)).below hW
        rw [hke.out] at hi
        exact sumSpace_any p _ _ (fImg p ds fs n A) B W HCX.out.1.prime hi ((HVB.out.lower (Nat.zero_le _)).below hW) (fun u hu => (List.mem_append.1 hu).elim (fImg_md hp0 n A u) (HR5.out.1.md u)) (fun u hu => wd_wider ((List.mem_append.1 hu).elim (fImg_wd HCX.out HCY.out HLL.out HFO.out hn A u) (HR5.out.2.1 u)) (by have := (dimN_le8 HCY.out n).1; omega)) (by rw [List.length_append, fImg_len]; omega))
      have HSB : Hid (∀ E : List Lin.V, E.length ≤ A.length + B.length → ∀ w, (binOp .sub 3 (.int .i64 (E.length : Int)) (.int .i64 (B.length : Int))).run Tryd.prog w = .ok (.int .i64 ((E.length : Int) - (B.length : Int))) w) := Lib.hid (fun E hE w => hsubD (by omega) (by omega) w)
      go_wp2_with fail
      refine (HSS.out _ (Below.refl _ _)).mono ?_
      rintro e w6 ⟨s6, E, rfl, hb6, ho6, hr6, hel⟩
      rw [List.length_append, fImg_len] at hel
      obtain ⟨a6, c6, rfl⟩ := ho6.shape
      have HB6 := Lib.hid (HN5.out.1.below.trans (hb6.mono HN5.out.1.below.size))
      have HR6 := Lib.hid hr6
      have hsb := HSB.out E hel
      clear hb6 ho6 hr6 c0 HSS
      go_wp2
      go_ret
      exact ⟨_, rfl, HB6.out, rk_close HCX.out HCY.out HLL.out HFO.out hn HR3.out HR5.out HR6.out.red HR6.out.eqv⟩
end Go.Proofs.YtpchbceohnabnabDoor


namespace Go.Proofs.YtpchbceohnabnabDoor
open Go.RowKit

/-- Approximate cycles of the degree above, none beyond the degrees. -/
def UpP (p : Int) (ds : List Int) (ms : List (List (List Int))) (ls : List (List Int)) (k : Nat) (q q0 : Int) (R : List Lin.V) : Prop := (k < ds.length → SpF p (dimN ds (k : Int)) (ZcD p ds ms ls k q q0) R) ∧ (¬ k < ds.length → R = [])
theorem UpP.unique {p : Int} {ds : List Int} {ms : List (List (List Int))} {ls : List (List Int)} {k : Nat} {q q0 : Int} {R R' : List Lin.V} (hp : 1 < p) (h : UpP p ds ms ls k q q0 R) (h' : UpP p ds ms ls k q q0 R') : R = R' := by
  by_cases hk : k < ds.length
  · exact (h.1 hk).unique' hp (h'.1 hk)
  · rw [h.2 hk, h'.2 hk]
theorem UpP.short {p : Int} {ds : List Int} {ms : List (List (List Int))} {ls : List (List Int)} (hcx : IsCx p ds ms) {k : Nat} {q q0 : Int} {R : List Lin.V} (h : UpP p ds ms ls k q q0 R) : R.length ≤ 8 := by
  by_cases hk : k < ds.length
  · have := (h.1 hk).short
    have := (dimN_le8 hcx k).1
    omega
  · rw [h.2 hk]; simp
end Go.Proofs.YtpchbceohnabnabDoor


namespace Go.Proofs.YtpchbceohnabnabDoor
open Go.RowKit

section
variable {md : Region.Mode} {ops : Array Oper} {Q : Exit → Act → World → Prop} {S : World → Prop}
/-- append of one row to a table that the call gathers, in a drawn region. -/
theorem held_appendG {i : Nat} {oi : Oper} {fuel : Nat} {listed : Array Bool} {a : Act} {w : World} (d : Option Tmp) (hr : Region.ready md ops listed = [i]) (hi : ops[i]? = some oi) (hg : oi.guard = none) (hd : oi.dst = d)
    (s x : Operand) (ho : oi.op = .call { callee := .builtin .append, args := #[s, x], argTypes := #[48, 48] }) (base : Nat) (v : Value) (tb : List (List Int)) (hs : a.eval s = v) (hst : Gs base w v tb)
    (b : Nat) (ad : Option Addr) (m c : Nat) (hx : a.eval x = .slice (some ⟨b, 0, none⟩) 1 1) (hc : w.cell? ⟨b, 0, none⟩ = some (.slice ad m c)) (y : List Int) (hy : G1 w (.slice ad m c) y) (hn : tb.length ≤ 1048576) (hb : base ≤ w.heap.size)
    (h : ∀ v' w', Gs base w' v' (tb ++ [y]) → Below base w w' → S w' ∧ wpAnyH Tryd.prog md ops Q S fuel (listed.setIfInBounds i true) (a.put d v') w') : wpAnyH Tryd.prog md ops Q S (fuel + 1) listed a w := by
  obtain ⟨vs, hvo, hvr⟩ := hst
  exact held_appendS d hr hi hg hd s x ho base v tb.length vs hs hvo b ad m c hx hc (by omega) hb (fun v' w' hown hgrow => h v' w' (Gs.push hvo hvr hy hown hgrow) ((Below.refl _ _).grown hgrow hb (fun g hg => (World.ownsRow.lt hvo g hg).1)))
end

/-- Gathered rows of a table behind one another. -/
structure CatA (base : Nat) (w : World) (v : Value) (tb : List (List Int)) (xs : List Value) : Prop where
  own : w.ownsRow base 22 1 v tb.length xs
  len : xs.length = tb.length
  rows : ∀ k (h1 : k < xs.length) (h2 : k < tb.length), G1 w xs[k] tb[k]
theorem CatA.below {base : Nat} {w w' : World} {v : Value} {tb : List (List Int)} {xs : List Value} (h : CatA base w v tb xs) (hb : Below w.heap.size w w') : CatA base w' v tb xs := ⟨owns_below h.own hb, h.len, fun k h1 h2 => (h.rows k h1 h2).below hb⟩
theorem CatA.gs {base : Nat} {w : World} {v : Value} {tb : List (List Int)} {xs : List Value} (h : CatA base w v tb xs) : Gs base w v tb := ⟨xs, h.own, h.rows⟩
theorem CatA.start (w : World) (base : Nat) (hb : base ≤ w.heap.size) : CatA base (w.alloc (.cells #[] 22)) (.slice (some ⟨w.heap.size, 0, none⟩) 0 0) [] [] :=
  ⟨by simpa using World.ownsRow_made (base := base) (e := 22) (size := 1) w #[] 0 hb (by unfold maxLen; omega) (by simp), rfl, fun k h1 _ => absurd h1 (Nat.not_lt_zero _)⟩
/-- behind the append of a gathered table. -/
theorem CatA.add {base : Nat} {w w' : World} {v v' : Value} {ta tb : List (List Int)} {xs ys : List Value} (h : CatA base w v ta xs) (hb : ∀ k (h1 : k < ys.length) (h2 : k < tb.length), G1 w ys[k] tb[k]) (hl : ys.length = tb.length)
    (ho : w'.ownsRow base 22 1 v' (ta.length + tb.length) (xs ++ ys)) (hg : w.grownBy w' v.ownBlock) : CatA base w' v' (ta ++ tb) (xs ++ ys) := by
  have h1 := h.len
  refine ⟨by rw [List.length_append]; exact ho, by simp; omega, fun k hk hk2 => ?_⟩
  by_cases e : k < xs.length
  · rw [List.getElem_append_left e, List.getElem_append_left (by omega)]
    exact owns_grown (h.rows k e (by omega)) h.own (by decide) hg
  · rw [List.getElem_append_right (by omega), List.getElem_append_right (by omega)]
    have h3 : k - xs.length < ys.length := by rw [List.length_append] at hk; omega
    have : G1 w' ys[k - xs.length] (tb[k - xs.length]'(by omega)) := owns_grown (hb (k - xs.length) h3 (by omega)) h.own (by decide) hg
    simpa [h1] using this
end Go.Proofs.YtpchbceohnabnabDoor


namespace Go.Proofs.YtpchbceohnabnabDoor
open Go.RowKit

theorem hsubDs {a b : Int} (h0 : -1000 ≤ a - b) (h1 : a - b ≤ 1000) (w : World) : (binOp .sub 3 (.int .i64 a) (.int .i64 b)).run Tryd.prog w = .ok (.int .i64 (a - b)) w := by
  have := IntWalk.i64_in (a - b) (by omega)
  go_simp

set_option maxHeartbeats 6400000 in
set_option maxRecDepth 100000 in
theorem l04Rank_any (p : Int) (n : Nat) (dv mv dv2 mv2 fv : Value) (ds : List Int) (ms : List (List (List Int))) (ds2 : List Int) (ms2 fs : List (List (List Int))) (w : World) (h : Cx 0 w dv mv ds ms) (h2 : Cx 0 w dv2 mv2 ds2 ms2) (hf : L3 0 w fv fs) (hcx : IsCx p ds ms) (hcy : IsCx p ds2 ms2) (hl : ds.length = ds2.length) (hF : FamOk p ds ds2 0 fs) (hn : n < ds.length) :
    Calls Tryd.prog 50 #[.agg #[.int .i64 p, dv, mv], .agg #[.int .i64 p, dv2, mv2], fv, .int .i64 (n : Int)] w (IntR (RkInd p ds ms ds2 ms2 fs n) w) := by
  obtain ⟨ad, cap, rfl⟩ := Sl.shape h.dims
  obtain ⟨am, capm, rfl⟩ := Sl.shape h.maps
  obtain ⟨ad2, cap2, rfl⟩ := Sl.shape h2.dims
  obtain ⟨am2, capm2, rfl⟩ := Sl.shape h2.maps
  obtain ⟨af, cf, rfl⟩ := Sl.shape hf
  obtain ⟨k1, k2⟩ := bx_two (p := p) (p2 := p) 30 h h2
  have HX0 := Lib.hid k1
  have HY0 := Lib.hid k2
  have HCX := Lib.hid hcx
  have HCY := Lib.hid hcy
  have HLL := Lib.hid hl
  have HFO := Lib.hid hF
  have hp0 : 0 < p := by have := hcx.1.prime.lo; omega
  have hl6 := hcx.1.len1
  have hft := fam_tab hcx hcy hl hF hn
  have HNF := Lib.hid hft.1
  have hn2 : n < ds2.length := by omega
  obtain ⟨d, hd⟩ : ∃ d, d = dimN ds (n : Int) := ⟨_, rfl⟩
  have hd8 : d ≤ 8 := by rw [hd]; exact (dimN_le8 hcx n).1
  obtain ⟨c, hc⟩ : ∃ c, c = dimN ds2 (n : Int) := ⟨_, rfl⟩
  have hc8 : c ≤ 8 := by rw [hc]; exact (dimN_le8 hcy n).1
  obtain ⟨t, ht⟩ : ∃ t, t = fs.getD n [] := ⟨_, rfl⟩
  have HTL : Hid (t.length = d) := Lib.hid (by rw [ht, hd]; exact hft.2.1)
  have HTR : Hid (∀ r ∈ t, RowOk p (c : Int) r) := Lib.hid (by rw [ht, hc]; exact hft.2.2)
  have HD := Lib.hid hd
  have HC := Lib.hid hc
  have HT := Lib.hid ht
  have HZC : Hid (dimZ ds2 ((n : Int) + 0) = (c : Int)) := Lib.hid (by rw [Int.add_zero, dimZ_in rfl hn2, ← getD_of_lt 0 hn2, hc]; exact (dimN_le8 hcy n).2)
  obtain ⟨w1, hw1⟩ : ∃ w1, w1 = ((w.alloc (.cells #[.int .i64 p, .slice ad ds.length cap, .slice am ms.length capm] 30)).alloc (.cells #[.int .i64 p, .slice ad2 ds2.length cap2, .slice am2 ms2.length capm2] 30)) := ⟨_, rfl⟩
  rw [← hw1] at HX0 HY0
  have HB01 := Lib.hid HX0.out.below
  have HF1 := Lib.hid (hf.below HB01.out)
  have HNX : Hid (∀ W, Below w1.heap.size w1 W → Bx w W w.heap.size p (.slice ad ds.length cap) (.slice am ms.length capm) ds ms ∧ Bx w W (w.heap.size + 1) p (.slice ad2 ds2.length cap2) (.slice am2 ms2.length capm2) ds2 ms2 ∧ L3 0 W (.slice af fs.length cf) fs) := Lib.hid (fun W hb => ⟨HX0.out.next hb, HY0.out.next hb, HF1.out.below hb⟩)
  clear h h2 hf k1 k2 hcx hcy hl hF hft hd hc ht
  go_enter Tryd.func50, Tryd.ntmps50
  go_upto_region 1 with fail
  rw [← hw1]
  clear hw1
  refine wp_region_held (S := fun W => Below w1.heap.size w1 W) (by kernel_rfl) ?_
  have S0 : Below w1.heap.size w1 w1.drew := (Below.refl _ _).drew
  change wpAnyH _ _ _ _ _ _ _ _ w1.drew
  obtain ⟨wd, hwd⟩ : ∃ wd, wd = w1.drew := ⟨_, rfl⟩
  rw [← hwd] at S0 ⊢
  clear hwd
  refine held_take (i := 0) (v := .agg #[.int .i64 p, .slice ad ds.length cap, .slice am ms.length capm]) (some 13) rfl rfl (by kernel_rfl) (by kernel_rfl) (by kernel_rfl) (fun _ _ _ h => h) (yieldsIf_cell (by kernel_rfl) rfl (by kernel_rfl) (fun W h => hload3x (HNX.out W h).1)) S0 ?_
  refine held_take (i := 1) (v := .int .i64 (n : Int)) (some 14) rfl rfl (by kernel_rfl) (by kernel_rfl) (by kernel_rfl) (fun _ _ _ h => h) (yieldsIf_move (by kernel_rfl) rfl (by kernel_rfl)) S0 ?_
  refine held_take (i := 3) (v := .agg #[.int .i64 p, .slice ad2 ds2.length cap2, .slice am2 ms2.length capm2]) (some 16) rfl rfl (by kernel_rfl) (by kernel_rfl) (by kernel_rfl) (fun _ _ _ h => h) (yieldsIf_cell (by kernel_rfl) rfl (by kernel_rfl) (fun W h => hload3x (HNX.out W h).2.1)) S0 ?_
  refine held_take (i := 4) (v := .int .i64 (n : Int)) (some 17) rfl rfl (by kernel_rfl) (by kernel_rfl) (by kernel_rfl) (fun _ _ _ h => h) (yieldsIf_move (by kernel_rfl) rfl (by kernel_rfl)) S0 ?_
  refine held_enter (i := 2) (some 15) (f := 80) (args := #[.agg #[.int .i64 p, .slice ad ds.length cap, .slice am ms.length capm], .int .i64 (n : Int)]) (by kernel_rfl) rfl rfl rfl (by kernel_rfl) (l01Cycles_any p n _ _ ds ms _ (HNX.out _ S0).1.cx HCX.out hn) ?_ (fun c w' h => by obtain ⟨_, _, h, _⟩ := h; cases h) (fun w' h => by obtain ⟨_, _, h, _⟩ := h; cases h)
  rintro ee V1 ⟨s1, A, he, hg1, hb1, hr1⟩
  injection he with he
  subst he
  obtain ⟨aA, cA, hv⟩ := Sl.shape hg1.l2
  rw [List.length_map] at hv
  subst hv
  have S1 : Below w1.heap.size w1 V1 := S0.trans (hb1.mono S0.size)
  refine ⟨S1, ?_⟩
  refine held_enter (i := 5) (some 18) (f := 81) (args := #[.agg #[.int .i64 p, .slice ad2 ds2.length cap2, .slice am2 ms2.length capm2], .int .i64 (n : Int)]) (by kernel_rfl) rfl rfl rfl (by kernel_rfl) (l01Bounds_any p n _ _ ds2 ms2 _ (HNX.out _ S1).2.1.cx HCY.out hn2) ?_ (fun c w' h => by obtain ⟨_, _, h, _⟩ := h; cases h) (fun w' h => by obtain ⟨_, _, h, _⟩ := h; cases h)
  rintro ee V2 ⟨s2, B, he, hg2, hb2, hr2, _⟩
  injection he with he
  subst he
  obtain ⟨aB, cB, hv⟩ := Sl.shape hg2.l2
  rw [List.length_map] at hv
  subst hv
  have S2 : Below w1.heap.size w1 V2 := S1.trans (hb2.mono S1.size)
  refine ⟨S2, ?_⟩
  refine held_take (i := 6) (v := .slice aA A.length cA) (some 9) rfl rfl (by kernel_rfl) (by kernel_rfl) (by kernel_rfl) (fun _ _ _ h => h) (yieldsIf_assign (by kernel_rfl) rfl (by kernel_rfl)) S2 ?_
  refine held_take (i := 7) (v := .slice aB B.length cB) (some 10) rfl rfl (by kernel_rfl) (by kernel_rfl) (by kernel_rfl) (fun _ _ _ h => h) (yieldsIf_assign (by kernel_rfl) rfl (by kernel_rfl)) S2 ?_
  refine wpAnyH_done (by kernel_rfl) ?_ _
  simp only [Act.put, List.setIfInBounds_toArray, List.set_cons_zero, List.set_cons_succ]
  have hA8 : A.length ≤ 8 := by have := hr1.short; have := (dimN_le8 HCX.out n).1; omega
  have hB8 : B.length ≤ 8 := by have := red_length hr2.red hr2.wd; have := (dimN_le8 HCY.out n).1; omega
  have HR1 := Lib.hid hr1
  have HR2 : Hid (SpF p (dimN ds2 (n : Int)) (Lin.Sp p ((tabN ms2 n).map ofL)) B) := Lib.hid ⟨hr2.red, hr2.wd, hr2.eqv⟩
  rw [← HC.out] at hg2
  rw [← HD.out] at hg1
  obtain ⟨zs, hrz, hgz⟩ := hg2.rowsOf
  have HLA := Lib.hid (hg1.l2.below hb2)
  obtain ⟨w3, hw3⟩ : ∃ w3 : World, w3 = V2 := ⟨_, rfl⟩
  rw [← hw3] at hrz hgz HLA S2 ⊢
  have HB3 := Lib.hid S2
  have hb4 : Below w3.heap.size w3 (w3.alloc (.cells #[] 22)) := below_alloc1 _ _
  have HC4 : Hid (CatA w3.heap.size (w3.alloc (.cells #[] 22)) (.slice (some ⟨w3.heap.size, 0, none⟩) 0 0) [] []) := Lib.hid (CatA.start w3 w3.heap.size (Nat.le_refl _))
  have HRZ := Lib.hid (hrz.below hb4)
  have HGZ : Hid (∀ k (h1 : k < zs.length) (h2 : k < (B.map (toL c)).length), G1 (w3.alloc (.cells #[] 22)) zs[k] (B.map (toL c))[k]) := Lib.hid (fun k h1 h2 => (hgz k h1 h2).below hb4)
  have HB4 := Lib.hid hb4
  have HBL : Hid ((B.map (toL c)).length = B.length) := Lib.hid (List.length_map _)
  clear S0 S1 S2 hb1 hb2 hg1 hg2 hr1 hr2 hrz hgz hw3 hb4
  go_wp2_with (at_builtin; refine wpList_appendT rfl (some 21) rfl (.tmp 19) (.tmp 20) rfl w3.heap.size 0 _ _ [] (B.map (toL c)) zs rfl rfl HC4.out.own HRZ.out ?c1 ?c2 ?_)
  case c1 => rw [HBL.out]; omega
  case c2 => exact HB4.out.size
  intro v5 w5 ho5 hg5
  have HB5 : Hid (Below w3.heap.size w3 w5) := Lib.hid (HB4.out.grown hg5 HB4.out.size (fun g hg => ((World.ownsRow.lt HC4.out.own) g hg).1))
  have HC5 : Hid (Gs w3.heap.size w5 v5 (B.map (toL c))) := Lib.hid (by
    have h := HC4.out.add HGZ.out HRZ.out.len (by rw [List.length_nil]; exact ho5) hg5
    rw [List.nil_append, List.nil_append] at h
    exact h.gs)
  clear ho5 hg5 HC4 HRZ HGZ HB4
  go_wp2
  go_loopw [11, 12] (fun lv i wr => ∃ (k : Nat), k ≤ A.length ∧ i = .int .i64 k ∧ Hid (Below w3.heap.size w3 wr) ∧ Hid (Gs w3.heap.size wr lv ((B ++ fImg p ds fs n (A.take k)).map (toL c)))) (fun _ i _ => A.length - (intOf i).toNat)
  case atStart => exact ⟨0, Nat.zero_le _, rfl, HB5, Lib.hid (by have := HC5.out; rwa [show B ++ fImg p ds fs n (A.take 0) = B by simp [fImg]])⟩
  case round =>
    clear HB5 HC5
    obtain ⟨k, hk, rfl, HB, HG⟩ := hrel
    obtain ⟨wx, hwx⟩ : ∃ wx : World, wx = wr := ⟨_, rfl⟩
    subst hwx
    have hsx : w3.heap.size ≤ wx.heap.size := HB.out.size
    have HBX := Lib.hid (HB3.out.trans (HB.out.mono HB3.out.size))
    have hgl : ((B ++ fImg p ds fs n (A.take k)).map (toL c)).length = B.length + k := by rw [List.length_map, List.length_append, fImg_len, List.length_take]; omega
    obtain ⟨ao, co, hov⟩ := Sl.shape HG.out.l2
    rw [hgl] at hov
    subst hov
    have HGL := Lib.hid hgl
    clear hgl
    by_cases hlt : k < A.length
    · have hkl : k < (A.map (toL d)).length := by rw [List.length_map]; exact hlt
      refine Sl.cases HLA.out (fun _ _ hx _ => absurd hkl (by simp [hx])) (fun b o c2 hvv _ _ hcell => ?_)
      injection hvv with e1 e2 e3
      clear e2
      subst e1 e3
      obtain ⟨ur, hur, hrr0⟩ := hcell k hkl
      obtain ⟨u, hu⟩ : ∃ u, u = A[k] := ⟨_, rfl⟩
      rw [List.getElem_map] at hrr0
      have HRR : Hid (L1 0 w3 ur (toL d u)) := Lib.hid (by rw [hu]; exact hrr0)
      have HUM : Hid (Lin.Md p u) := Lib.hid (by rw [hu]; exact HR1.out.1.md _ (List.getElem_mem hlt))
      have HTK : Hid ((B ++ fImg p ds fs n (A.take (k + 1))).map (toL c) = (B ++ fImg p ds fs n (A.take k)).map (toL c) ++ [toL c (dimg p d t u)]) := Lib.hid (by rw [fImg_take hlt, ← List.append_assoc, List.map_append, ← HD.out, ← HT.out, hu]; rfl)
      have HAP := Lib.hid (dimg_apT (u := u) HCX.out.1.prime HTL.out HTR.out HUM.out)
      have HUR : Hid (∀ W, Below w3.heap.size w3 W → W.cell? ⟨b, o + k, none⟩ = some ur) := Lib.hid (fun W h => later h (Nat.le_refl _) hur)
      have HNA : Hid (∀ W, Below w3.heap.size w3 W → Below w1.heap.size w1 W) := Lib.hid (fun W h => HB3.out.trans (h.mono HB3.out.size))
      have HIM : Hid (∀ W, Below w3.heap.size w3 W → Calls Tryd.prog 60 #[.agg #[.int .i64 p, .slice ad ds.length cap, .slice am ms.length capm], .agg #[.int .i64 p, .slice ad2 ds2.length cap2, .slice am2 ms2.length capm2], .slice af fs.length cf, .int .i64 (n : Int), .int .i64 0, ur] W (ApG p c (toL d u) t W)) := Lib.hid (fun W hb => by
        have h0 := HNX.out W (HNA.out W hb)
        have := l04Image_any p p 0 n c _ _ _ _ _ ur ds ms ds2 ms2 fs (toL d u) W h0.1.cx h0.2.1.cx h0.2.2 (HRR.out.below hb) HCY.out HNF.out (by omega) (by omega) HZC.out (by rw [← HT.out]; exact HAP.out.1) (by rw [toL_length]; omega)
        rwa [← HT.out] at this)
      obtain ⟨aur, cur, hurs⟩ := Sl.shape hrr0
      rw [toL_length] at hurs
      subst hurs
      clear hcell hur hrr0 hu hkl
      go_upto_region 6 with fail
      refine wp_region_held (S := fun W => Below w3.heap.size w3 W) (by kernel_rfl) ?_
      have S0 : Below w3.heap.size w3 wx.drew := HB.out.drew
      change wpAnyH _ _ _ _ _ _ _ _ wx.drew
      have HGD := Lib.hid (HG.out.below (Below.refl wx.heap.size wx).drew)
      obtain ⟨wd, hwd⟩ : ∃ wd, wd = wx.drew := ⟨_, rfl⟩
      rw [← hwd] at S0 HGD ⊢
      clear hwd
      refine held_take (i := 0) (v := .slice ao (B.length + k) co) (some 28) rfl rfl (by kernel_rfl) (by kernel_rfl) (by kernel_rfl) (fun _ _ _ h => h) (yieldsIf_move (by kernel_rfl) rfl (by kernel_rfl)) S0 ?_
      refine held_take (i := 1) (v := .agg #[.int .i64 p, .slice ad ds.length cap, .slice am ms.length capm]) (some 29) rfl rfl (by kernel_rfl) (by kernel_rfl) (by kernel_rfl) (fun _ _ _ h => h) (yieldsIf_cell (by kernel_rfl) rfl (by kernel_rfl) (fun W h => hload3x (HNX.out W (HNA.out W h)).1)) S0 ?_
      refine held_take (i := 2) (v := .agg #[.int .i64 p, .slice ad2 ds2.length cap2, .slice am2 ms2.length capm2]) (some 30) rfl rfl (by kernel_rfl) (by kernel_rfl) (by kernel_rfl) (fun _ _ _ h => h) (yieldsIf_cell (by kernel_rfl) rfl (by kernel_rfl) (fun W h => hload3x (HNX.out W (HNA.out W h)).2.1)) S0 ?_
      refine held_take (i := 3) (v := .slice af fs.length cf) (some 31) rfl rfl (by kernel_rfl) (by kernel_rfl) (by kernel_rfl) (fun _ _ _ h => h) (yieldsIf_move (by kernel_rfl) rfl (by kernel_rfl)) S0 ?_
      refine held_take (i := 4) (v := .int .i64 (n : Int)) (some 32) rfl rfl (by kernel_rfl) (by kernel_rfl) (by kernel_rfl) (fun _ _ _ h => h) (yieldsIf_move (by kernel_rfl) rfl (by kernel_rfl)) S0 ?_
      refine held_take (i := 5) (v := .slice (some ⟨b, o, none⟩) A.length cA) (some 33) rfl rfl (by kernel_rfl) (by kernel_rfl) (by kernel_rfl) (fun _ _ _ h => h) (yieldsIf_move (by kernel_rfl) rfl (by kernel_rfl)) S0 ?_
      refine held_take (i := 6) (v := .int .i64 (k : Int)) (some 34) rfl rfl (by kernel_rfl) (by kernel_rfl) (by kernel_rfl) (fun _ _ _ h => h) (yieldsIf_move (by kernel_rfl) rfl (by kernel_rfl)) S0 ?_
      refine held_take (i := 7) (v := .pointer (some ⟨b, o + k, none⟩)) (some 35) rfl rfl (by kernel_rfl) (by kernel_rfl) (by kernel_rfl) (fun _ _ _ h => h) (yieldsIf_index (by kernel_rfl) rfl (by kernel_rfl) (by kernel_rfl) (hidxS b o cA hlt)) S0 ?_
      refine held_take (i := 8) (v := .slice aur d cur) (some 36) rfl rfl (by kernel_rfl) (by kernel_rfl) (by kernel_rfl) (fun _ _ _ h => h) (yieldsIf_cell (by kernel_rfl) rfl (by kernel_rfl) (fun W h => hloadS W (HUR.out W h))) S0 ?_
      refine held_enter (i := 9) (some 37) (f := 60) (args := #[.agg #[.int .i64 p, .slice ad ds.length cap, .slice am ms.length capm], .agg #[.int .i64 p, .slice ad2 ds2.length cap2, .slice am2 ms2.length capm2], .slice af fs.length cf, .int .i64 (n : Int), .int .i64 0, .slice aur d cur]) (by kernel_rfl) rfl rfl rfl (by kernel_rfl) (HIM.out _ S0) ?_ (fun c w' h => by obtain ⟨_, h, _⟩ := h; cases h) (fun w' h => by obtain ⟨_, h, _⟩ := h; cases h)
      rintro ee W6 ⟨u6, he, hg6, hb6⟩
      injection he with he
      subst he
      rw [HAP.out.2] at hg6
      have S3 : Below w3.heap.size w3 W6 := S0.trans (hb6.mono S0.size)
      have HG6 := Lib.hid (HGD.out.below hb6)
      obtain ⟨a6, c6, hv6⟩ := l1_slice hg6.l1
      subst hv6
      have HR6 := Lib.hid hg6
      refine ⟨S3, ?_⟩
      have hba : Below W6.heap.size W6 (W6.alloc (.cells #[.slice a6 c c6] 22)) := below_alloc1 _ _
      have S4 : Below w3.heap.size w3 (W6.alloc (.cells #[.slice a6 c c6] 22)) := S3.trans (hba.mono S3.size)
      refine held_buildS (i := 10) (some 38) (by kernel_rfl) rfl rfl rfl (.tmp 37) a6 c c6 rfl (by kernel_rfl) ⟨S4, ?_⟩
      refine held_appendG (i := 11) (some 39) (by kernel_rfl) rfl rfl rfl (.tmp 28) (.tmp 38) rfl w3.heap.size (.slice ao (B.length + k) co) _ (by kernel_rfl) (HG6.out.below hba) W6.heap.size a6 c c6 (by kernel_rfl) (cell_alloc1 W6 _ _) (toL c (dimg p d t u)) (HR6.out.below hba) (by rw [HGL.out]; omega) S4.size ?_
      intro v7 W7 hg7 hb7
      have S5 : Below w3.heap.size w3 W7 := S4.trans hb7
      have HG7 : Hid (Gs w3.heap.size W7 v7 ((B ++ fImg p ds fs n (A.take (k + 1))).map (toL c))) := Lib.hid (by rw [HTK.out]; exact hg7)
      have HB7 := Lib.hid S5
      refine ⟨S5, ?_⟩
      refine held_take (i := 12) (v := v7) (some 11) rfl rfl (by kernel_rfl) (by kernel_rfl) (by kernel_rfl) (fun _ _ _ h => h) (yieldsIf_assign (by kernel_rfl) rfl (by kernel_rfl)) S5 ?_
      refine wpAnyH_done (by kernel_rfl) ?_ _
      simp only [Act.put, List.setIfInBounds_toArray, List.set_cons_zero, List.set_cons_succ]
      clear S0 S3 S4 S5 hb6 hg6 hba hg7 hb7
      go_wp2
      go_roundw
      case rel => exact ⟨k + 1, by omega, by go_num, HB7, HG7⟩
      case measure => simp [intOf]; omega
    · have hke : Hid (A.take k = A) := Lib.hid (List.take_of_length_le (by omega))
      have HN4 := Lib.hid (HNX.out _ HBX.out)
      have c0 := HN4.out.1.c0
      have HLL2 : Hid (L2 0 wx (.slice ao (B.length + k) co) ((B ++ fImg p ds fs n A).map (toL c))) := Lib.hid (by have := HG.out.l2; rwa [hke.out] at this)
      have HEC := Lib.hid (l01Echelon_any p c _ (B ++ fImg p ds fs n A) wx HCX.out.1.prime HLL2.out (fun u hu => (List.mem_append.1 hu).elim (HR2.out.1.md u) (fImg_md hp0 n A u)) (fun u hu => by rw [HC.out]; exact (List.mem_append.1 hu).elim (HR2.out.2.1 u) (fImg_wd HCX.out HCY.out HLL.out HFO.out hn A u)) (by omega) (by rw [List.length_append, fImg_len]; omega))
      go_wp2_with fail
      refine HEC.out.mono ?_
      rintro e w8 ⟨u8, E, rfl, hg8, hb8, hr8, hel⟩
      rw [List.length_append, fImg_len] at hel
      obtain ⟨a8, c8, hv⟩ := Sl.shape hg8.l2
      rw [List.length_map] at hv
      subst hv
      have HB8 := Lib.hid (HN4.out.1.below.trans (hb8.mono HN4.out.1.below.size))
      have HR8 := Lib.hid hr8
      have hsb : ∀ w, (binOp .sub 3 (.int .i64 (E.length : Int)) (.int .i64 (B.length : Int))).run Tryd.prog w = .ok (.int .i64 ((E.length : Int) - (B.length : Int))) w := fun w => hsubDs (by omega) (by omega) w
      clear hb8 hg8 hr8 c0 HEC
      go_wp2
      go_ret
      exact ⟨_, rfl, HB8.out, rk_close HCX.out HCY.out HLL.out HFO.out hn HR1.out HR2.out HR8.out.red (HR8.out.eqv.trans (app_swap hp0 (fImg_md hp0 n A) (fun u hu => HR2.out.1.md u hu)))⟩
end Go.Proofs.YtpchbceohnabnabDoor


namespace Go.Proofs.YtpchbceohnabnabDoor
open Go.RowKit

/-- The code of InducedRank. -/
noncomputable def irCode (p p2 n : Int) (ds : List Int) (ms : List (List (List Int))) (ds2 : List Int) (ms2 fs : List (List (List Int))) : Int :=
  if famCode p p2 0 ds ms ds2 ms2 fs = 0 then (if 0 ≤ n ∧ n ≤ (ds.length : Int) - 1 then mapCode 0 (ChainOk p ds ms ds2 ms2 fs) else 2) else famCode p p2 0 ds ms ds2 ms2 fs
section
variable {p p2 n : Int} {ds : List Int} {ms : List (List (List Int))} {ds2 : List Int} {ms2 fs : List (List (List Int))}
theorem irCode_ne (h : famCode p p2 0 ds ms ds2 ms2 fs ≠ 0) : irCode p p2 n ds ms ds2 ms2 fs = famCode p p2 0 ds ms ds2 ms2 fs := by unfold irCode; rw [if_neg h]
theorem irCode_zero (h : irCode p p2 n ds ms ds2 ms2 fs = 0) : famCode p p2 0 ds ms ds2 ms2 fs = 0 := by
  by_cases h0 : famCode p p2 0 ds ms ds2 ms2 fs = 0
  · exact h0
  · rw [irCode_ne h0] at h; exact absurd h h0
/-- The answers of InducedRank. -/
def IrO (p p2 n : Int) (ds : List Int) (ms : List (List (List Int))) (ds2 : List Int) (ms2 fs : List (List (List Int))) (a c : Int) : Prop :=
  c = irCode p p2 n ds ms ds2 ms2 fs ∧ (c ≠ 0 → a = 0) ∧ (c = 0 → RkInd p ds ms ds2 ms2 fs n.toNat a)
theorem IrO.unique {a a2 c c2 : Int} (h : IrO p p2 n ds ms ds2 ms2 fs a c) (k : IrO p p2 n ds ms ds2 ms2 fs a2 c2) : a = a2 ∧ c = c2 := by
  have e : c = c2 := h.1.trans k.1.symm
  refine ⟨?_, e⟩
  by_cases h0 : c = 0
  · have hp := (famCode_zero (irCode_zero (h.1.symm.trans h0))).1.x.1.prime.lo1
    exact (h.2.2 h0).unique hp (k.2.2 (e.symm.trans h0))
  · rw [h.2.1 h0, k.2.1 (fun hh => h0 (e.trans hh))]
end

end Go.Proofs.YtpchbceohnabnabDoor


namespace Go.Proofs.YtpchbceohnabnabDoor
open Go.RowKit

section
variable {p p2 : Int} {ds : List Int} {ms : List (List (List Int))} {ds2 : List Int} {ms2 fs : List (List (List Int))}
/-- In the degree n a family's rank is both homology numbers. -/
def QuAt (p : Int) (ds : List Int) (ms : List (List (List Int))) (ds2 : List Int) (ms2 fs : List (List (List Int))) (n : Nat) : Prop := ∃ r, RkInd p ds ms ds2 ms2 fs n r ∧ HNum p ds ms n r ∧ HNum p ds2 ms2 n r
/-- The answers of IsQuasi. -/
def QuS (p p2 : Int) (ds : List Int) (ms : List (List (List Int))) (ds2 : List Int) (ms2 fs : List (List (List Int))) (b : Bool) (c : Int) : Prop := c = mapCode (famCode p p2 0 ds ms ds2 ms2 fs) (AllCh p ds ms ds2 ms2 1 (fun _ => fs)) ∧ (b = true ↔ mapCode (famCode p p2 0 ds ms ds2 ms2 fs) (AllCh p ds ms ds2 ms2 1 (fun _ => fs)) = 0 ∧ ∀ n, n < ds.length → QuAt p ds ms ds2 ms2 fs n)
theorem QuS.unique {b b2 : Bool} {c c2 : Int} (h : QuS p p2 ds ms ds2 ms2 fs b c) (k : QuS p p2 ds ms ds2 ms2 fs b2 c2) : b = b2 ∧ c = c2 := by
  obtain ⟨h1, h2⟩ := h
  obtain ⟨k1, k2⟩ := k
  refine ⟨?_, h1.trans k1.symm⟩
  exact Bool.eq_iff_iff.2 (h2.trans k2.symm)
end

end Go.Proofs.YtpchbceohnabnabDoor


namespace Go.Proofs.YtpchbceohnabnabDoor
open Go.RowKit

theorem cell_new1' (W : World) (v : Value) (t : TypeId) : (W.alloc (.cells #[v] t)).cell? ⟨W.heap.size, 0, none⟩ = some v := by simp
theorem Sl.at0 {α : Type} {lo : Nat} {R : World → Value → α → Prop} {w : World} {v : Value} {xs : List α} (h : Sl lo R w v xs) {k : Nat} (hk : k < xs.length) : ∃ b o cap u, v = .slice (some ⟨b, o, none⟩) xs.length cap ∧ w.cell? ⟨b, o + k, none⟩ = some u ∧ R w u xs[k] := by
  refine Sl.cases h (fun _ _ hx _ => absurd hk (by simp [hx])) (fun b o cap hv _ _ hc => ?_)
  obtain ⟨u, hu, hr⟩ := hc k hk
  exact ⟨b, o, cap, u, hv, hu, hr⟩
theorem slice_some {ad : Option Addr} {n m cap cap2 b o : Nat} (h : Value.slice ad n cap = .slice (some ⟨b, o, none⟩) m cap2) : ad = some ⟨b, o, none⟩ ∧ n = m ∧ cap = cap2 := by
  injection h with a b c
  exact ⟨a, b, c⟩
/-- Families of one shape: m tables of rs rows of cs numbers, all small. -/
structure Fs6 (m : Nat) (rs cs : Nat → Nat) (fs : List (List (List Int))) : Prop where
  len : fs.length = m
  rows : ∀ n, n < m → (fs.getD n []).length = rs n
  cols : ∀ n, n < m → ∀ i, i < rs n → ((fs.getD n []).getD i []).length = cs n
  nums : ∀ n, n < m → ∀ i, i < rs n → ∀ q, q < cs n → 0 ≤ ((fs.getD n []).getD i []).getD q 0 ∧ ((fs.getD n []).getD i []).getD q 0 ≤ 6
theorem famL_succ (m : Nat) (rs cs : Nat → Nat) (Z : Nat → Nat → Nat → Int) : famL (m + 1) rs cs Z = famL m rs cs Z ++ [tableOf (rs m) (cs m) (Z m)] := by simp [famL, List.range_succ]
/-- Table n of a family of that shape in memory. -/
theorem Fs6.tab {m : Nat} {rs cs : Nat → Nat} {fs : List (List (List Int))} (h : Fs6 m rs cs fs) {w : World} {v : Value} (hv : L3 0 w v fs) {n : Nat} (hn : n < m) : ∃ b o cap ad ct, v = .slice (some ⟨b, o, none⟩) m cap ∧ w.cell? ⟨b, o + n, none⟩ = some (.slice ad (rs n) ct) ∧ L2 0 w (.slice ad (rs n) ct) (fs.getD n []) := by
  have hn' : n < fs.length := by rw [h.len]; exact hn
  obtain ⟨b, o, cap, u, e, hu, hr⟩ := hv.at0 hn'
  obtain ⟨ad, ct, rfl⟩ := Sl.shape hr
  rw [← getD_of_lt [] hn'] at hr hu
  rw [h.rows n hn] at hr hu
  rw [h.len] at e
  exact ⟨b, o, cap, ad, ct, e, hu, hr⟩
theorem Fs6.row {m : Nat} {rs cs : Nat → Nat} {fs : List (List (List Int))} (h : Fs6 m rs cs fs) {w : World} {v : Value} {n : Nat} (hn : n < m) (hv : L2 0 w v (fs.getD n [])) {i : Nat} (hi : i < rs n) : ∃ b o cap ad ct, v = .slice (some ⟨b, o, none⟩) (rs n) cap ∧ w.cell? ⟨b, o + i, none⟩ = some (.slice ad (cs n) ct) ∧ L1 0 w (.slice ad (cs n) ct) ((fs.getD n []).getD i []) := by
  have hi' : i < (fs.getD n []).length := by rw [h.rows n hn]; exact hi
  obtain ⟨b, o, cap, u, e, hu, hr⟩ := hv.at0 hi'
  obtain ⟨ad, ct, rfl⟩ := Sl.shape hr
  rw [← getD_of_lt [] hi'] at hr hu
  rw [h.cols n hn i hi] at hr hu
  rw [h.rows n hn] at e
  exact ⟨b, o, cap, ad, ct, e, hu, hr⟩
theorem Fs6.num {m : Nat} {rs cs : Nat → Nat} {fs : List (List (List Int))} (h : Fs6 m rs cs fs) {w : World} {v : Value} {n : Nat} (hn : n < m) {i : Nat} (hi : i < rs n) (hv : L1 0 w v ((fs.getD n []).getD i [])) {q : Nat} (hq : q < cs n) : ∃ b o cap, v = .slice (some ⟨b, o, none⟩) (cs n) cap ∧ w.cell? ⟨b, o + q, none⟩ = some (.int .i64 (((fs.getD n []).getD i []).getD q 0)) := by
  have hq' : q < ((fs.getD n []).getD i []).length := by rw [h.cols n hn i hi]; exact hq
  obtain ⟨b, o, cap, u, e, hu, hr⟩ := hv.at0 hq'
  rw [h.cols n hn i hi] at e
  rw [getD_of_lt 0 hq']
  rw [hr] at hu
  exact ⟨b, o, cap, e, hu⟩

set_option maxHeartbeats 6400000 in
set_option maxRecDepth 100000 in
theorem l04Sum_any (p k : Int) (m : Nat) (rs cs : Nat → Nat) (fv gv : Value) (fs gs : List (List (List Int))) (w : World) (hf : L3 0 w fv fs) (hg : L3 0 w gv gs) (h6 : Fs6 m rs cs fs) (h7 : Fs6 m rs cs gs) (hp : IsP p) (hk : -6 ≤ k ∧ k ≤ 6) (hm : m ≤ 100) (hrs : ∀ n, n < m → rs n ≤ 100 ∧ cs n ≤ 100) :
    Calls Tryd.prog 57 #[.int .i64 p, fv, gv, .int .i64 k] w (Gt3R (famL m rs cs (afZ p k fs gs)) w) := by
  obtain ⟨af, cf, rfl⟩ := Sl.shape hf
  obtain ⟨ag, cg, rfl⟩ := Sl.shape hg
  rw [h6.len] at hf ⊢
  rw [h7.len] at hg ⊢
  have HF := Lib.hid hf
  have HG := Lib.hid hg
  have H6 := Lib.hid h6
  have H7 := Lib.hid h7
  have HPR := Lib.hid hp
  have HRS := Lib.hid hrs
  have HT0 := Lib.hid (Gt.new (base := w.heap.size) w (Nat.le_refl _))
  have hp27 : 2 ≤ p ∧ p ≤ 7 := ⟨hp.lo, hp.hi⟩
  obtain ⟨hk0, hk1⟩ := hk
  clear hf hg h6 h7 hp hrs
  go_enter Tryd.func57, Tryd.ntmps57
  go_wp2
  go_loopw [9, 10, 11, 12, 13, 14] (fun ov i _ _ _ _ wr => ∃ (n : Nat) (ao : Option Addr) (co : Nat), n ≤ m ∧ ov = .slice ao n co ∧ i = .int .i64 n ∧ Hid (Below w.heap.size w wr) ∧ Hid (Gt w.heap.size wr ov (famL n rs cs (afZ p k fs gs)))) (fun _ i _ _ _ _ _ => m - (intOf i).toNat)
  case atStart => exact ⟨0, _, _, Nat.zero_le _, rfl, rfl, Lib.hid (below_alloc1 _ _), Lib.hid (by simpa [famL] using HT0.out)⟩
  case round =>
    clear HT0
    obtain ⟨n, ao, co, hn, rfl, rfl, HB, HGT⟩ := hrel
    obtain ⟨wx, hwx⟩ : ∃ wx : World, wx = wr := ⟨_, rfl⟩
    subst hwx
    have hwx0 : w.heap.size ≤ wx.heap.size := HB.out.size
    by_cases hltm : n < m
    · obtain ⟨bf, of, cf', at', ct, e1, F1, F1L⟩ := H6.out.tab HF.out hltm
      obtain ⟨e2, _, e3⟩ := slice_some e1
      subst e2 e3
      obtain ⟨bf2, of2, cf2', at2, ct2, e1, G1, G1L⟩ := H7.out.tab HG.out hltm
      obtain ⟨e2, _, e3⟩ := slice_some e1
      subst e2 e3
      have F1H := Lib.hid F1L
      have G1H := Lib.hid G1L
      obtain ⟨r, hr⟩ : ∃ r, r = rs n := ⟨_, rfl⟩
      have HR := Lib.hid hr
      have hrb := HRS.out n hltm
      rw [← hr] at F1 G1 F1H G1H hrb
      obtain ⟨hr100, hc100⟩ := hrb
      have f1 := later HB.out (Nat.le_refl _) F1
      have HS0 := Lib.hid (Gs.new (base := wx.heap.size) wx (Nat.le_refl _))
      have F1c := Lib.hid F1
      have G1c := Lib.hid G1
      clear e1 F1L G1L F1 G1 hr
      go_wp2
      clear f1
      go_loopw [11, 12, 13, 14] (fun tv i _ _ wr => ∃ (j : Nat) (a2 : Option Addr) (c2 : Nat), j ≤ r ∧ tv = .slice a2 j c2 ∧ i = .int .i64 j ∧ Hid (Below wx.heap.size wx wr) ∧ Hid (Gs wx.heap.size wr tv (tableOf j (cs n) (afZ p k fs gs n)))) (fun _ i _ _ _ => r - (intOf i).toNat)
      case atStart => exact ⟨0, _, _, Nat.zero_le _, rfl, rfl, Lib.hid (below_alloc1 _ _), Lib.hid (by simpa [tableOf] using HS0.out)⟩
      case round =>
        clear HS0
        obtain ⟨i, a2, c2, hi, rfl, rfl, HBY, HGS⟩ := hrel
        obtain ⟨wy, hwy'⟩ : ∃ wy : World, wy = wr := ⟨_, rfl⟩
        subst hwy'
        have HBW : Hid (Below w.heap.size w wy) := Lib.hid (HB.out.trans (HBY.out.mono hwx0))
        have hwy : w.heap.size ≤ wy.heap.size := HBW.out.size
        have hxy : wx.heap.size ≤ wy.heap.size := HBY.out.size
        have f1 := later HBW.out (Nat.le_refl _) F1c.out
        by_cases hlti : i < r
        · obtain ⟨bt, ot, ct', ar, cr, e1, F2, F2L⟩ := H6.out.row hltm F1H.out (by rw [← HR.out]; exact hlti)
          rw [← HR.out] at e1
          obtain ⟨e2, _, e3⟩ := slice_some e1
          subst e2 e3
          obtain ⟨bt2, ot2, ct2', ar2, cr2, e1, G2, G2L⟩ := H7.out.row hltm G1H.out (by rw [← HR.out]; exact hlti)
          rw [← HR.out] at e1
          obtain ⟨e2, _, e3⟩ := slice_some e1
          subst e2 e3
          obtain ⟨c, hc⟩ : ∃ c, c = cs n := ⟨_, rfl⟩
          have HC := Lib.hid hc
          rw [← hc] at F2 G2 F2L G2L hc100
          have F2H := Lib.hid F2L
          have G2H := Lib.hid G2L
          have F2c := Lib.hid F2
          have G2c := Lib.hid G2
          have f2 := later HBW.out (Nat.le_refl _) F2
          have HB0 := Lib.hid (Gb.new (base := wy.heap.size) wy (Nat.le_refl _))
          clear e1 F2 G2 F2L G2L hc
          go_wp2
          clear f1 f2
          go_loopw [13, 14] (fun rv i2 wr => ∃ (q : Nat) (aq : Option Addr) (cq : Nat), q ≤ c ∧ rv = .slice aq q cq ∧ i2 = .int .i64 q ∧ Hid (Below wy.heap.size wy wr) ∧ Hid (Gb wy.heap.size wr rv ((List.range q).map (afZ p k fs gs n i)))) (fun _ i _ => c - (intOf i).toNat)
          case atStart => exact ⟨0, _, _, Nat.zero_le _, rfl, rfl, Lib.hid (below_alloc1 _ _), Lib.hid (by simpa using HB0.out)⟩
          case round =>
            clear HB0
            obtain ⟨q, aq, cq, hq, rfl, rfl, HBZ, HROW⟩ := hrel
            obtain ⟨wz, hwz⟩ : ∃ wz : World, wz = wr := ⟨_, rfl⟩
            subst hwz
            have HBWZ : Hid (Below w.heap.size w wz) := Lib.hid (HBW.out.trans (HBZ.out.mono hwy))
            have HQL : Hid (((List.range q).map (afZ p k fs gs n i)).length = q) := Lib.hid (by simp)
            have f1 := later HBWZ.out (Nat.le_refl _) F1c.out
            have f2 := later HBWZ.out (Nat.le_refl _) F2c.out
            by_cases hltq : q < c
            · obtain ⟨br, or, cr', e1, F3⟩ := H6.out.num hltm (by rw [← HR.out]; exact hlti) F2H.out (by rw [← HC.out]; exact hltq)
              rw [← HC.out] at e1
              obtain ⟨e2, _, e3⟩ := slice_some e1
              subst e2 e3
              obtain ⟨br2, or2, cr2', e1, G3⟩ := H7.out.num hltm (by rw [← HR.out]; exact hlti) G2H.out (by rw [← HC.out]; exact hltq)
              rw [← HC.out] at e1
              obtain ⟨e2, _, e3⟩ := slice_some e1
              subst e2 e3
              obtain ⟨x, hx⟩ : ∃ x, x = ((fs.getD n []).getD i []).getD q 0 := ⟨_, rfl⟩
              obtain ⟨y, hy⟩ : ∃ y, y = ((gs.getD n []).getD i []).getD q 0 := ⟨_, rfl⟩
              have hxb := H6.out.nums n hltm i (by rw [← HR.out]; exact hlti) q (by rw [← HC.out]; exact hltq)
              have hyb := H7.out.nums n hltm i (by rw [← HR.out]; exact hlti) q (by rw [← HC.out]; exact hltq)
              rw [← hx] at F3 hxb
              rw [← hy] at G3 hyb
              have HVAL : Hid ((x + k * y) % p = afZ p k fs gs n i q) := Lib.hid (by rw [hx, hy]; rfl)
              obtain ⟨hx0, hx1⟩ := hxb
              obtain ⟨hy0, hy1⟩ := hyb
              have m0 : -36 ≤ k * y := by have := Int.mul_le_mul_of_nonneg_right hk0 hy0; omega
              have m1 : k * y ≤ 36 := by have := Int.mul_le_mul_of_nonneg_right hk1 hy0; omega
              clear hx hy e1
              go_upto_region 13 with fail
              have S0 : Below w.heap.size w wz.drew := HBWZ.out.drew
              have f3 := F3
              have g3 := G3
              have f1 := F1c.out
              have f2 := F2c.out
              have g1 := G1c.out
              have g2 := G2c.out
              refine wp_region_held (S := fun W => Below w.heap.size w W) (by kernel_rfl) ?_
              refine held_take (i := 0) (v := .slice aq q cq) (some 45) rfl rfl (by kernel_rfl) (by kernel_rfl) (by kernel_rfl) (fun _ _ _ h => h) (yieldsIf_move (by kernel_rfl) rfl (by kernel_rfl)) S0 ?_
              refine held_take (i := 1) (v := .int .i64 p) (some 46) rfl rfl (by kernel_rfl) (by kernel_rfl) (by kernel_rfl) (fun _ _ _ h => h) (yieldsIf_move (by kernel_rfl) rfl (by kernel_rfl)) S0 ?_
              refine held_take (i := 2) (v := .slice (some ⟨bf, of, none⟩) m cf) (some 47) rfl rfl (by kernel_rfl) (by kernel_rfl) (by kernel_rfl) (fun _ _ _ h => h) (yieldsIf_move (by kernel_rfl) rfl (by kernel_rfl)) S0 ?_
              refine held_take (i := 3) (v := .int .i64 (n : Int)) (some 48) rfl rfl (by kernel_rfl) (by kernel_rfl) (by kernel_rfl) (fun _ _ _ h => h) (yieldsIf_move (by kernel_rfl) rfl (by kernel_rfl)) S0 ?_
              refine held_take (i := 4) (v := .pointer (some ⟨bf, of + n, none⟩)) (some 49) rfl rfl (by kernel_rfl) (by kernel_rfl) (by kernel_rfl) (fun _ _ _ h => h) (yieldsIf_index (by kernel_rfl) rfl (by kernel_rfl) (by kernel_rfl) (hidxU bf of cf hltm)) S0 ?_
              refine held_take (i := 5) (v := .slice (some ⟨bt, ot, none⟩) r ct) (some 50) rfl rfl (by kernel_rfl) (by kernel_rfl) (by kernel_rfl) (fun _ _ _ h => h) (yieldsIf_cell (by kernel_rfl) rfl (by kernel_rfl) (fun W h => hloadSS W (later h (Nat.le_refl _) f1))) S0 ?_
              refine held_take (i := 6) (v := .int .i64 (i : Int)) (some 51) rfl rfl (by kernel_rfl) (by kernel_rfl) (by kernel_rfl) (fun _ _ _ h => h) (yieldsIf_move (by kernel_rfl) rfl (by kernel_rfl)) S0 ?_
              refine held_take (i := 7) (v := .pointer (some ⟨bt, ot + i, none⟩)) (some 52) rfl rfl (by kernel_rfl) (by kernel_rfl) (by kernel_rfl) (fun _ _ _ h => h) (yieldsIf_index (by kernel_rfl) rfl (by kernel_rfl) (by kernel_rfl) (hidxS bt ot ct hlti)) S0 ?_
              refine held_take (i := 8) (v := .slice (some ⟨br, or, none⟩) c cr) (some 53) rfl rfl (by kernel_rfl) (by kernel_rfl) (by kernel_rfl) (fun _ _ _ h => h) (yieldsIf_cell (by kernel_rfl) rfl (by kernel_rfl) (fun W h => hloadS W (later h (Nat.le_refl _) f2))) S0 ?_
              refine held_take (i := 9) (v := .int .i64 (q : Int)) (some 54) rfl rfl (by kernel_rfl) (by kernel_rfl) (by kernel_rfl) (fun _ _ _ h => h) (yieldsIf_move (by kernel_rfl) rfl (by kernel_rfl)) S0 ?_
              refine held_take (i := 10) (v := .pointer (some ⟨br, or + q, none⟩)) (some 55) rfl rfl (by kernel_rfl) (by kernel_rfl) (by kernel_rfl) (fun _ _ _ h => h) (yieldsIf_index (by kernel_rfl) rfl (by kernel_rfl) (by kernel_rfl) (hidxI br or cr hltq)) S0 ?_
              refine held_take (i := 11) (v := .int .i64 x) (some 56) rfl rfl (by kernel_rfl) (by kernel_rfl) (by kernel_rfl) (fun _ _ _ h => h) (yieldsIf_cell (by kernel_rfl) rfl (by kernel_rfl) (fun W h => hload W (later h (Nat.le_refl _) f3))) S0 ?_
              refine held_take (i := 12) (v := .int .i64 k) (some 57) rfl rfl (by kernel_rfl) (by kernel_rfl) (by kernel_rfl) (fun _ _ _ h => h) (yieldsIf_move (by kernel_rfl) rfl (by kernel_rfl)) S0 ?_
              refine held_take (i := 13) (v := .slice (some ⟨bf2, of2, none⟩) m cg) (some 58) rfl rfl (by kernel_rfl) (by kernel_rfl) (by kernel_rfl) (fun _ _ _ h => h) (yieldsIf_move (by kernel_rfl) rfl (by kernel_rfl)) S0 ?_
              refine held_take (i := 14) (v := .int .i64 (n : Int)) (some 59) rfl rfl (by kernel_rfl) (by kernel_rfl) (by kernel_rfl) (fun _ _ _ h => h) (yieldsIf_move (by kernel_rfl) rfl (by kernel_rfl)) S0 ?_
              refine held_take (i := 15) (v := .pointer (some ⟨bf2, of2 + n, none⟩)) (some 60) rfl rfl (by kernel_rfl) (by kernel_rfl) (by kernel_rfl) (fun _ _ _ h => h) (yieldsIf_index (by kernel_rfl) rfl (by kernel_rfl) (by kernel_rfl) (hidxU bf2 of2 cg hltm)) S0 ?_
              refine held_take (i := 16) (v := .slice (some ⟨bt2, ot2, none⟩) r ct2) (some 61) rfl rfl (by kernel_rfl) (by kernel_rfl) (by kernel_rfl) (fun _ _ _ h => h) (yieldsIf_cell (by kernel_rfl) rfl (by kernel_rfl) (fun W h => hloadSS W (later h (Nat.le_refl _) g1))) S0 ?_
              refine held_take (i := 17) (v := .int .i64 (i : Int)) (some 62) rfl rfl (by kernel_rfl) (by kernel_rfl) (by kernel_rfl) (fun _ _ _ h => h) (yieldsIf_move (by kernel_rfl) rfl (by kernel_rfl)) S0 ?_
              refine held_take (i := 18) (v := .pointer (some ⟨bt2, ot2 + i, none⟩)) (some 63) rfl rfl (by kernel_rfl) (by kernel_rfl) (by kernel_rfl) (fun _ _ _ h => h) (yieldsIf_index (by kernel_rfl) rfl (by kernel_rfl) (by kernel_rfl) (hidxS bt2 ot2 ct2 hlti)) S0 ?_
              refine held_take (i := 19) (v := .slice (some ⟨br2, or2, none⟩) c cr2) (some 64) rfl rfl (by kernel_rfl) (by kernel_rfl) (by kernel_rfl) (fun _ _ _ h => h) (yieldsIf_cell (by kernel_rfl) rfl (by kernel_rfl) (fun W h => hloadS W (later h (Nat.le_refl _) g2))) S0 ?_
              refine held_take (i := 20) (v := .int .i64 (q : Int)) (some 65) rfl rfl (by kernel_rfl) (by kernel_rfl) (by kernel_rfl) (fun _ _ _ h => h) (yieldsIf_move (by kernel_rfl) rfl (by kernel_rfl)) S0 ?_
              refine held_take (i := 21) (v := .pointer (some ⟨br2, or2 + q, none⟩)) (some 66) rfl rfl (by kernel_rfl) (by kernel_rfl) (by kernel_rfl) (fun _ _ _ h => h) (yieldsIf_index (by kernel_rfl) rfl (by kernel_rfl) (by kernel_rfl) (hidxI br2 or2 cr2 hltq)) S0 ?_
              refine held_take (i := 22) (v := .int .i64 y) (some 67) rfl rfl (by kernel_rfl) (by kernel_rfl) (by kernel_rfl) (fun _ _ _ h => h) (yieldsIf_cell (by kernel_rfl) rfl (by kernel_rfl) (fun W h => hload W (later h (Nat.le_refl _) g3))) S0 ?_
              refine held_take (i := 23) (v := .int .i64 (k * y)) (some 68) rfl rfl (by kernel_rfl) (by kernel_rfl) (by kernel_rfl) (fun _ _ _ h => h) (yieldsIf_bin (by kernel_rfl) rfl (by kernel_rfl) (by kernel_rfl) (fun _ => rfl) (hmulA (IntWalk.i64_in _ (by omega)))) S0 ?_
              refine held_take (i := 24) (v := .int .i64 (x + k * y)) (some 69) rfl rfl (by kernel_rfl) (by kernel_rfl) (by kernel_rfl) (fun _ _ _ h => h) (yieldsIf_bin (by kernel_rfl) rfl (by kernel_rfl) (by kernel_rfl) (fun _ => rfl) (haddA (IntWalk.i64_in _ (by omega)))) S0 ?_
              refine held_enter (i := 25) (some 70) (f := 74) (args := #[.int .i64 p, .int .i64 (x + k * y)]) (by kernel_rfl) rfl rfl rfl (by kernel_rfl) (l01Mod_any p (x + k * y) _ HPR.out) ?_ (fun c w' h => by cases h.1) (fun w' h => by cases h.1)
              rintro e5 w5 ⟨he5, hw5⟩
              injection he5 with he5
              subst he5 hw5
              refine ⟨S0, ?_⟩
              obtain ⟨we, hwe⟩ : ∃ we, we = wz.drew.alloc (.cells #[.int .i64 ((x + k * y) % p)] 2) := ⟨_, rfl⟩
              have hbe : Below wz.drew.heap.size wz.drew we := by rw [hwe]; exact below_alloc1 _ _
              have hve : we.cell? ⟨wz.drew.heap.size, 0, none⟩ = some (.int .i64 ((x + k * y) % p)) := by rw [hwe]; exact cell_new1' _ _ _
              have S1 : Below w.heap.size w we := S0.trans (hbe.mono S0.size)
              refine held_mem (i := 26) (v := .slice (some ⟨wz.drew.heap.size, 0, none⟩) 1 1) (w' := we) (some 71) (by kernel_rfl) rfl rfl rfl (by rw [hwe]; go_simp) S1 ?_
              simp only [Act.put, List.setIfInBounds_toArray, List.set_cons_zero, List.set_cons_succ]
              have HRE := Lib.hid ((HROW.out.below (Below.refl wz.heap.size wz).drew).below hbe)
              have hsz2 : wy.heap.size ≤ we.heap.size := Nat.le_trans HBZ.out.size hbe.size
              refine held_call (i := 27) (by kernel_rfl) rfl rfl ?_
              refine wp_appendB1 (some 72) rfl (.tmp 45) (.tmp 71) rfl wy.heap.size (.slice aq q cq) ((List.range q).map (afZ p k fs gs n i)) (by kernel_rfl) HRE.out wz.drew.heap.size (by kernel_rfl) ((x + k * y) % p) hve (by rw [HQL.out]; omega) hsz2 ?_
              rw [HQL.out]
              intro g9 c9 w9 hn hgw
              have hbw := (Below.refl wy.heap.size we).grown hgw hsz2 (fun g hg => (HRE.out.lt g hg).1)
              have S2 : Below w.heap.size w w9 := S1.trans (hbw.mono hwy)
              refine ⟨S2, ?_⟩
              refine held_take (i := 28) (v := .slice (some ⟨g9, 0, none⟩) (q + 1) c9) (some 13) rfl rfl (by kernel_rfl) (by kernel_rfl) (by kernel_rfl) (fun _ _ _ h => h) (yieldsIf_assign (by kernel_rfl) rfl (by kernel_rfl)) S2 ?_
              refine wpAnyH_done (by kernel_rfl) ?_ _
              simp only [Act.put, List.setIfInBounds_toArray, List.set_cons_zero, List.set_cons_succ]
              have HR9 : Hid (Gb wy.heap.size w9 (.slice (some ⟨g9, 0, none⟩) (q + 1) c9) ((List.range (q + 1)).map (afZ p k fs gs n i))) := Lib.hid (by rw [List.range_succ, List.map_append, List.map_singleton, ← HVAL.out]; exact hn)
              have HB9 : Hid (Below wy.heap.size wy w9) := Lib.hid ((HBZ.out.trans ((Below.refl wz.heap.size wz).drew.mono HBZ.out.size)).trans ((hbe.mono HBZ.out.size).trans hbw))
              clear hn hgw hbw S0 S1 S2 hve hbe hwe f1 f2 f3 g1 g2 g3 hsz2
              go_wp2
              go_roundw
              case rel => first | exact ⟨q + 1, _, _, by omega, rfl, by go_num, HB9, HR9⟩ | ((repeat apply Exists.intro); exact ⟨⟨q + 1, _, _, by omega, rfl, by go_num, HB9, HR9⟩, rfl⟩)
              case measure => simp [intOf]; omega
            · have hqc : Hid (q = c) := Lib.hid (by omega)
              have HRZ : Hid (Gb wy.heap.size wz (.slice aq q cq) ((List.range c).map (afZ p k fs gs n i))) := Lib.hid (by have := HROW.out; rw [hqc.out] at this ⊢; exact this)
              have hba : Below wz.heap.size wz (wz.alloc (.cells #[.slice aq q cq] 22)) := below_alloc1 _ _
              have HSL := Lib.hid ((HGS.out.below HBZ.out).below hba)
              have HGU := Lib.hid (HRZ.out.g1.below hba)
              have HBV := Lib.hid ((HBY.out.trans (HBZ.out.mono hxy)).trans (hba.mono (Nat.le_trans hxy HBZ.out.size)))
              have hcell := cell_alloc1 wz (.slice aq q cq) 22
              have HGN : Hid ((tableOf i (cs n) (afZ p k fs gs n)).length = i) := Lib.hid (by simp [tableOf])
              have hszv : wx.heap.size ≤ (wz.alloc (.cells #[.slice aq q cq] 22)).heap.size := HBV.out.size
              clear hba
              go_wp2_with (at_builtin; refine wpList_appendG rfl (some 76) rfl (.tmp 73) (.tmp 75) rfl wx.heap.size _ (tableOf i (cs n) (afZ p k fs gs n)) rfl HSL.out wz.heap.size rfl aq q cq hcell _ HGU.out ?c1 ?c2 ?_)
              case c1 => rw [HGN.out]; omega
              case c2 => first | exact hszv | (simp; omega) | omega
              intro v7 W7 hg7 hgr7
              have HS7 : Hid (Gs wx.heap.size W7 v7 (tableOf (i + 1) (cs n) (afZ p k fs gs n))) := Lib.hid (by
                have e : tableOf (i + 1) (cs n) (afZ p k fs gs n) = tableOf i (cs n) (afZ p k fs gs n) ++ [(List.range c).map (afZ p k fs gs n i)] := by rw [HC.out]; simp [tableOf, List.range_succ]
                rw [e]
                exact hg7)
              have HB7 : Hid (Below wx.heap.size wx W7) := Lib.hid (HBV.out.grown hgr7 hszv (fun g hg => (HSL.out.lt g hg).1))
              obtain ⟨a7, c7, hs7⟩ := Sl.shape HS7.out.l2
              rw [show (tableOf (i + 1) (cs n) (afZ p k fs gs n)).length = i + 1 by simp [tableOf]] at hs7
              subst hs7
              clear hg7 hgr7 hcell f1 f2 hszv
              go_wp2
              go_roundw
              case rel => first | exact ⟨i + 1, _, _, by omega, rfl, by go_num, HB7, HS7⟩ | ((repeat apply Exists.intro); exact ⟨⟨i + 1, _, _, by omega, rfl, by go_num, HB7, HS7⟩, rfl⟩)
              case measure => simp [intOf]; omega
        · have hir : Hid (i = r) := Lib.hid (by omega)
          have HTB : Hid (Gs wx.heap.size wy (.slice a2 i c2) (tableOf (rs n) (cs n) (afZ p k fs gs n))) := Lib.hid (by have := HGS.out; rw [← HR.out]; rw [hir.out] at this ⊢; exact this)
          have hba : Below wy.heap.size wy (wy.alloc (.cells #[.slice a2 i c2] 48)) := below_alloc1 _ _
          have HGL := Lib.hid ((HGT.out.below HBY.out).below hba)
          have HGU : Hid (Gs 0 (wy.alloc (.cells #[.slice a2 i c2] 48)) (.slice a2 i c2) (tableOf (rs n) (cs n) (afZ p k fs gs n))) := Lib.hid ((HTB.out.below hba).mono (Nat.zero_le _))
          have HBZ := Lib.hid (HBW.out.trans (hba.mono HBW.out.size))
          have hcell := cell_alloc1 wy (.slice a2 i c2) 48
          have HGN : Hid ((famL n rs cs (afZ p k fs gs)).length = n) := Lib.hid (famL_length _ _ _ _)
          have hszv : w.heap.size ≤ (wy.alloc (.cells #[.slice a2 i c2] 48)).heap.size := HBZ.out.size
          clear hba HGS HTB
          go_wp2_with (at_builtin; refine wpList_appendT3 rfl (some 80) rfl (.tmp 77) (.tmp 79) rfl w.heap.size _ (famL n rs cs (afZ p k fs gs)) rfl HGL.out wy.heap.size rfl a2 i c2 hcell _ HGU.out ?c1 ?c2 ?_)
          case c1 => rw [HGN.out]; omega
          case c2 => first | exact hszv | (simp; omega) | omega
          intro v7 W7 hg7 hgr7
          have HG7 : Hid (Gt w.heap.size W7 v7 (famL (n + 1) rs cs (afZ p k fs gs))) := Lib.hid (by rw [famL_succ]; exact hg7)
          have HB7 : Hid (Below w.heap.size w W7) := Lib.hid (HBZ.out.grown hgr7 hszv (fun g hg => (HGL.out.lt g hg).1))
          obtain ⟨a7, c7, hs7⟩ := Sl.shape HG7.out.l3
          rw [famL_length] at hs7
          subst hs7
          clear hg7 hgr7 hcell f1 hszv
          go_wp2
          go_roundw
          case rel => first | exact ⟨n + 1, _, _, by omega, rfl, by go_num, HB7, HG7⟩ | ((repeat apply Exists.intro); exact ⟨⟨n + 1, _, _, by omega, rfl, by go_num, HB7, HG7⟩, rfl⟩)
          case measure => simp [intOf]; omega
    · have HKE : Hid (n = m) := Lib.hid (by omega)
      go_wp2
      go_ret
      refine ⟨_, rfl, ?_, HB.out⟩
      have := HGT.out
      rw [HKE.out] at this ⊢
      exact this
end Go.Proofs.YtpchbceohnabnabDoor


namespace Go.Proofs.YtpchbceohnabnabDoor
open Go.RowKit

open Classical in
/-- The code of two complexes and two families between them. -/
noncomputable def famCode2 (p p2 s : Int) (ds : List Int) (ms : List (List (List Int))) (ds2 : List Int) (ms2 : List (List (List Int))) (fs gs : List (List (List Int))) : Int :=
  if endCode p p2 ds ms ds2 ms2 = 0 then (if FamOk p ds ds2 s fs ∧ FamOk p ds ds2 s gs then 0 else 2) else endCode p p2 ds ms ds2 ms2
theorem famCode2_zero {p p2 s : Int} {ds : List Int} {ms : List (List (List Int))} {ds2 : List Int} {ms2 : List (List (List Int))} {fs gs : List (List (List Int))} (h : famCode2 p p2 s ds ms ds2 ms2 fs gs = 0) : EndOk p p2 ds ms ds2 ms2 ∧ FamOk p ds ds2 s fs ∧ FamOk p ds ds2 s gs := by
  unfold famCode2 at h
  by_cases h1 : endCode p p2 ds ms ds2 ms2 = 0
  · rw [if_pos h1] at h
    by_cases h2 : FamOk p ds ds2 s fs ∧ FamOk p ds ds2 s gs
    · exact ⟨endCode_zero h1, h2.1, h2.2⟩
    · rw [if_neg h2] at h
      cases h
  · rw [if_neg h1] at h
    exact absurd h h1

set_option maxHeartbeats 6400000 in
set_option maxRecDepth 100000 in
theorem checkFamilies2_any (p p2 s : Int) (b : Nat) (dv mv dv2 mv2 fv gv : Value) (ds : List Int) (ms : List (List (List Int))) (ds2 : List Int) (ms2 : List (List (List Int))) (fs gs : List (List (List Int))) (w : World) (h : Cx 0 w dv mv ds ms) (h2 : Cx 0 w dv2 mv2 ds2 ms2) (hf : L3 0 w fv fs) (hg : L3 0 w gv gs) (hr : w.cell? ⟨b, 0, none⟩ = some fv) (hrg : w.cell? ⟨b, 1, none⟩ = some gv) (hs : -1 ≤ s ∧ s ≤ 1) (hd : ds.length ≤ 1048576) (hm : Bd3 1048576 ms) (hd2 : ds2.length ≤ 1048576) (hm2 : Bd3 1048576 ms2) (hmf : Bd3 1048576 fs) (hmg : Bd3 1048576 gs) :
    Calls Tryd.prog 36 #[.agg #[.int .i64 p, dv, mv], .agg #[.int .i64 p2, dv2, mv2], .int .i64 s, .slice (some ⟨b, 0, none⟩) 2 2] w (BR (.int .i64 (famCode2 p p2 s ds ms ds2 ms2 fs gs)) w) := by
  obtain ⟨ad, cap, rfl⟩ := Sl.shape h.dims
  obtain ⟨am, capm, rfl⟩ := Sl.shape h.maps
  obtain ⟨ad2, cap2, rfl⟩ := Sl.shape h2.dims
  obtain ⟨am2, capm2, rfl⟩ := Sl.shape h2.maps
  obtain ⟨af, cf, rfl⟩ := Sl.shape hf
  obtain ⟨ag, cg, rfl⟩ := Sl.shape hg
  obtain ⟨k1, k2⟩ := bx_two (p := p) (p2 := p2) 30 h h2
  have HX0 := Lib.hid k1
  have HY0 := Lib.hid k2
  obtain ⟨w1, hw1⟩ : ∃ w1, w1 = ((w.alloc (.cells #[.int .i64 p, .slice ad ds.length cap, .slice am ms.length capm] 30)).alloc (.cells #[.int .i64 p2, .slice ad2 ds2.length cap2, .slice am2 ms2.length capm2] 30)) := ⟨_, rfl⟩
  rw [← hw1] at HX0 HY0
  have hb01 : Below w.heap.size w w1 := HX0.out.below
  have HF0 := Lib.hid (hf.below hb01)
  have HG0 := Lib.hid (hg.below hb01)
  have HMG := Lib.hid hmg
  have HR1g := Lib.hid (later hb01 (Nat.le_refl _) hrg)
  have HNX : Hid (∀ W, Below w1.heap.size w1 W → Bx w W w.heap.size p (.slice ad ds.length cap) (.slice am ms.length capm) ds ms) := Lib.hid (fun W h => HX0.out.next h)
  have HNY : Hid (∀ W, Below w1.heap.size w1 W → Bx w W (w.heap.size + 1) p2 (.slice ad2 ds2.length cap2) (.slice am2 ms2.length capm2) ds2 ms2) := Lib.hid (fun W h => HY0.out.next h)
  have HMF := Lib.hid hmf
  have HS := Lib.hid hs
  have HR1 := Lib.hid (later hb01 (Nat.le_refl _) hr)
  have c0 := HX0.out.c0
  have c1 := HX0.out.c1
  have c2 := HX0.out.c2
  have d0 := HY0.out.c0
  have d1 := HY0.out.c1
  have d2 := HY0.out.c2
  obtain ⟨w2, hw2⟩ : ∃ w2, w2 = w1.alloc (.cells #[.int .i64 p, .slice ad ds.length cap, .slice am ms.length capm, .int .i64 p2, .slice ad2 ds2.length cap2, .slice am2 ms2.length capm2] 30) := ⟨_, rfl⟩
  have hr2 : Row2 w2 w1.heap.size p p2 (.slice ad ds.length cap) (.slice am ms.length capm) (.slice ad2 ds2.length cap2) (.slice am2 ms2.length capm2) := by
    rw [hw2]
    exact ⟨by simp, by simp, by simp, by simp, by simp, by simp⟩
  have hb2 : Below w1.heap.size w1 w2 := by rw [hw2]; exact below_alloc1 _ _
  have HB2 := Lib.hid hb2
  have HCK := Lib.hid (checkEnds2_any p p2 w1.heap.size _ _ _ _ ds ms ds2 ms2 w2 hr2 (HNX.out _ hb2).cx (HNY.out _ hb2).cx hd hm hd2 hm2)
  obtain ⟨ec, hec⟩ : ∃ ec, ec = endCode p p2 ds ms ds2 ms2 := ⟨_, rfl⟩
  rw [← hec] at HCK
  have HEC := Lib.hid hec
  clear h h2 hf hg hm hm2 hmf hmg k1 k2 hr hrg hr2 hb2 hb01 hec hs
  go_enter Tryd.func36, Tryd.ntmps36
  go_upto_region 1 with fail
  rw [← hw1]
  clear hw1
  go_wp2_with fail
  rw [← hw2]
  clear hw2
  refine HCK.out.mono ?_
  rintro e w3 ⟨rfl, hb3⟩
  have HB3 := Lib.hid (HB2.out.trans (hb3.mono HB2.out.size))
  have HX3 := Lib.hid (HNX.out _ HB3.out)
  have HY3 := Lib.hid (HNY.out _ HB3.out)
  clear hb3 c0 c1 c2 d0 d1 d2 HX0 HY0 HCK HB2
  by_cases h0 : ec = 0
  · subst h0
    have hE := endCode_zero HEC.out.symm
    have hIF := isFamily_any p p2 s _ _ _ _ _ ds ms ds2 ms2 fs w3 HX3.out.cx HY3.out.cx (HF0.out.below HB3.out) hE.x hE.y HS.out HMF.out
    have HIF := Lib.hid hIF
    have c0 := HX3.out.c0
    have c1 := HX3.out.c1
    have c2 := HX3.out.c2
    have d0 := HY3.out.c0
    have d1 := HY3.out.c1
    have d2 := HY3.out.c2
    have hr3 := later HB3.out (Nat.le_refl _) HR1.out
    have HE := Lib.hid hE
    clear hE hIF
    go_wp2
    refine wp_loop_rounds 3 ?_
    rw [rounds_succ]
    go_wp2_with fail
    refine HIF.out.mono ?_
    rintro e w4 ⟨bb, rfl, hb4, hbb⟩
    have HX4 := Lib.hid (HX3.out.next hb4)
    have HY4 := Lib.hid (HY3.out.next hb4)
    have HB4 := Lib.hid (HB3.out.trans (hb4.mono HB3.out.size))
    clear hb4 c0 c1 c2 d0 d1 d2 hr3 HIF
    by_cases hT : FamOk p ds ds2 s fs
    · obtain rfl : bb = true := hbb.2 hT
      have HT := Lib.hid hT
      have c0 := HX4.out.c0
      have c1 := HX4.out.c1
      have c2 := HX4.out.c2
      have d0 := HY4.out.c0
      have d1 := HY4.out.c1
      have d2 := HY4.out.c2
      have hr4 := later HB4.out (Nat.le_refl _) HR1g.out
      have HIG := Lib.hid (isFamily_any p p2 s _ _ _ _ _ ds ms ds2 ms2 gs w4 HX4.out.cx HY4.out.cx (HG0.out.below HB4.out) HE.out.x HE.out.y HS.out HMG.out)
      clear hT hbb
      go_wp2
      rw [rounds_succ]
      go_wp2_with fail
      refine HIG.out.mono ?_
      rintro e w5 ⟨bb, rfl, hb5, hbb⟩
      have HB5 := Lib.hid (HX4.out.next hb5).below
      clear hb5 c0 c1 c2 d0 d1 d2 hr4 HIG
      by_cases hG : FamOk p ds ds2 s gs
      · obtain rfl : bb = true := hbb.2 hG
        have HG := Lib.hid hG
        clear hG hbb
        go_wp2
        rw [rounds_succ]
        go_wp2
        go_ret
        exact ⟨ret_int (by unfold famCode2; rw [if_pos HEC.out.symm, if_pos ⟨HT.out, HG.out⟩]), HB5.out⟩
      · obtain rfl : bb = false := bb_no hbb hG
        have HG := Lib.hid hG
        clear hG hbb
        go_wp2
        go_ret
        exact ⟨ret_int (by unfold famCode2; rw [if_pos HEC.out.symm, if_neg (fun h => HG.out h.2)]), HB5.out⟩
    · obtain rfl : bb = false := bb_no hbb hT
      have HT := Lib.hid hT
      clear hT hbb
      go_wp2
      go_ret
      exact ⟨ret_int (by unfold famCode2; rw [if_pos HEC.out.symm, if_neg (fun h => HT.out h.1)]), HX4.out.below⟩
  · have hne2 : (ec != 0) = true := by simp [h0]
    have hne3 : (ec == 0) = false := by simp [h0]
    have HNE := Lib.hid h0
    clear h0
    go_wp2
    go_ret
    exact ⟨ret_int (by unfold famCode2; rw [← HEC.out, if_neg HNE.out]), HX3.out.below⟩
end Go.Proofs.YtpchbceohnabnabDoor


namespace Go.Proofs.YtpchbceohnabnabDoor
open Go.RowKit

set_option maxHeartbeats 6400000 in
set_option maxRecDepth 100000 in
theorem l04Code2_any (p p2 : Int) (b : Nat) (dv mv dv2 mv2 fv gv : Value) (ds : List Int) (ms : List (List (List Int))) (ds2 : List Int) (ms2 : List (List (List Int))) (fs gs : List (List (List Int))) (w : World) (h : Cx 0 w dv mv ds ms) (h2 : Cx 0 w dv2 mv2 ds2 ms2) (hf : L3 0 w fv fs) (hg : L3 0 w gv gs) (hr : w.cell? ⟨b, 0, none⟩ = some fv) (hrg : w.cell? ⟨b, 1, none⟩ = some gv) (hd : ds.length ≤ 1048576) (hm : Bd3 1048576 ms) (hd2 : ds2.length ≤ 1048576) (hm2 : Bd3 1048576 ms2) (hmf : Bd3 1048576 fs) (hmg : Bd3 1048576 gs) :
    Calls Tryd.prog 32 #[.agg #[.int .i64 p, dv, mv], .agg #[.int .i64 p2, dv2, mv2], .slice (some ⟨b, 0, none⟩) 2 2] w (BR (.int .i64 (famCode2 p p2 0 ds ms ds2 ms2 fs gs)) w) := by
  obtain ⟨ad, cap, rfl⟩ := Sl.shape h.dims
  obtain ⟨am, capm, rfl⟩ := Sl.shape h.maps
  obtain ⟨ad2, cap2, rfl⟩ := Sl.shape h2.dims
  obtain ⟨am2, capm2, rfl⟩ := Sl.shape h2.maps
  obtain ⟨af, cf, rfl⟩ := Sl.shape hf
  obtain ⟨ag, cg, rfl⟩ := Sl.shape hg
  obtain ⟨k1, k2⟩ := bx_two (p := p) (p2 := p2) 30 h h2
  have HX0 := Lib.hid k1
  have HY0 := Lib.hid k2
  obtain ⟨w1, hw1⟩ : ∃ w1, w1 = ((w.alloc (.cells #[.int .i64 p, .slice ad ds.length cap, .slice am ms.length capm] 30)).alloc (.cells #[.int .i64 p2, .slice ad2 ds2.length cap2, .slice am2 ms2.length capm2] 30)) := ⟨_, rfl⟩
  rw [← hw1] at HX0 HY0
  have hb01 : Below w.heap.size w w1 := HX0.out.below
  have HF0 := Lib.hid (hf.below hb01)
  have HG0 := Lib.hid (hg.below hb01)
  have HMG := Lib.hid hmg
  have HR1g := Lib.hid (later hb01 (Nat.le_refl _) hrg)
  have HNX : Hid (∀ W, Below w1.heap.size w1 W → Bx w W w.heap.size p (.slice ad ds.length cap) (.slice am ms.length capm) ds ms) := Lib.hid (fun W h => HX0.out.next h)
  have HNY : Hid (∀ W, Below w1.heap.size w1 W → Bx w W (w.heap.size + 1) p2 (.slice ad2 ds2.length cap2) (.slice am2 ms2.length capm2) ds2 ms2) := Lib.hid (fun W h => HY0.out.next h)
  have HMF := Lib.hid hmf
  have HR1 := Lib.hid (later hb01 (Nat.le_refl _) hr)
  have c0 := HX0.out.c0
  have c1 := HX0.out.c1
  have c2 := HX0.out.c2
  have d0 := HY0.out.c0
  have d1 := HY0.out.c1
  have d2 := HY0.out.c2
  have HCK := Lib.hid (l04Two_any p p2 _ _ _ _ ds ms ds2 ms2 w1 HX0.out.cx HY0.out.cx hd hm hd2 hm2)
  obtain ⟨ec, hec⟩ : ∃ ec, ec = endCode p p2 ds ms ds2 ms2 := ⟨_, rfl⟩
  rw [← hec] at HCK
  have HEC := Lib.hid hec
  clear h h2 hf hg hm hm2 hmf hmg k1 k2 hr hrg hb01 hec
  go_enter Tryd.func32, Tryd.ntmps32
  go_upto_region 1 with fail
  rw [← hw1]
  clear hw1
  go_wp2_with fail
  refine HCK.out.mono ?_
  rintro e w3 ⟨rfl, hb3⟩
  have HB3 := Lib.hid hb3
  have HX3 := Lib.hid (HNX.out _ HB3.out)
  have HY3 := Lib.hid (HNY.out _ HB3.out)
  clear hb3 c0 c1 c2 d0 d1 d2 HX0 HY0 HCK
  by_cases h0 : ec = 0
  · subst h0
    have hE := endCode_zero HEC.out.symm
    have HE := Lib.hid hE
    have c0 := HX3.out.c0
    have c1 := HX3.out.c1
    have c2 := HX3.out.c2
    have d0 := HY3.out.c0
    have d1 := HY3.out.c1
    have d2 := HY3.out.c2
    have hr3 := later HB3.out (Nat.le_refl _) HR1.out
    have HSP : Hid (∀ W, Below w3.heap.size w3 W → W.cell? ⟨b, 0, none⟩ = some (.slice af fs.length cf) ∧ W.cell? ⟨w.heap.size, 0, none⟩ = some (.int .i64 p) ∧ W.cell? ⟨w.heap.size, 1, none⟩ = some (.slice ad ds.length cap) ∧ W.cell? ⟨w.heap.size, 2, none⟩ = some (.slice am ms.length capm) ∧ W.cell? ⟨w.heap.size + 1, 0, none⟩ = some (.int .i64 p2) ∧ W.cell? ⟨w.heap.size + 1, 1, none⟩ = some (.slice ad2 ds2.length cap2) ∧ W.cell? ⟨w.heap.size + 1, 2, none⟩ = some (.slice am2 ms2.length capm2)) := Lib.hid (fun W h => ⟨later h (Nat.le_refl _) hr3, later h (Nat.le_refl _) c0, later h (Nat.le_refl _) c1, later h (Nat.le_refl _) c2, later h (Nat.le_refl _) d0, later h (Nat.le_refl _) d1, later h (Nat.le_refl _) d2⟩)
    have HDD : Hid (Below w3.heap.size w3 w3.drew) := Lib.hid (Below.refl _ _).drew
    have HIF : Hid (∀ W, Below w3.heap.size w3 W → Calls Tryd.prog 56 #[.agg #[.int .i64 p, .slice ad ds.length cap, .slice am ms.length capm], .agg #[.int .i64 p2, .slice ad2 ds2.length cap2, .slice am2 ms2.length capm2], .slice af fs.length cf, .int .i64 0] W (BB (FamOk p ds ds2 0 fs) W)) := Lib.hid (fun W h => l04Family_any p p2 0 _ _ _ _ _ ds ms ds2 ms2 fs W (HX3.out.next h).cx (HY3.out.next h).cx (HF0.out.below (HB3.out.trans (h.mono HB3.out.size))) HE.out.x HE.out.y ⟨by omega, by omega⟩ HMF.out)
    have hr3g := later HB3.out (Nat.le_refl _) HR1g.out
    have HSPG : Hid (∀ W, Below w3.heap.size w3 W → W.cell? ⟨b, 1, none⟩ = some (.slice ag gs.length cg) ∧ W.cell? ⟨w.heap.size, 0, none⟩ = some (.int .i64 p) ∧ W.cell? ⟨w.heap.size, 1, none⟩ = some (.slice ad ds.length cap) ∧ W.cell? ⟨w.heap.size, 2, none⟩ = some (.slice am ms.length capm) ∧ W.cell? ⟨w.heap.size + 1, 0, none⟩ = some (.int .i64 p2) ∧ W.cell? ⟨w.heap.size + 1, 1, none⟩ = some (.slice ad2 ds2.length cap2) ∧ W.cell? ⟨w.heap.size + 1, 2, none⟩ = some (.slice am2 ms2.length capm2)) := Lib.hid (fun W h => ⟨later h (Nat.le_refl _) hr3g, later h (Nat.le_refl _) c0, later h (Nat.le_refl _) c1, later h (Nat.le_refl _) c2, later h (Nat.le_refl _) d0, later h (Nat.le_refl _) d1, later h (Nat.le_refl _) d2⟩)
    have HIG : Hid (∀ W, Below w3.heap.size w3 W → Calls Tryd.prog 56 #[.agg #[.int .i64 p, .slice ad ds.length cap, .slice am ms.length capm], .agg #[.int .i64 p2, .slice ad2 ds2.length cap2, .slice am2 ms2.length capm2], .slice ag gs.length cg, .int .i64 0] W (BB (FamOk p ds ds2 0 gs) W)) := Lib.hid (fun W h => l04Family_any p p2 0 _ _ _ _ _ ds ms ds2 ms2 gs W (HX3.out.next h).cx (HY3.out.next h).cx (HG0.out.below (HB3.out.trans (h.mono HB3.out.size))) HE.out.x HE.out.y ⟨by omega, by omega⟩ HMG.out)
    clear hE hr3g
    go_wp2
    refine wp_loop_rounds 3 ?_
    rw [rounds_succ]
    go_wp2
    go_region_held3 (fun W => W.cell? ⟨b, 0, none⟩ = some (.slice af fs.length cf) ∧ W.cell? ⟨w.heap.size, 0, none⟩ = some (.int .i64 p) ∧ W.cell? ⟨w.heap.size, 1, none⟩ = some (.slice ad ds.length cap) ∧ W.cell? ⟨w.heap.size, 2, none⟩ = some (.slice am ms.length capm) ∧ W.cell? ⟨w.heap.size + 1, 0, none⟩ = some (.int .i64 p2) ∧ W.cell? ⟨w.heap.size + 1, 1, none⟩ = some (.slice ad2 ds2.length cap2) ∧ W.cell? ⟨w.heap.size + 1, 2, none⟩ = some (.slice am2 ms2.length capm2))
      (first | exact HSP.out _ (Below.refl _ _) | exact HSP.out _ HDD.out | exact HSP.out _ HB4.out | go_keep)
      ((go_at_call 56; (with_reducible refine (HIF.out _ HDD.out).mono ?_); rintro e w4 ⟨bb, rfl, hb4, hbb⟩; have HB4 : Hid (Below w3.heap.size w3 w4) := Lib.hid (HDD.out.trans hb4); have HBB := Lib.hid hbb; clear hb4 hbb))
    have HBZ := Lib.hid (HX3.out.next HB4.out).below
    clear c0 c1 c2 d0 d1 d2 hr3 HIF HSP
    have hbb := HBB.out
    clear HBB
    by_cases hT : FamOk p ds ds2 0 fs
    · obtain rfl : bb = true := hbb.2 hT
      have HT := Lib.hid hT
      have HD4 : Hid (Below w3.heap.size w3 w4.drew) := Lib.hid HB4.out.drew
      have hs4 : w3.heap.size ≤ w4.heap.size := HB4.out.size
      obtain ⟨g0, c0, c1, c2, d0, d1, d2⟩ := HSPG.out _ HB4.out
      clear hT hbb
      go_wp2
      rw [rounds_succ]
      go_wp2
      go_region_held3 (fun W => W.cell? ⟨b, 1, none⟩ = some (.slice ag gs.length cg) ∧ W.cell? ⟨w.heap.size, 0, none⟩ = some (.int .i64 p) ∧ W.cell? ⟨w.heap.size, 1, none⟩ = some (.slice ad ds.length cap) ∧ W.cell? ⟨w.heap.size, 2, none⟩ = some (.slice am ms.length capm) ∧ W.cell? ⟨w.heap.size + 1, 0, none⟩ = some (.int .i64 p2) ∧ W.cell? ⟨w.heap.size + 1, 1, none⟩ = some (.slice ad2 ds2.length cap2) ∧ W.cell? ⟨w.heap.size + 1, 2, none⟩ = some (.slice am2 ms2.length capm2))
        (first | exact HSPG.out _ HB4.out | exact HSPG.out _ HD4.out | exact HSPG.out _ HB5.out | go_keep)
        ((go_at_call 56; (with_reducible refine (HIG.out _ HD4.out).mono ?_); rintro e w5 ⟨bb, rfl, hb5, hbb⟩; have HB5 : Hid (Below w3.heap.size w3 w5) := Lib.hid (HD4.out.trans (hb5.mono hs4)); have HBB := Lib.hid hbb; clear hb5 hbb))
      have HBY := Lib.hid (HX3.out.next HB5.out).below
      clear g0 c0 c1 c2 d0 d1 d2 HIG HSPG HB5 HB4
      have hbb := HBB.out
      by_cases hG : FamOk p ds ds2 0 gs
      · obtain rfl : bb = true := hbb.2 hG
        have HG := Lib.hid hG
        clear hG hbb
        go_wp2
        rw [rounds_succ]
        go_wp2
        go_ret
        exact ⟨ret_int (by unfold famCode2; rw [if_pos HEC.out.symm, if_pos ⟨HT.out, HG.out⟩]), HBY.out⟩
      · obtain rfl : bb = false := bb_no hbb hG
        have HG := Lib.hid hG
        clear hG hbb
        go_wp2
        go_ret
        exact ⟨ret_int (by unfold famCode2; rw [if_pos HEC.out.symm, if_neg (fun h => HG.out h.2)]), HBY.out⟩
    · obtain rfl : bb = false := bb_no hbb hT
      have HT := Lib.hid hT
      clear hT hbb
      go_wp2
      go_ret
      exact ⟨ret_int (by unfold famCode2; rw [if_pos HEC.out.symm, if_neg (fun h => HT.out h.1)]), HBZ.out⟩
  · have hne2 : (ec != 0) = true := by simp [h0]
    have hne3 : (ec == 0) = false := by simp [h0]
    have HNE := Lib.hid h0
    clear h0
    go_wp2
    go_ret
    exact ⟨ret_int (by unfold famCode2; rw [← HEC.out, if_neg HNE.out]), HX3.out.below⟩
end Go.Proofs.YtpchbceohnabnabDoor


namespace Go.Proofs.YtpchbceohnabnabDoor
open Go.RowKit

theorem fam_fs6 {p : Int} {ds : List Int} {ms : List (List (List Int))} {ds2 : List Int} {ms2 fs : List (List (List Int))} (hcx : IsCx p ds ms) (hcy : IsCx p ds2 ms2) (hF : FamOk p ds ds2 0 fs) : Fs6 ds.length (rsF ds) (csF ds2 0) fs := by
  have hr : ∀ n, n < ds.length → ∀ i, i < rsF ds n → n < fs.length ∧ TabOk p (rsF ds n : Int) (csF ds2 0 n : Int) (fs.getD n []) ∧ i < (fs.getD n []).length ∧ RowOk p (csF ds2 0 n : Int) ((fs.getD n []).getD i []) := fun n hn i hi => fam_row hF hn hi (hcx.1.dim n).1 (dimZ_8 hcy ((n : Int) + 0)).1
  refine ⟨hF.1, fun n hn => ?_, fun n hn i hi => ?_, fun n hn i hi q hq => ?_⟩
  · have hl : n < fs.length := by have := hF.1; omega
    have ht := (hF.2 n hl).1
    have := (hcx.1.dim n).1
    simp only [rsF]
    omega
  · have := (hr n hn i hi).2.2.2.1
    omega
  · obtain ⟨_, _, _, h4⟩ := hr n hn i hi
    have hl : q < ((fs.getD n []).getD i []).length := by have := h4.1; omega
    rw [getD_of_lt 0 hl]
    have := h4.2 _ (List.getElem_mem hl)
    have := hcx.1.prime.hi
    omega

end Go.Proofs.YtpchbceohnabnabDoor


namespace Go.Proofs.YtpchbceohnabnabDoor.Lin

theorem len_le {L : List Nat} : ∀ {M : List Nat}, L.Nodup → (∀ x ∈ L, x ∈ M) → L.length ≤ M.length := by
  induction L with
  | nil => intros; simp
  | cons x L ih =>
    intro M hn hs
    have hx := hs x (by simp)
    rw [List.nodup_cons] at hn
    have h1 := ih (M := M.erase x) hn.2 (fun y hy => by
      have hne : y ≠ x := fun e => hn.1 (e ▸ hy)
      exact (List.mem_erase_of_ne hne).2 (hs y (by simp [hy])))
    rw [List.length_erase_of_mem hx] at h1
    have h2 := List.length_pos_of_mem hx
    simp only [List.length_cons]
    omega
noncomputable def lds (L : List V) : List Nat := L.map ld
theorem Red.lds_nodup {p : Int} {L : List V} (h : Red p L) : (lds L).Nodup := by
  unfold lds List.Nodup
  rw [List.pairwise_map]
  exact h.inc.imp (fun hab => Nat.ne_of_lt hab)
theorem Red.lds_mem {p : Int} (hp : 0 < p) {L : List V} (h : Red p L) {x : Nat} : x ∈ lds L ↔ ∃ v, Sp p L v ∧ v ≠ zv ∧ ld v = x := by
  constructor
  · intro hx
    obtain ⟨w, hw, rfl⟩ := List.mem_map.1 hx
    exact ⟨w, Sp.mem hw (h.md w hw), h.ne hw, rfl⟩
  · rintro ⟨v, hv, hne, rfl⟩
    obtain ⟨w, hw, e⟩ := h.lead hp hv hne
    exact List.mem_map.2 ⟨w, hw, e⟩
end Go.Proofs.YtpchbceohnabnabDoor.Lin


namespace Go.Proofs.YtpchbceohnabnabDoor
open Go.RowKit

def two2 (fs gs : List (List (List Int))) (j : Nat) : List (List (List Int)) := if j = 0 then fs else gs
theorem famsAt_two {w : World} {b : Nat} {v u : Value} {fs gs : List (List (List Int))} (h : w.cell? ⟨b, 0, none⟩ = some v) (h2 : w.cell? ⟨b, 1, none⟩ = some u) (hl : L3 0 w v fs) (hl2 : L3 0 w u gs) : FamsAt w b 2 (two2 fs gs) := fun j hj => by
  match j, hj with
  | 0, _ => exact ⟨v, h, hl⟩
  | 1, _ => exact ⟨u, h2, hl2⟩
section
variable {p p2 : Int} {ds : List Int} {ms : List (List (List Int))} {ds2 : List Int} {ms2 fs gs : List (List (List Int))}
theorem two2_ok {s : Int} (h : FamOk p ds ds2 s fs) (h2 : FamOk p ds ds2 s gs) {j : Nat} : FamOk p ds ds2 s (two2 fs gs j) := by
  unfold two2
  by_cases e : j = 0
  · rw [if_pos e]; exact h
  · rw [if_neg e]; exact h2
/-- The difference of two families. -/
def difF (p : Int) (ds ds2 : List Int) (fs gs : List (List (List Int))) : List (List (List Int)) := famL ds.length (rsF ds) (csF ds2 0) (afZ p (p - 1) fs gs)
theorem difF_neg : difF p ds ds2 fs gs = famL ds.length (rsF ds) (csF ds2 0) (afZ p (-1) fs gs) := by
  unfold difF
  refine famL_congr fun n _ i _ q _ => ?_
  unfold afZ
  have e : ∀ x y : Int, x + (p - 1) * y = (x + -1 * y) + p * y := fun x y => by rw [Int.sub_mul]; omega
  rw [e, Int.add_mul_emod_self_left]
theorem famL_ok (hcx : IsCx p ds ms) (hcy : IsCx p ds2 ms2) {Z : Nat → Nat → Nat → Int} (hZ : ∀ n i q, 0 ≤ Z n i q ∧ Z n i q ≤ p - 1) : FamOk p ds ds2 0 (famL ds.length (rsF ds) (csF ds2 0) Z) := by
  refine ⟨famL_length _ _ _ _, fun n hn => ?_⟩
  rw [famL_length] at hn
  rw [famL_get hn]
  have h1 := hcx.1.dim n
  have h3 := dimZ_8 hcy ((n : Int) + 0)
  refine ⟨by rw [tableOf_len]; simp only [rsF]; omega, fun r hr => ?_⟩
  obtain ⟨j, _, rfl⟩ := List.mem_map.1 hr
  refine ⟨by simp only [List.length_map, List.length_range, csF]; omega, fun x hx => ?_⟩
  obtain ⟨q, _, rfl⟩ := List.mem_map.1 hx
  exact hZ n j q
theorem difF_ok (hcx : IsCx p ds ms) (hcy : IsCx p ds2 ms2) : FamOk p ds ds2 0 (difF p ds ds2 fs gs) :=
  famL_ok hcx hcy fun n i q => by
    have := hcx.1.prime.lo
    unfold afZ
    have h1 := Int.emod_nonneg (((fs.getD n []).getD i []).getD q 0 + (p - 1) * ((gs.getD n []).getD i []).getD q 0) (show p ≠ 0 by omega)
    have h2 := Int.emod_lt_of_pos (((fs.getD n []).getD i []).getD q 0 + (p - 1) * ((gs.getD n []).getD i []).getD q 0) (show 0 < p by omega)
    omega
theorem red_le {A B : List Lin.V} (hp : 0 < p) (hA : Lin.Red p A) (hB : Lin.Red p B) (h : ∀ v ∈ A, Lin.Sp p B v) : A.length ≤ B.length := by
  have := Lin.len_le hA.lds_nodup (M := Lin.lds B) (fun x hx => by
    obtain ⟨w, hw, rfl⟩ := List.mem_map.1 hx
    exact (hB.lds_mem hp).2 ⟨w, h w hw, hA.ne hw, rfl⟩)
  simpa [Lin.lds] using this
theorem RkInd.nonneg {n : Nat} {x : Int} (hp : 1 < p) (h : RkInd p ds ms ds2 ms2 fs n x) : 0 ≤ x := by
  obtain ⟨A, B, E, a, b, e, rfl⟩ := h
  have := red_le (by omega) b.1 e.1 (fun v hv => (e.2.2 v).2 (Lin.Sp.mem (List.mem_append.2 (Or.inr hv)) (b.1.md v hv)))
  omega
/-- The answers of AreHomotopic. -/
def AhS (p p2 : Int) (ds : List Int) (ms : List (List (List Int))) (ds2 : List Int) (ms2 fs gs : List (List (List Int))) (b : Bool) (c : Int) : Prop := c = mapCode (famCode2 p p2 0 ds ms ds2 ms2 fs gs) (AllCh p ds ms ds2 ms2 2 (two2 fs gs)) ∧ (b = true ↔ mapCode (famCode2 p p2 0 ds ms ds2 ms2 fs gs) (AllCh p ds ms ds2 ms2 2 (two2 fs gs)) = 0 ∧ ∀ n, n < ds.length → RkInd p ds ms ds2 ms2 (difF p ds ds2 fs gs) n 0)
theorem AhS.unique {b b2 : Bool} {c c2 : Int} (h : AhS p p2 ds ms ds2 ms2 fs gs b c) (k : AhS p p2 ds ms ds2 ms2 fs gs b2 c2) : b = b2 ∧ c = c2 := ⟨Bool.eq_iff_iff.2 (h.2.trans k.2.symm), h.1.trans k.1.symm⟩
theorem ahS_yes (h : 0 = mapCode (famCode2 p p2 0 ds ms ds2 ms2 fs gs) (AllCh p ds ms ds2 ms2 2 (two2 fs gs))) (hq : ∀ n, n < ds.length → RkInd p ds ms ds2 ms2 (difF p ds ds2 fs gs) n 0) : AhS p p2 ds ms ds2 ms2 fs gs true 0 := ⟨h, fun _ => ⟨h.symm, hq⟩, fun _ => rfl⟩
theorem ahS_no {n : Nat} (h : 0 = mapCode (famCode2 p p2 0 ds ms ds2 ms2 fs gs) (AllCh p ds ms ds2 ms2 2 (two2 fs gs))) (hn : n < ds.length) (hq : ¬ RkInd p ds ms ds2 ms2 (difF p ds ds2 fs gs) n 0) : AhS p p2 ds ms ds2 ms2 fs gs false 0 := ⟨h, (fun h => absurd h (by decide)), (fun hh => absurd (hh.2 n hn) hq)⟩
end

set_option maxHeartbeats 3200000 in
set_option maxRecDepth 100000 in
theorem areHomotopic_any {pv : Value} (p p2 : Int) (dv mv dv2 mv2 fv gv : Value) (ds : List Int) (ms : List (List (List Int))) (ds2 : List Int) (ms2 : List (List (List Int))) (fs gs : List (List (List Int))) (w : World) (h : Cx 0 w dv mv ds ms) (h2 : Cx 0 w dv2 mv2 ds2 ms2) (hf : L3 0 w fv fs) (hg : L3 0 w gv gs) (hd : ds.length ≤ 1048576) (hm : Bd3 1048576 ms) (hd2 : ds2.length ≤ 1048576) (hm2 : Bd3 1048576 ms2) (hmf : Bd3 1048576 fs) (hmg : Bd3 1048576 gs) (hgl : w.cell? ⟨0, 0, none⟩ = some (.iface 135 pv)) :
    Calls Tryd.prog 29 #[.agg #[.int .i64 p, dv, mv], .agg #[.int .i64 p2, dv2, mv2], fv, gv] w (VrBC (AhS p p2 ds ms ds2 ms2 fs gs) w) := by
  obtain ⟨ad, cap, rfl⟩ := Sl.shape h.dims
  obtain ⟨am, capm, rfl⟩ := Sl.shape h.maps
  obtain ⟨ad2, cap2, rfl⟩ := Sl.shape h2.dims
  obtain ⟨am2, capm2, rfl⟩ := Sl.shape h2.maps
  obtain ⟨af, cf, rfl⟩ := Sl.shape hf
  obtain ⟨ag, cg, rfl⟩ := Sl.shape hg
  obtain ⟨k1, k2⟩ := bx_two (p := p) (p2 := p2) 30 h h2
  have HX0 := Lib.hid k1
  have HY0 := Lib.hid k2
  obtain ⟨w1, hw1⟩ : ∃ w1, w1 = ((w.alloc (.cells #[.int .i64 p, .slice ad ds.length cap, .slice am ms.length capm] 30)).alloc (.cells #[.int .i64 p2, .slice ad2 ds2.length cap2, .slice am2 ms2.length capm2] 30)) := ⟨_, rfl⟩
  rw [← hw1] at HX0 HY0
  have hb01 : Below w.heap.size w w1 := HX0.out.below
  have HF0 := Lib.hid (hf.below hb01)
  have HH0 := Lib.hid (hg.below hb01)
  have HG0 := Lib.hid (later hb01 (Nat.le_refl _) hgl)
  have HNX : Hid (∀ W, Below w1.heap.size w1 W → Bx w W w.heap.size p (.slice ad ds.length cap) (.slice am ms.length capm) ds ms ∧ Bx w W (w.heap.size + 1) p2 (.slice ad2 ds2.length cap2) (.slice am2 ms2.length capm2) ds2 ms2 ∧ (L3 0 W (.slice af fs.length cf) fs ∧ L3 0 W (.slice ag gs.length cg) gs) ∧ W.cell? ⟨0, 0, none⟩ = some (.iface 135 pv)) := Lib.hid (fun W h => ⟨HX0.out.next h, HY0.out.next h, ⟨HF0.out.below h, HH0.out.below h⟩, later h (Nat.le_refl _) HG0.out⟩)
  have c0 := HX0.out.c0
  have c1 := HX0.out.c1
  have c2 := HX0.out.c2
  have d0 := HY0.out.c0
  have d1 := HY0.out.c1
  have d2 := HY0.out.c2
  obtain ⟨w2, hw2⟩ : ∃ w2, w2 = w1.alloc (.cells #[.slice af fs.length cf, .slice ag gs.length cg] 23) := ⟨_, rfl⟩
  have hr2 : w2.cell? ⟨w1.heap.size, 0, none⟩ = some (.slice af fs.length cf) := by rw [hw2]; simp
  have hr3 : w2.cell? ⟨w1.heap.size, 1, none⟩ = some (.slice ag gs.length cg) := by rw [hw2]; simp
  have hb2 : Below w1.heap.size w1 w2 := by rw [hw2]; exact below_alloc1 _ _
  have HB2 := Lib.hid hb2
  have hN2 := HNX.out _ hb2
  have HCK := Lib.hid (checkChainMaps_any (pv := pv) p p2 (famCode2 p p2 0 ds ms ds2 ms2 fs gs) 2 w1.heap.size (two2 fs gs) _ _ _ _ ds ms ds2 ms2 w2 hN2.1.cx hN2.2.1.cx (famsAt_two hr2 hr3 hN2.2.2.1.1 hN2.2.2.1.2) (by omega) (fun W hb => by
    have hN := HNX.out _ (HB2.out.trans (hb.mono HB2.out.size))
    exact checkFamilies2_any p p2 0 w1.heap.size _ _ _ _ _ _ ds ms ds2 ms2 fs gs W hN.1.cx hN.2.1.cx hN.2.2.1.1 hN.2.2.1.2 (later hb (Nat.le_refl _) hr2) (later hb (Nat.le_refl _) hr3) ⟨by omega, by omega⟩ hd hm hd2 hm2 hmf hmg) (fun h0 => ⟨(famCode2_zero h0).1, fun j hj => two2_ok (famCode2_zero h0).2.1 (famCode2_zero h0).2.2⟩) hN2.2.2.2)
  obtain ⟨ec, hec⟩ : ∃ ec, ec = mapCode (famCode2 p p2 0 ds ms ds2 ms2 fs gs) (AllCh p ds ms ds2 ms2 2 (two2 fs gs)) := ⟨_, rfl⟩
  rw [← hec] at HCK
  have HEC := Lib.hid hec
  have HMF := Lib.hid hmf
  have HMG := Lib.hid hmg
  clear h h2 hf hg hm hm2 hmf hmg k1 k2 hr2 hr3 hb2 hb01 hec hN2 hgl
  go_enter Tryd.func29, Tryd.ntmps29
  go_upto_region 1 with fail
  rw [← hw1]
  clear hw1
  go_wp2_with fail
  rw [← hw2]
  clear hw2
  refine HCK.out.mono ?_
  rintro e w3 ⟨rfl, hb3⟩
  have HB3 := Lib.hid (HB2.out.trans (hb3.mono HB2.out.size))
  have HN3 := Lib.hid (HNX.out _ HB3.out)
  clear hb3 c0 c1 c2 d0 d1 d2 HX0 HY0 HCK HB2
  by_cases h0 : ec = 0
  · subst h0
    have hfz := famCode2_zero (mapCode_zero HEC.out.symm).1
    have hpp := hfz.1.prime
    subst hpp
    have HE := Lib.hid hfz.1
    have HFO := Lib.hid hfz.2.1
    have HGO := Lib.hid hfz.2.2
    clear hfz
    have c0 := HN3.out.1.c0
    have c1 := HN3.out.1.c1
    have c2 := HN3.out.1.c2
    have d0 := HN3.out.2.1.c0
    have d1 := HN3.out.2.1.c1
    have d2 := HN3.out.2.1.c2
    have HLN := Lib.hid (show ds.length ≤ 6 from HE.out.x.1.len1)
    have hl6 := HLN.out
    have HFL : Hid (fs.length = ds.length) := Lib.hid HFO.out.1
    have hp27 : 2 ≤ p ∧ p ≤ 7 := ⟨HE.out.x.1.prime.lo, HE.out.x.1.prime.hi⟩
    obtain ⟨D, hD⟩ : ∃ D, D = difF p ds ds2 fs gs := ⟨_, rfl⟩
    have HDO : Hid (FamOk p ds ds2 0 D) := Lib.hid (by rw [hD]; exact difF_ok HE.out.x HE.out.y)
    have HDD := Lib.hid hD
    have hwp : IntKind.i64.wrap (p - 1) = p - 1 := IntWalk.i64_in _ (by omega)
    have hwa : IntKind.i64.wrap ((ds.length : Int) - 1 + 1) = (ds.length : Int) := by rw [Int.sub_add_cancel]; exact IntWalk.i64_in _ (by omega)
    have HSU := Lib.hid (sumOfFamilies_any p (p - 1) _ _ _ _ _ _ ds ms ds2 ms2 fs gs w3 HN3.out.1.cx HN3.out.2.1.cx HN3.out.2.2.1.1 HN3.out.2.2.1.2 HE.out.x HE.out.y HFO.out HGO.out ⟨by omega, by omega⟩ HMF.out HMG.out)
    clear hD
    go_wp2_with fail
    refine HSU.out.mono ?_
    rintro e w4 ⟨u, rfl, hrw, hb4⟩
    have HLD : Hid (L3 0 w4 u D) := Lib.hid (by rw [HDD.out]; exact hrw.l)
    obtain ⟨au, cu, rfl⟩ := Sl.shape HLD.out
    have HB4 := Lib.hid (HB3.out.trans (hb4.mono HB3.out.size))
    have HN4 := Lib.hid (HNX.out _ HB4.out)
    clear hrw hb4 c0 c1 c2 d0 d1 d2 HN3 HSU
    have c0 := HN4.out.1.c0
    have c1 := HN4.out.1.c1
    have c2 := HN4.out.1.c2
    have d0 := HN4.out.2.1.c0
    have d1 := HN4.out.2.1.c1
    have d2 := HN4.out.2.1.c2
    go_wp2_with fail
    refine (topOf_any p _ _ ds.length ad cap _ rfl (by omega)).mono ?_
    rintro e w5 ⟨rfl, hb5⟩
    have HLE := Lib.hid (HLD.out.below hb5)
    have HB5 := Lib.hid (HB4.out.trans (hb5.mono HB4.out.size))
    have HN5 := Lib.hid (HNX.out _ HB5.out)
    clear hb5 c0 c1 c2 d0 d1 d2 HN4 HLD
    go_wp2
    go_loopw [33] (fun i wr => ∃ (k : Nat), k ≤ ds.length ∧ i = .int .i64 k ∧ Hid (Below w5.heap.size w5 wr) ∧ Hid (∀ j, j < k → RkInd p ds ms ds2 ms2 D j 0)) (fun i _ => ds.length - (intOf i).toNat)
    case atStart => exact ⟨0, Nat.zero_le _, rfl, Lib.hid (Below.refl _ _), Lib.hid (fun _ h => absurd h (Nat.not_lt_zero _))⟩
    case round =>
      obtain ⟨k, hk, rfl, HB, HQ⟩ := hrel
      obtain ⟨wx, hwx⟩ : ∃ wx : World, wx = wr := ⟨_, rfl⟩
      subst hwx
      have HBX := Lib.hid (HB5.out.trans (HB.out.mono HB5.out.size))
      have HN6 := Lib.hid (HNX.out _ HBX.out)
      have c0 := HN6.out.1.c0
      have c1 := HN6.out.1.c1
      have c2 := HN6.out.1.c2
      have d0 := HN6.out.2.1.c0
      have d1 := HN6.out.2.1.c1
      have d2 := HN6.out.2.1.c2
      by_cases hlt : k < ds.length
      · have hld : k < ds.length := by have := HFL.out; omega
        have HIR := Lib.hid (inducedRank_any p k _ _ _ _ _ ds ms ds2 ms2 D wx HN6.out.1.cx HN6.out.2.1.cx (HLE.out.below HB.out) HE.out.x HE.out.y HE.out.len HDO.out hld)
        go_wp2_with fail
        refine HIR.out.mono ?_
        rintro e w7 ⟨r, rfl, hb7, hr⟩
        have HB7 := Lib.hid (HB.out.trans (hb7.mono HB.out.size))
        have HB17 := Lib.hid (HB5.out.trans (HB7.out.mono HB5.out.size))
        have HN7 := Lib.hid (HNX.out _ HB17.out)
        have HRR := Lib.hid hr
        have hr0 : 0 ≤ r := hr.nonneg HE.out.x.1.prime.lo1
        clear c0 c1 c2 d0 d1 d2 hb7 hr HIR HN6
        by_cases hrx : r = 0
        · subst hrx
          have HQ9 : Hid (∀ j, j < k + 1 → RkInd p ds ms ds2 ms2 D j 0) := Lib.hid (fun j hj => by
            by_cases e : j = k
            · subst e; exact HRR.out
            · exact HQ.out j (by omega))
          clear hr0
          go_wp2
          go_roundw
          case rel => exact ⟨k + 1, by omega, by go_num, HB7, HQ9⟩
          case measure => simp [intOf]; omega
        · have hq2 : (r != 0) = true := by simp [hrx]
          have hq3 : 0 < r := by omega
          have HNO : Hid (AhS p p ds ms ds2 ms2 fs gs false 0) := Lib.hid (ahS_no HEC.out hld (fun a => hrx (HRR.out.unique HE.out.x.1.prime.lo1 (by rw [HDD.out]; exact a))))
          clear hrx
          go_wp2
          go_ret2
          exact ⟨false, 0, rfl, HN7.out.1.below, HNO.out⟩
      · have HQ9 : Hid (AhS p p ds ms ds2 ms2 fs gs true 0) := Lib.hid (ahS_yes HEC.out (fun j hj => by rw [← HDD.out]; exact HQ.out j (by have := HFL.out; omega)))
        go_wp2
        go_ret2
        exact ⟨true, 0, rfl, HN6.out.1.below, HQ9.out⟩
  · have HNE : Hid (AhS p p2 ds ms ds2 ms2 fs gs false ec) := Lib.hid ⟨HEC.out, by
      constructor
      · intro h; cases h
      · intro h; exact absurd (HEC.out.trans h.1) h0⟩
    have hne2 : (ec != 0) = true := by simp [h0]
    have hne3 : (ec == 0) = false := by simp [h0]
    clear h0
    go_wp2
    go_ret2
    exact ⟨false, ec, rfl, HN3.out.1.below, HNE.out⟩


set_option maxHeartbeats 3200000 in
set_option maxRecDepth 100000 in
theorem spAreHomotopic_any (p p2 : Int) (dv mv dv2 mv2 fv gv : Value) (ds : List Int) (ms : List (List (List Int))) (ds2 : List Int) (ms2 : List (List (List Int))) (fs gs : List (List (List Int))) (w : World) (h : Cx 0 w dv mv ds ms) (h2 : Cx 0 w dv2 mv2 ds2 ms2) (hf : L3 0 w fv fs) (hg : L3 0 w gv gs) (hd : ds.length ≤ 1048576) (hm : Bd3 1048576 ms) (hd2 : ds2.length ≤ 1048576) (hm2 : Bd3 1048576 ms2) (hmf : Bd3 1048576 fs) (hmg : Bd3 1048576 gs) :
    Calls Tryd.prog 28 #[.agg #[.int .i64 p, dv, mv], .agg #[.int .i64 p2, dv2, mv2], fv, gv] w (VrBC (AhS p p2 ds ms ds2 ms2 fs gs) w) := by
  obtain ⟨ad, cap, rfl⟩ := Sl.shape h.dims
  obtain ⟨am, capm, rfl⟩ := Sl.shape h.maps
  obtain ⟨ad2, cap2, rfl⟩ := Sl.shape h2.dims
  obtain ⟨am2, capm2, rfl⟩ := Sl.shape h2.maps
  obtain ⟨af, cf, rfl⟩ := Sl.shape hf
  obtain ⟨ag, cg, rfl⟩ := Sl.shape hg
  obtain ⟨k1, k2⟩ := bx_two (p := p) (p2 := p2) 30 h h2
  have HX0 := Lib.hid k1
  have HY0 := Lib.hid k2
  obtain ⟨w1, hw1⟩ : ∃ w1, w1 = ((w.alloc (.cells #[.int .i64 p, .slice ad ds.length cap, .slice am ms.length capm] 30)).alloc (.cells #[.int .i64 p2, .slice ad2 ds2.length cap2, .slice am2 ms2.length capm2] 30)) := ⟨_, rfl⟩
  rw [← hw1] at HX0 HY0
  have hb01 : Below w.heap.size w w1 := HX0.out.below
  have HF0 := Lib.hid (hf.below hb01)
  have HH0 := Lib.hid (hg.below hb01)
  have HNX : Hid (∀ W, Below w1.heap.size w1 W → Bx w W w.heap.size p (.slice ad ds.length cap) (.slice am ms.length capm) ds ms ∧ Bx w W (w.heap.size + 1) p2 (.slice ad2 ds2.length cap2) (.slice am2 ms2.length capm2) ds2 ms2 ∧ (L3 0 W (.slice af fs.length cf) fs ∧ L3 0 W (.slice ag gs.length cg) gs)) := Lib.hid (fun W h => ⟨HX0.out.next h, HY0.out.next h, ⟨HF0.out.below h, HH0.out.below h⟩⟩)
  have c0 := HX0.out.c0
  have c1 := HX0.out.c1
  have c2 := HX0.out.c2
  have d0 := HY0.out.c0
  have d1 := HY0.out.c1
  have d2 := HY0.out.c2
  obtain ⟨w2, hw2⟩ : ∃ w2, w2 = w1.alloc (.cells #[.slice af fs.length cf, .slice ag gs.length cg] 23) := ⟨_, rfl⟩
  have hr2 : w2.cell? ⟨w1.heap.size, 0, none⟩ = some (.slice af fs.length cf) := by rw [hw2]; simp
  have hr3 : w2.cell? ⟨w1.heap.size, 1, none⟩ = some (.slice ag gs.length cg) := by rw [hw2]; simp
  have hb2 : Below w1.heap.size w1 w2 := by rw [hw2]; exact below_alloc1 _ _
  have HB2 := Lib.hid hb2
  have hN2 := HNX.out _ hb2
  have HCK := Lib.hid (l04Maps_any p p2 (famCode2 p p2 0 ds ms ds2 ms2 fs gs) 2 w1.heap.size (two2 fs gs) _ _ _ _ ds ms ds2 ms2 w2 hN2.1.cx hN2.2.1.cx (famsAt_two hr2 hr3 hN2.2.2.1 hN2.2.2.2) (by omega) (fun W hb => by
    have hN := HNX.out _ (HB2.out.trans (hb.mono HB2.out.size))
    exact l04Code2_any p p2 w1.heap.size _ _ _ _ _ _ ds ms ds2 ms2 fs gs W hN.1.cx hN.2.1.cx hN.2.2.1 hN.2.2.2 (later hb (Nat.le_refl _) hr2) (later hb (Nat.le_refl _) hr3) hd hm hd2 hm2 hmf hmg) (fun h0 => ⟨(famCode2_zero h0).1, fun j hj => two2_ok (famCode2_zero h0).2.1 (famCode2_zero h0).2.2⟩))
  obtain ⟨ec, hec⟩ : ∃ ec, ec = mapCode (famCode2 p p2 0 ds ms ds2 ms2 fs gs) (AllCh p ds ms ds2 ms2 2 (two2 fs gs)) := ⟨_, rfl⟩
  rw [← hec] at HCK
  have HEC := Lib.hid hec
  have HMF := Lib.hid hmf
  have HMG := Lib.hid hmg
  clear h h2 hf hg hm hm2 hmf hmg k1 k2 hr2 hr3 hb2 hb01 hec hN2
  go_enter Tryd.func28, Tryd.ntmps28
  go_upto_region 1 with fail
  rw [← hw1]
  clear hw1
  go_wp2_with fail
  rw [← hw2]
  clear hw2
  refine HCK.out.mono ?_
  rintro e w3 ⟨rfl, hb3⟩
  have HB3 := Lib.hid (HB2.out.trans (hb3.mono HB2.out.size))
  have HN3 := Lib.hid (HNX.out _ HB3.out)
  clear hb3 c0 c1 c2 d0 d1 d2 HX0 HY0 HCK HB2
  by_cases h0 : ec = 0
  · subst h0
    have hfz := famCode2_zero (mapCode_zero HEC.out.symm).1
    have hpp := hfz.1.prime
    subst hpp
    have HE := Lib.hid hfz.1
    have HFO := Lib.hid hfz.2.1
    have HGO := Lib.hid hfz.2.2
    clear hfz
    have c0 := HN3.out.1.c0
    have c1 := HN3.out.1.c1
    have c2 := HN3.out.1.c2
    have d0 := HN3.out.2.1.c0
    have d1 := HN3.out.2.1.c1
    have d2 := HN3.out.2.1.c2
    have HLN := Lib.hid (show ds.length ≤ 6 from HE.out.x.1.len1)
    have hl6 := HLN.out
    have HFL : Hid (fs.length = ds.length) := Lib.hid HFO.out.1
    have hp27 : 2 ≤ p ∧ p ≤ 7 := ⟨HE.out.x.1.prime.lo, HE.out.x.1.prime.hi⟩
    obtain ⟨D, hD⟩ : ∃ D, D = difF p ds ds2 fs gs := ⟨_, rfl⟩
    have HDO : Hid (FamOk p ds ds2 0 D) := Lib.hid (by rw [hD]; exact difF_ok HE.out.x HE.out.y)
    have HDD := Lib.hid hD
    have HSU := Lib.hid (l04Sum_any p (-1) ds.length (rsF ds) (csF ds2 0) _ _ fs gs w3 HN3.out.2.2.1 HN3.out.2.2.2 (fam_fs6 HE.out.x HE.out.y HFO.out) (fam_fs6 HE.out.x HE.out.y HGO.out) HE.out.x.1.prime (by omega) (by omega) (fun n _ => ⟨by simp only [rsF]; have := HE.out.x.1.dim n; omega, by simp only [csF]; have := dimZ_8 HE.out.y ((n : Int) + 0); omega⟩))
    clear hD
    go_wp2_with fail
    refine HSU.out.mono ?_
    rintro e w4 ⟨u, rfl, hrw, hb4⟩
    have HLD : Hid (L3 0 w4 u D) := Lib.hid (by rw [HDD.out, difF_neg]; exact hrw.l3)
    obtain ⟨au, cu, rfl⟩ := Sl.shape HLD.out
    have HB4 := Lib.hid (HB3.out.trans (hb4.mono HB3.out.size))
    have HN4 := Lib.hid (HNX.out _ HB4.out)
    clear hrw hb4 c0 c1 c2 d0 d1 d2 HN3 HSU
    have HLE := HLD
    have HB5 := HB4
    have HN5 := HN4
    go_wp2
    go_loopw [12] (fun i wr => ∃ (k : Nat), k ≤ fs.length ∧ i = .int .i64 k ∧ Hid (Below w4.heap.size w4 wr) ∧ Hid (∀ j, j < k → RkInd p ds ms ds2 ms2 D j 0)) (fun i _ => fs.length - (intOf i).toNat)
    case atStart => exact ⟨0, Nat.zero_le _, rfl, Lib.hid (Below.refl _ _), Lib.hid (fun _ h => absurd h (Nat.not_lt_zero _))⟩
    case round =>
      obtain ⟨k, hk, rfl, HB, HQ⟩ := hrel
      obtain ⟨wx, hwx⟩ : ∃ wx : World, wx = wr := ⟨_, rfl⟩
      subst hwx
      have HBX := Lib.hid (HB5.out.trans (HB.out.mono HB5.out.size))
      have HN6 := Lib.hid (HNX.out _ HBX.out)
      have c0 := HN6.out.1.c0
      have c1 := HN6.out.1.c1
      have c2 := HN6.out.1.c2
      have d0 := HN6.out.2.1.c0
      have d1 := HN6.out.2.1.c1
      have d2 := HN6.out.2.1.c2
      by_cases hlt : k < fs.length
      · have hld : k < ds.length := by have := HFL.out; omega
        have HIR := Lib.hid (l04Rank_any p k _ _ _ _ _ ds ms ds2 ms2 D wx HN6.out.1.cx HN6.out.2.1.cx (HLE.out.below HB.out) HE.out.x HE.out.y HE.out.len HDO.out hld)
        go_wp2_with fail
        refine HIR.out.mono ?_
        rintro e w7 ⟨r, rfl, hb7, hr⟩
        have HB7 := Lib.hid (HB.out.trans (hb7.mono HB.out.size))
        have HB17 := Lib.hid (HB5.out.trans (HB7.out.mono HB5.out.size))
        have HN7 := Lib.hid (HNX.out _ HB17.out)
        have HRR := Lib.hid hr
        have hr0 : 0 ≤ r := hr.nonneg HE.out.x.1.prime.lo1
        clear c0 c1 c2 d0 d1 d2 hb7 hr HIR HN6
        by_cases hrx : r = 0
        · subst hrx
          have HQ9 : Hid (∀ j, j < k + 1 → RkInd p ds ms ds2 ms2 D j 0) := Lib.hid (fun j hj => by
            by_cases e : j = k
            · subst e; exact HRR.out
            · exact HQ.out j (by omega))
          clear hr0
          go_wp2
          go_roundw
          case rel => exact ⟨k + 1, by omega, by go_num, HB7, HQ9⟩
          case measure => simp [intOf]; omega
        · have hq2 : (r != 0) = true := by simp [hrx]
          have hq3 : 0 < r := by omega
          have HNO : Hid (AhS p p ds ms ds2 ms2 fs gs false 0) := Lib.hid (ahS_no HEC.out hld (fun a => hrx (HRR.out.unique HE.out.x.1.prime.lo1 (by rw [HDD.out]; exact a))))
          clear hrx
          go_wp2
          go_ret2
          exact ⟨false, 0, rfl, HN7.out.1.below, HNO.out⟩
      · have HQ9 : Hid (AhS p p ds ms ds2 ms2 fs gs true 0) := Lib.hid (ahS_yes HEC.out (fun j hj => by rw [← HDD.out]; exact HQ.out j (by have := HFL.out; omega)))
        go_wp2
        go_ret2
        exact ⟨true, 0, rfl, HN6.out.1.below, HQ9.out⟩
  · have HNE : Hid (AhS p p2 ds ms ds2 ms2 fs gs false ec) := Lib.hid ⟨HEC.out, by
      constructor
      · intro h; cases h
      · intro h; exact absurd (HEC.out.trans h.1) h0⟩
    have hne2 : (ec != 0) = true := by simp [h0]
    have hne3 : (ec == 0) = false := by simp [h0]
    clear h0
    go_wp2
    go_ret2
    exact ⟨false, ec, rfl, HN3.out.1.below, HNE.out⟩
end Go.Proofs.YtpchbceohnabnabDoor

