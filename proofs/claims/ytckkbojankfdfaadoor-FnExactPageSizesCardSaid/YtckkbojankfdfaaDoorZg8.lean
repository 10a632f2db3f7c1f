/-
  Texts that ProofPzl needs, part 8.
-/
import Derived.Test.YtckkbojankfdfaaDoorZg7
import Derived.Deep.RegionWith
import Derived.Deep.RegionHeld3
import Derived.BigRegion
import Derived.BigQuiet
import Derived.Deep.QuietTactic
import Derived.Test.YtckkbojankfdfaaDoorCards
import Derived.Test.YtckkbojankfdfaaDoorTie
import Derived.WalkKit
import Derived.ProofKit
import Derived.OpenShut
import Derived.Deep.DeepHandedRow
import Derived.Stop.LaidErr
import Derived.RowKitTokens
namespace Go.Proofs.YtckkbojankfdfaaDoor
open Go.RowKit

/-- The derived couple of the model, its tables and rows in memory of the call's own. -/
def DvX (p : Int) (dn en : Nat) (il jl kl : List (List Int)) (w : World) (e : Ending) (w' : World) : Prop :=
  ∃ (d1 e1 : Nat) (i1 j1 k1 : List (List Int)) (x1 : Option Addr) (y1 : Nat) (x2 : Option Addr) (y2 : Nat) (x3 : Option Addr) (y3 : Nat), e = .returned (.agg #[.int .i64 p, .int .i64 (d1 : Int), .int .i64 (e1 : Int), .slice x1 i1.length y1, .slice x2 j1.length y2, .slice x3 k1.length y3]) ∧ Below w.heap.size w w' ∧
    (Gx w.heap.size w' (.slice x1 i1.length y1) i1 ∧ Gx w.heap.size w' (.slice x2 j1.length y2) j1 ∧ Gx w.heap.size w' (.slice x3 k1.length y3) k1) ∧ DcIs p dn en il jl kl d1 e1 i1 j1 k1

set_option maxHeartbeats 12800000 in
set_option maxRecDepth 100000 in
theorem l05DeriveX_any (p : Int) (dn en : Nat) (iv jv kv : Value) (il jl kl : List (List Int)) (w : World) (h : Cp 0 w iv jv kv il jl kl) (hm : CpB 1048576 il jl kl) (hc : IsCp p dn en il jl kl) (hx : ExOk p dn en il jl kl) :
    Calls Tryd.prog 22 #[.agg #[.int .i64 p, .int .i64 (dn : Int), .int .i64 (en : Int), iv, jv, kv]] w (DvX p dn en il jl kl w) := by
  obtain ⟨⟨ai, ci, rfl⟩, ⟨aj, cj, rfl⟩, ⟨ak, ck, rfl⟩⟩ := h.shapes
  have hres : Tryd.f22.results = #[.cell 2 26] := by kernel_rfl
  have HRES := Lib.hid hres
  have HP := Lib.hid hc.1
  have HC := Lib.hid hc
  have HE := Lib.hid hx
  have HM := Lib.hid hm
  have hd24 := hc.d24.1
  have he24 := hc.d24.2
  have HLI := Lib.hid hc.li
  have HLJ := Lib.hid hc.lj
  have HLK := Lib.hid hc.lk
  have HLD := Lib.hid hc.ld
  have HRD := Lib.hid hc.rd
  have HRI : Hid ((il.map ofL).map (toL dn) = il) := Lib.hid (rows_toL' (fun r hr => by have := (hc.2.2.2.1.2 r hr).1; omega))
  obtain ⟨dt, hdt⟩ : ∃ dt, dt = cdT p en jl kl := ⟨_, rfl⟩
  have HDT := Lib.hid hdt
  rw [← hdt] at HLD HRD
  have HRDD : Hid ((dt.map ofL).map (toL en) = dt) := Lib.hid (rows_toL' (fun r hr => by have := (HRD.out r hr).1; omega))
  have HMD : Hid (∀ u ∈ dt.map ofL, Lin.Md p u) := Lib.hid (vecs_md (by have := hc.1.lo; omega) HRD.out)
  have HMI := Lib.hid hc.mi
  have HWI : Hid (∀ u ∈ il.map ofL, Lin.Wd dn u) := Lib.hid (fun u hu => by
    obtain ⟨r, hr, rfl⟩ := List.mem_map.1 hu
    exact ofL_wd (by have := (hc.2.2.2.1.2 r hr).1; omega))
  have HWD : Hid (∀ u ∈ dt.map ofL, Lin.Wd en u) := Lib.hid (fun u hu => by
    obtain ⟨r, hr, rfl⟩ := List.mem_map.1 hu
    exact ofL_wd (by have := (HRD.out r hr).1; omega))
  have HH := Lib.hid h
  clear h hm hc hx hres hdt
  go_enter Tryd.func22, Tryd.ntmps22
  go_upto_region 1 with fail
  refine forget_wp (fun W => DvB w W p dn en (.slice ai il.length ci) (.slice aj jl.length cj) (.slice ak kl.length ck) il jl kl) (DvB.start HH.out _ _ _ _ _ _) ?_
  intro W hxx
  have HXW := Lib.hid hxx
  clear hxx HH
  have HNB : Hid (∀ W', Below W.heap.size W W' → DvB w W' p dn en (.slice ai il.length ci) (.slice aj jl.length cj) (.slice ak kl.length ck) il jl kl) := Lib.hid (fun W' h => HXW.out.next h)
  have HNX : Hid (∀ W', Below W.heap.size W W' → BxCp w W' w.heap.size p dn en (.slice ai il.length ci) (.slice aj jl.length cj) (.slice ak kl.length ck) il jl kl) := Lib.hid (fun W' h => (HNB.out W' h).box)
  refine wp_region_held (S := fun W' => Below W.heap.size W W') (by kernel_rfl) ?_
  have S0 : Below W.heap.size W W.drew := (Below.refl _ _).drew
  change wpAnyH _ _ _ _ _ _ _ _ W.drew
  generalize W.drew = wd at *
  refine held_take (i := 0) (v := .pointer (some ⟨w.heap.size, 0, none⟩)) (some 15) rfl rfl (by kernel_rfl) (by kernel_rfl) (by kernel_rfl) (fun _ _ _ h => h) (yieldsIf_run (by kernel_rfl) (fun W _ => by kernel_rfl)) S0 ?_
  refine held_take (i := 1) (v := .int .i64 p) (some 16) rfl rfl (by kernel_rfl) (by kernel_rfl) (by kernel_rfl) (fun _ _ _ h => h) (yieldsIf_cell (by kernel_rfl) rfl (by kernel_rfl) (fun W h => hload W ((HNX.out W h).c0))) S0 ?_
  refine held_take (i := 2) (v := .agg #[.int .i64 p, .int .i64 (dn : Int), .int .i64 (en : Int), .slice ai il.length ci, .slice aj jl.length cj, .slice ak kl.length ck]) (some 17) rfl rfl (by kernel_rfl) (by kernel_rfl) (by kernel_rfl) (fun _ _ _ h => h) (yieldsIf_cell (by kernel_rfl) rfl (by kernel_rfl) (fun W' h => by have hb := HNX.out W' h; exact hload6 W' hb.c0 hb.c1 hb.c2 hb.c3 hb.c4 hb.c5)) S0 ?_
  refine held_enter (i := 3) (some 18) (f := 41) (args := #[.agg #[.int .i64 p, .int .i64 (dn : Int), .int .i64 (en : Int), .slice ai il.length ci, .slice aj jl.length cj, .slice ak kl.length ck]]) (by kernel_rfl) rfl rfl rfl (by kernel_rfl) (l05Differential_any p dn en _ _ _ il jl kl wd (HNX.out wd S0).cx HM.out HC.out) ?_ (fun c w' h => by obtain ⟨_, h, _⟩ := h; cases h) (fun w' h => by obtain ⟨_, h, _⟩ := h; cases h)
  rintro e4 W4 ⟨u4, he4, hg4, hb4⟩
  injection he4 with he4
  subst he4
  have S1 : Below W.heap.size W W4 := S0.trans (hb4.mono S0.size)
  rw [← HDT.out] at hg4
  have hl4 := hg4.l2
  have hsh := Sl.shape hl4
  obtain ⟨ad, cd, rfl⟩ := hsh
  have HL4 := Lib.hid hl4
  refine ⟨S1, ?_⟩
  refine held_take (i := 4) (v := .int .i64 p) (some 3) rfl rfl (by kernel_rfl) (by kernel_rfl) (by kernel_rfl) (fun _ _ _ h => h) (yieldsIf_assign (by kernel_rfl) rfl (by kernel_rfl)) S1 ?_
  refine held_take (i := 5) (v := .slice ad dt.length cd) (some 4) rfl rfl (by kernel_rfl) (by kernel_rfl) (by kernel_rfl) (fun _ _ _ h => h) (yieldsIf_assign (by kernel_rfl) rfl (by kernel_rfl)) S1 ?_
  refine wpAnyH_done (by kernel_rfl) ?_ _
  simp only [Act.put, List.setIfInBounds_toArray, List.set_cons_zero, List.set_cons_succ]
  clear hg4 hl4 hb4 S0
  have HND : Hid (∀ W', Below W4.heap.size W4 W' → L2 0 W' (.slice ad dt.length cd) dt) := Lib.hid (fun W' h => HL4.out.below h)
  have HS1 := Lib.hid S1
  go_upto_region 2 with fail
  refine wp_region_held (S := fun W' => Below W4.heap.size W4 W') (by kernel_rfl) ?_
  have S0 : Below W4.heap.size W4 W4.drew := (Below.refl _ _).drew
  have HNY : Hid (∀ W', Below W4.heap.size W4 W' → Below W.heap.size W W') := Lib.hid (fun W' h => HS1.out.trans (h.mono HS1.out.size))
  change wpAnyH _ _ _ _ _ _ _ _ W4.drew
  clear S1 HL4
  generalize W4.drew = we at *
  refine held_take (i := 0) (v := .int .i64 p) (some 19) rfl rfl (by kernel_rfl) (by kernel_rfl) (by kernel_rfl) (fun _ _ _ h => h) (yieldsIf_move (by kernel_rfl) rfl (by kernel_rfl)) S0 ?_
  refine held_take (i := 1) (v := .pointer (some ⟨w.heap.size, 3, none⟩)) (some 20) rfl rfl (by kernel_rfl) (by kernel_rfl) (by kernel_rfl) (fun _ _ _ h => h) (yieldsIf_run (by kernel_rfl) (fun W _ => by kernel_rfl)) S0 ?_
  refine held_take (i := 2) (v := .slice ai il.length ci) (some 21) rfl rfl (by kernel_rfl) (by kernel_rfl) (by kernel_rfl) (fun _ _ _ h => h) (yieldsIf_cell (by kernel_rfl) rfl (by kernel_rfl) (fun W' h => hloadSSc W' ((HNX.out W' (HNY.out W' h)).c3))) S0 ?_
  refine held_take (i := 4) (v := .int .i64 p) (some 23) rfl rfl (by kernel_rfl) (by kernel_rfl) (by kernel_rfl) (fun _ _ _ h => h) (yieldsIf_move (by kernel_rfl) rfl (by kernel_rfl)) S0 ?_
  refine held_take (i := 5) (v := .slice ad dt.length cd) (some 24) rfl rfl (by kernel_rfl) (by kernel_rfl) (by kernel_rfl) (fun _ _ _ h => h) (yieldsIf_move (by kernel_rfl) rfl (by kernel_rfl)) S0 ?_
  refine held_take (i := 7) (v := .int .i64 p) (some 26) rfl rfl (by kernel_rfl) (by kernel_rfl) (by kernel_rfl) (fun _ _ _ h => h) (yieldsIf_move (by kernel_rfl) rfl (by kernel_rfl)) S0 ?_
  refine held_take (i := 8) (v := .pointer (some ⟨w.heap.size, 2, none⟩)) (some 27) rfl rfl (by kernel_rfl) (by kernel_rfl) (by kernel_rfl) (fun _ _ _ h => h) (yieldsIf_run (by kernel_rfl) (fun W _ => by kernel_rfl)) S0 ?_
  refine held_take (i := 9) (v := .int .i64 (en : Int)) (some 28) rfl rfl (by kernel_rfl) (by kernel_rfl) (by kernel_rfl) (fun _ _ _ h => h) (yieldsIf_cell (by kernel_rfl) rfl (by kernel_rfl) (fun W' h => hload W' ((HNX.out W' (HNY.out W' h)).c2))) S0 ?_
  refine held_take (i := 10) (v := .slice ad dt.length cd) (some 29) rfl rfl (by kernel_rfl) (by kernel_rfl) (by kernel_rfl) (fun _ _ _ h => h) (yieldsIf_move (by kernel_rfl) rfl (by kernel_rfl)) S0 ?_
  refine held_enter (i := 3) (some 22) (f := 42) (args := #[.int .i64 p, .slice ai il.length ci]) (by kernel_rfl) rfl rfl rfl (by kernel_rfl) (l01Echelon_any p dn _ (il.map ofL) we HP.out (by rw [HRI.out]; exact (HNX.out we (HNY.out we S0)).cx.fi) HMI.out HWI.out (by omega) (by rw [List.length_map, HLI.out]; omega)) ?_ (fun c w' h => by obtain ⟨_, _, h, _⟩ := h; cases h) (fun w' h => by obtain ⟨_, _, h, _⟩ := h; cases h)
  rintro e5 W5 ⟨u5, R5, he5, hg5, hb5, hr5, hn5⟩
  injection he5 with he5
  subst he5
  have S2 : Below W4.heap.size W4 W5 := S0.trans (hb5.mono S0.size)
  have hl5 := hg5.l2
  have hsh := Sl.shape hl5
  rw [List.length_map] at hsh
  obtain ⟨a5, c5, rfl⟩ := hsh
  have HL5 := Lib.hid hl5
  have HR5 := Lib.hid hr5
  refine ⟨S2, ?_⟩
  refine held_enter (i := 6) (some 25) (f := 42) (args := #[.int .i64 p, .slice ad dt.length cd]) (by kernel_rfl) rfl rfl rfl (by kernel_rfl) (l01Echelon_any p en _ (dt.map ofL) W5 HP.out (by rw [HRDD.out]; exact HND.out W5 S2) HMD.out HWD.out (by omega) (by rw [List.length_map, HLD.out]; omega)) ?_ (fun c w' h => by obtain ⟨_, _, h, _⟩ := h; cases h) (fun w' h => by obtain ⟨_, _, h, _⟩ := h; cases h)
  rintro e6 W6 ⟨u6, R6, he6, hg6, hb6, hr6, hn6⟩
  injection he6 with he6
  subst he6
  have S3 : Below W4.heap.size W4 W6 := S2.trans (hb6.mono S2.size)
  have hl6 := hg6.l2
  have hsh := Sl.shape hl6
  rw [List.length_map] at hsh
  obtain ⟨a6, c6, rfl⟩ := hsh
  have HL6 := Lib.hid hl6
  have HR6 := Lib.hid hr6
  have HL56 := Lib.hid (HL5.out.below hb6)
  refine ⟨S3, ?_⟩
  refine held_enter (i := 11) (some 30) (f := 43) (args := #[.int .i64 p, .int .i64 (en : Int), .slice ad dt.length cd]) (by kernel_rfl) rfl rfl rfl (by kernel_rfl) (l01Kernel_any p en en _ dt W6 HP.out (HND.out W6 S3) HLD.out HRD.out (by omega) (by omega)) ?_ (fun c w' h => by obtain ⟨_, _, h, _⟩ := h; cases h) (fun w' h => by obtain ⟨_, _, h, _⟩ := h; cases h)
  rintro e7 W7 ⟨u7, R7, he7, hg7, hb7, hr7⟩
  injection he7 with he7
  subst he7
  have S4 : Below W4.heap.size W4 W7 := S3.trans (hb7.mono S3.size)
  have hl7 := hg7.l2
  have hsh := Sl.shape hl7
  rw [List.length_map] at hsh
  obtain ⟨a7, c7, rfl⟩ := hsh
  have HL7 := Lib.hid hl7
  have HR7 := Lib.hid hr7
  have HL57 := Lib.hid (HL56.out.below hb7)
  have HL67 := Lib.hid (HL6.out.below hb7)
  refine ⟨S4, ?_⟩
  refine held_take (i := 12) (v := .slice a5 R5.length c5) (some 5) rfl rfl (by kernel_rfl) (by kernel_rfl) (by kernel_rfl) (fun _ _ _ h => h) (yieldsIf_assign (by kernel_rfl) rfl (by kernel_rfl)) S4 ?_
  refine held_take (i := 13) (v := .slice a6 R6.length c6) (some 6) rfl rfl (by kernel_rfl) (by kernel_rfl) (by kernel_rfl) (fun _ _ _ h => h) (yieldsIf_assign (by kernel_rfl) rfl (by kernel_rfl)) S4 ?_
  refine held_take (i := 14) (v := .slice a7 R7.length c7) (some 7) rfl rfl (by kernel_rfl) (by kernel_rfl) (by kernel_rfl) (fun _ _ _ h => h) (yieldsIf_assign (by kernel_rfl) rfl (by kernel_rfl)) S4 ?_
  refine wpAnyH_done (by kernel_rfl) ?_ _
  simp only [Act.put, List.setIfInBounds_toArray, List.set_cons_zero, List.set_cons_succ]
  have HS4 := Lib.hid (HNY.out W7 S4)
  have hR5 : R5.length ≤ 24 := by rw [List.length_map, HLI.out] at hn5; omega
  have hR6 : R6.length ≤ 24 := by rw [List.length_map, HLD.out] at hn6; omega
  have hR7 : R7.length ≤ 24 := by have := hr7.short; omega
  clear S0 S2 S3 S4 hg5 hg6 hg7 hl5 hl6 hl7 hr5 hr6 hr7 hn5 hn6 hb5 hb6 hb7 HL5 HL6 HL56 HND HS1 HNY
  go_wp2
  go_loopw [8, 9] (fun ov i wr => ∃ (k : Nat) (tt : List Lin.V), k ≤ R7.length ∧ i = .int .i64 k ∧ tt.length = k ∧ Hid (Below W7.heap.size W7 wr) ∧ Hid (Gs W7.heap.size wr ov (tt.map (toL en))) ∧ Hid (RestsOf p en R6 R7 tt)) (fun _ i _ => R7.length - (intOf i).toNat)
  case atStart => exact ⟨0, [], Nat.zero_le _, rfl, rfl, Lib.hid (below_alloc1 _ _), Lib.hid (Gs.new W7 (Nat.le_refl _)), Lib.hid (RestsOf.nil _ _ _ _)⟩
  case round =>
    obtain ⟨k, tt, hk, rfl, hTl, HB, HG, HR⟩ := hrel
    obtain ⟨wx, hwx⟩ : ∃ wx : World, wx = wr := ⟨_, rfl⟩
    subst hwx
    have hsx : W7.heap.size ≤ wx.heap.size := HB.out.size
    obtain ⟨an, cn, hov⟩ := Sl.shape HG.out.l2
    rw [List.length_map, hTl] at hov
    subst hov
    by_cases hlt : k < R7.length
    · refine Sl.cases (HL7.out.below HB.out) (fun _ _ hx _ => absurd hlt (by have := congrArg List.length hx; simp at this; simp [this])) (fun bt ot c9 hvv _ _ hcl => ?_)
      injection hvv with e1 e2 e3
      clear e2
      subst e1 e3
      obtain ⟨ur, hur, hrr⟩ := hcl k (by rw [List.length_map]; exact hlt)
      rw [List.getElem_map] at hrr
      obtain ⟨ar, cr, hus⟩ := l1_slice hrr
      subst hus
      obtain ⟨u, hu⟩ : ∃ u, u = R7[k] := ⟨_, rfl⟩
      rw [← hu] at hrr
      have HUE : Hid (∀ (h : tt.length < R7.length), R7[tt.length] = u) := Lib.hid (fun h => by
        subst hTl
        exact hu.symm)
      have HUM : Hid (Lin.Md p u) := Lib.hid (by rw [hu]; exact HR7.out.1.md _ (List.getElem_mem hlt))
      have HUW : Hid (Lin.Wd en u) := Lib.hid (by rw [hu]; exact HR7.out.2.1 _ (List.getElem_mem hlt))
      have HREST := Lib.hid (l01Rest_any p en _ _ R6 u wx HP.out (HL67.out.below HB.out) hrr HR6.out.red HR6.out.wd HUM.out HUW.out (by omega) (by omega))
      have hkl : (k : Int) < (R7.length : Int) := by omega
      clear hcl hrr hu
      go_wp2_with fail
      refine HREST.out.mono ?_
      rintro e W5 ⟨u5, r, rfl, hg5, hb5, hr5, hrw5⟩
      have HO5 := Lib.hid ((HG.out.below hb5).below (below_alloc1 W5 (.cells #[u5] 33)))
      have HG5 := Lib.hid (hg5.g1.below (below_alloc1 W5 (.cells #[u5] 33)))
      have HR5 : Hid (RestsOf p en R6 R7 (tt ++ [r])) := Lib.hid (HR.out.push (by omega) (by rw [HUE.out (by omega)]; exact hr5) hrw5)
      have HB5 := Lib.hid ((HB.out.trans (hb5.mono hsx)).trans ((below_alloc1 W5 (.cells #[u5] 33)).mono (by have := hb5.size; omega)))
      obtain ⟨a5', c5', hv5⟩ := l1_slice hg5.l1
      subst hv5
      have hcell := cell_alloc1 W5 (.slice a5' en c5') 33
      have hs5 : W7.heap.size ≤ W5.heap.size := by have := hb5.size; omega
      clear hg5 hb5 hr5 hrw5 HREST
      go_wp2_with (at_builtin; refine wpList_appendG rfl (some 47) rfl (.tmp 38) (.tmp 46) rfl W7.heap.size _ (tt.map (toL en)) rfl HO5.out W5.heap.size rfl a5' en c5' hcell _ HG5.out ?c1 ?c2 ?_)
      case c1 => rw [List.length_map]; omega
      case c2 => first | (simp; omega) | omega
      intro v9 W9 hg9 hgr9
      have HB9 : Hid (Below W7.heap.size W7 W9) := Lib.hid (HB5.out.grown hgr9 (by simp; omega) (fun g hg => ((World.ownsRow.lt HO5.out.choose_spec.1) g hg).1))
      have HG9 : Hid (Gs W7.heap.size W9 v9 ((tt ++ [r]).map (toL en))) := Lib.hid (by rw [List.map_append]; exact hg9)
      clear hg9 hgr9 hcell
      go_wp2
      go_roundw
      case rel => exact ⟨k + 1, tt ++ [r], by omega, by go_num, by simp [hTl], HB9, HG9, HR5⟩
      case measure => simp [intOf]; omega
    · have HTL : Hid (tt.length = R7.length) := Lib.hid (by omega)
      have htc : tt.length ≤ 24 := by omega
      have HTM : Hid (∀ x ∈ tt, Lin.Md p x) := Lib.hid (fun x hx => by
        obtain ⟨i, hi, rfl⟩ := List.getElem_of_mem hx
        exact (HR.out.rest i hi (by have := HTL.out; omega)).md)
      have HECH := Lib.hid (l01Echelon_any p en (.slice an k cn) tt wx HP.out HG.out.l2 HTM.out HR.out.wd (by omega) (by omega))
      clear hTl
      go_wp2_with fail
      refine HECH.out.mono ?_
      rintro e W8 ⟨u8, C, rfl, hg8, hb8, hr8, hn8⟩
      have hC : C.length ≤ 24 := by omega
      have HL8 := Lib.hid hg8.l2
      have HR8 := Lib.hid hr8
      obtain ⟨a8, c8, hv8⟩ := Sl.shape HL8.out
      rw [List.length_map] at hv8
      subst hv8
      have HB8 := Lib.hid (HB.out.trans (hb8.mono hsx))
      have HBW := Lib.hid (HS4.out.trans (HB8.out.mono HS4.out.size))
      have HL58 := Lib.hid (HL57.out.below HB8.out)
      have HL68 := Lib.hid (HL67.out.below HB8.out)
      have HX8 := Lib.hid (HNB.out W8 HBW.out)
      clear hg8 hb8 hr8 hn8 hk hlt HECH HB HG HL7 HL57 HL67 HB8 HBW HS4
      have HN5 : Hid (∀ W', Below W8.heap.size W8 W' → L2 0 W' (.slice a5 R5.length c5) (R5.map (toL dn))) := Lib.hid (fun W' h => HL58.out.below h)
      have HN6 : Hid (∀ W', Below W8.heap.size W8 W' → L2 0 W' (.slice a6 R6.length c6) (R6.map (toL en))) := Lib.hid (fun W' h => HL68.out.below h)
      have HN8 : Hid (∀ W', Below W8.heap.size W8 W' → L2 0 W' (.slice a8 C.length c8) (C.map (toL en))) := Lib.hid (fun W' h => HL8.out.below h)
      have HNZ : Hid (∀ W', Below W8.heap.size W8 W' → DvB w W' p dn en (.slice ai il.length ci) (.slice aj jl.length cj) (.slice ak kl.length ck) il jl kl) := Lib.hid (fun W' h => HX8.out.next h)
      have HSP : Hid (∀ k (h : k < R5.length), ∃ s, (Lin.Md p s ∧ Lin.Wd dn s) ∧ dimg p dn il s = R5[k]) := Lib.hid (fun k h => (sp_pre HP.out.lo1 HLI.out HMI.out).1 ((HR5.out.eqv _).1 (Lin.Sp.mem (List.getElem_mem h) (HR5.out.red.md _ (List.getElem_mem h)))))
      clear HL58 HL68 HL8 HX8 HNX HNB HXW
      go_upto_region 10 with fail
      refine forget_wp (fun W => Hid (Tr4 W8.heap.size W (W8.heap.size + 1 + 1 + 1) p R5.length C.length (.slice (some ⟨W8.heap.size, 0, none⟩) 0 0) (.slice (some ⟨W8.heap.size + 1, 0, none⟩) 0 0) (.slice (some ⟨W8.heap.size + 1 + 1, 0, none⟩) 0 0) [] [] [] ∧ Below W8.heap.size W8 W)) (Lib.hid ⟨Tr4.start W8 p R5.length C.length, ((((Below.refl _ _).alloc (Nat.le_refl _) _).alloc (by simp) _).alloc (by simp; omega) _).alloc (by simp; omega) _⟩) ?_
      intro WA HTA
      have HTR := Lib.hid HTA.out.1
      have HBA := Lib.hid HTA.out.2
      clear HTA
      go_wp2
      go_loopw [12, 13] (fun i _ wr => ∃ (k : Nat) (iv jv : Value) (rs : List Lin.V), k ≤ R5.length ∧ i = .int .i64 k ∧ rs.length = k ∧ Hid (Below W8.heap.size W8 wr) ∧ Hid (Tr4 W8.heap.size wr (W8.heap.size + 1 + 1 + 1) p R5.length C.length iv jv (.slice (some ⟨W8.heap.size + 1 + 1, 0, none⟩) 0 0) ((dcI p dn il R5 R5).take k) (rs.map (leadRow C)) []) ∧ Hid (∀ q (h : q < R5.length) (h' : q < rs.length), ∃ s, Lin.Md p s ∧ Lin.Wd dn s ∧ dimg p dn il s = R5[q] ∧ Lin.RestE p R6 (dimg p dn jl s) R6.length rs[q])) (fun i _ _ => R5.length - (intOf i).toNat)
      case atStart => exact ⟨0, _, _, [], Nat.zero_le _, rfl, rfl, HBA, HTR, Lib.hid (fun q _ h => absurd h (Nat.not_lt_zero _))⟩
      case round =>
        clear HTR HBA
        obtain ⟨k, iv, jv, rs, hk, rfl, hrl, HB, HTR, HRS⟩ := hrel
        obtain ⟨wx, hwx⟩ : ∃ wx : World, wx = wr := ⟨_, rfl⟩
        subst hwx
        have hsx : W8.heap.size ≤ wx.heap.size := HB.out.size
        by_cases hlt : k < R5.length
        · have hkw : k < (R5.map (toL dn)).length := by rw [List.length_map]; exact hlt
          refine Sl.cases (HN5.out W8 (Below.refl _ _)) (fun _ _ hx _ => absurd hkw (by simp [hx])) (fun bb ob c9 hvv _ _ hcl => ?_)
          injection hvv with e1 e2 e3
          clear e2
          subst e1 e3
          obtain ⟨ur, hur, hrr⟩ := hcl k hkw
          rw [List.getElem_map] at hrr
          obtain ⟨u, hu⟩ : ∃ u, u = R5[k] := ⟨_, rfl⟩
          rw [← hu] at hrr
          have HRR := Lib.hid hrr
          have HUR : Hid (∀ W', Below W8.heap.size W8 W' → W'.cell? ⟨bb, ob + k, none⟩ = some ur) := Lib.hid (fun W' h => later h (Nat.le_refl _) hur)
          have HUM : Hid (Lin.Md p u) := Lib.hid (by rw [hu]; exact HR5.out.red.md _ (List.getElem_mem hlt))
          have HUW : Hid (Lin.Wd dn u) := Lib.hid (by rw [hu]; exact HR5.out.wd _ (List.getElem_mem hlt))
          have HUE := Lib.hid hu
          have HAI := Lib.hid (dimg_apT (u := u) (d := dn) (c := dn) HP.out HLI.out HC.out.2.2.2.1.2 HUM.out)
          have HIK : Hid ((dcI p dn il R5 R5).take (k + 1) = (dcI p dn il R5 R5).take k ++ [leadRow R5 (dimg p dn il u)]) := Lib.hid (by
            have hl : k < (dcI p dn il R5 R5).length := by unfold dcI; rw [List.length_map]; exact hlt
            rw [List.take_succ_eq_append_getElem hl, hu]
            simp [dcI])
          have HIL : Hid (((dcI p dn il R5 R5).take k).length = k) := Lib.hid (by unfold dcI; rw [List.length_take, List.length_map]; omega)
          have hcv : wx.cell? ⟨W8.heap.size + 1 + 1 + 1, 3, none⟩ = some iv := HTR.out.cell rfl
          have hgt := HTR.out.lt
          clear hcl hur hrr hu
          go_upto_region 13 with fail
          refine wp_region_last (fun W' => Below W8.heap.size W8 W' ∧ W'.cell? ⟨W8.heap.size + 1 + 1 + 1, 3, none⟩ = some iv) 17 (by kernel_rfl) rfl (by kernel_rfl) ?_
          have S0 : Below W8.heap.size W8 wx.drew ∧ wx.drew.cell? ⟨W8.heap.size + 1 + 1 + 1, 3, none⟩ = some iv := ⟨HB.out.drew, later (Below.refl wx.heap.size wx).drew (Nat.le_refl _) hcv⟩
          have HTD := Lib.hid (HTR.out.next (Below.refl wx.heap.size wx).drew)
          change wpAnyH _ _ _ _ _ _ _ _ wx.drew
          clear HB HTR hcv hgt hsx
          generalize wx.drew = wd at *
          refine held_take (i := 0) (v := .pointer (some ⟨W8.heap.size + 1 + 1 + 1, 3, none⟩)) (some 66) rfl rfl (by kernel_rfl) (by kernel_rfl) (by kernel_rfl) (fun _ _ _ h => h) (yieldsIf_run (by kernel_rfl) (fun W _ => by kernel_rfl)) S0 ?_
          refine held_take (i := 1) (v := iv) (some 67) rfl rfl (by kernel_rfl) (by kernel_rfl) (by kernel_rfl) (fun _ _ _ h => h) (yieldsIf_cell (by kernel_rfl) rfl (by kernel_rfl) (fun W' h => hloadSSc W' h.2)) S0 ?_
          refine held_take (i := 2) (v := .slice (some ⟨bb, ob, none⟩) R5.length c5) (some 68) rfl rfl (by kernel_rfl) (by kernel_rfl) (by kernel_rfl) (fun _ _ _ h => h) (yieldsIf_move (by kernel_rfl) rfl (by kernel_rfl)) S0 ?_
          refine held_take (i := 3) (v := .int .i64 p) (some 69) rfl rfl (by kernel_rfl) (by kernel_rfl) (by kernel_rfl) (fun _ _ _ h => h) (yieldsIf_move (by kernel_rfl) rfl (by kernel_rfl)) S0 ?_
          refine held_take (i := 4) (v := .pointer (some ⟨w.heap.size, 3, none⟩)) (some 70) rfl rfl (by kernel_rfl) (by kernel_rfl) (by kernel_rfl) (fun _ _ _ h => h) (yieldsIf_run (by kernel_rfl) (fun W _ => by kernel_rfl)) S0 ?_
          refine held_take (i := 5) (v := .slice ai il.length ci) (some 71) rfl rfl (by kernel_rfl) (by kernel_rfl) (by kernel_rfl) (fun _ _ _ h => h) (yieldsIf_cell (by kernel_rfl) rfl (by kernel_rfl) (fun W' h => hloadSSc W' ((HNZ.out W' h.1).box.c3))) S0 ?_
          refine held_take (i := 6) (v := .slice (some ⟨bb, ob, none⟩) R5.length c5) (some 72) rfl rfl (by kernel_rfl) (by kernel_rfl) (by kernel_rfl) (fun _ _ _ h => h) (yieldsIf_move (by kernel_rfl) rfl (by kernel_rfl)) S0 ?_
          refine held_take (i := 7) (v := .int .i64 (k : Int)) (some 73) rfl rfl (by kernel_rfl) (by kernel_rfl) (by kernel_rfl) (fun _ _ _ h => h) (yieldsIf_move (by kernel_rfl) rfl (by kernel_rfl)) S0 ?_
          refine held_take (i := 8) (v := .pointer (some ⟨bb, ob + k, none⟩)) (some 74) rfl rfl (by kernel_rfl) (by kernel_rfl) (by kernel_rfl) (fun _ _ _ h => h) (yieldsIf_index (by kernel_rfl) rfl (by kernel_rfl) (by kernel_rfl) (hidxS bb ob c5 hlt)) S0 ?_
          refine held_take (i := 9) (v := ur) (some 75) rfl rfl (by kernel_rfl) (by kernel_rfl) (by kernel_rfl) (fun _ _ _ h => h) (yieldsIf_cell (by kernel_rfl) rfl (by kernel_rfl) (fun W' h => hloadS W' (HUR.out W' h.1))) S0 ?_
          refine held_take (i := 10) (v := .pointer (some ⟨w.heap.size, 1, none⟩)) (some 76) rfl rfl (by kernel_rfl) (by kernel_rfl) (by kernel_rfl) (fun _ _ _ h => h) (yieldsIf_run (by kernel_rfl) (fun W _ => by kernel_rfl)) S0 ?_
          refine held_take (i := 11) (v := .int .i64 (dn : Int)) (some 77) rfl rfl (by kernel_rfl) (by kernel_rfl) (by kernel_rfl) (fun _ _ _ h => h) (yieldsIf_cell (by kernel_rfl) rfl (by kernel_rfl) (fun W' h => hload W' ((HNZ.out W' h.1).box.c1))) S0 ?_
          refine held_enter (i := 12) (some 78) (f := 46) (args := #[.int .i64 p, .slice ai il.length ci, ur, .int .i64 (dn : Int)]) (by kernel_rfl) rfl rfl rfl (by kernel_rfl) (l01Apply_any p dn ur _ (toL dn u) il wd HAI.out.1 (HRR.out.below S0.1) (HNZ.out wd S0.1).box.cx.fi (by rw [toL_length]; omega) (by omega)) ?_ (fun c w' h => by obtain ⟨_, h, _⟩ := h; cases h) (fun w' h => by obtain ⟨_, h, _⟩ := h; cases h)
          rintro ea Wa ⟨ua, hea, hga, hba⟩
          injection hea with hea
          subst hea
          rw [HAI.out.2] at hga
          have Sa : Below W8.heap.size W8 Wa ∧ Wa.cell? ⟨W8.heap.size + 1 + 1 + 1, 3, none⟩ = some iv := ⟨S0.1.trans (hba.mono S0.1.size), later hba (Nat.le_refl _) S0.2⟩
          have HTa := Lib.hid (HTD.out.next hba)
          have HGa := Lib.hid (hga.lower (Nat.zero_le _))
          refine ⟨Sa, ?_⟩
          refine held_enter (i := 13) (some 79) (f := 45) (args := #[.slice (some ⟨bb, ob, none⟩) R5.length c5, ea]) (by kernel_rfl) rfl rfl rfl (by kernel_rfl) (l05Told_any dn _ ea R5 (dimg p dn il u) Wa (HN5.out Wa Sa.1) HGa.out HR5.out.red HR5.out.wd (by omega) (by omega)) ?_ (fun c w' h => by obtain ⟨_, h, _⟩ := h; cases h) (fun w' h => by obtain ⟨_, h, _⟩ := h; cases h)
          rintro eb Wb ⟨ub, heb, hgb, hbb⟩
          injection heb with heb
          subst heb
          have Sb : Below W8.heap.size W8 Wb ∧ Wb.cell? ⟨W8.heap.size + 1 + 1 + 1, 3, none⟩ = some iv := ⟨Sa.1.trans (hbb.mono Sa.1.size), later hbb (Nat.le_refl _) Sa.2⟩
          have HTb := Lib.hid (HTa.out.next hbb)
          have HGb := Lib.hid (hgb.mono Sa.1.size)
          obtain ⟨ab, nb, cb, hvb⟩ : ∃ a n c, eb = .slice a n c := by obtain ⟨a, cc, ee⟩ := Sl.shape hgb.l1; exact ⟨a, _, cc, ee⟩
          subst hvb
          refine ⟨Sb, ?_⟩
          have hbc : Below Wb.heap.size Wb (Wb.alloc (.cells #[.slice ab nb cb] 33)) := below_alloc1 _ _
          have Sc : Below W8.heap.size W8 (Wb.alloc (.cells #[.slice ab nb cb] 33)) ∧ (Wb.alloc (.cells #[.slice ab nb cb] 33)).cell? ⟨W8.heap.size + 1 + 1 + 1, 3, none⟩ = some iv := ⟨Sb.1.trans (hbc.mono Sb.1.size), later hbc (Nat.le_refl _) Sb.2⟩
          have HTc := Lib.hid (HTb.out.next hbc)
          refine held_buildS (i := 14) (some 80) (by kernel_rfl) rfl rfl rfl (.tmp 79) ab nb cb rfl (by kernel_rfl) ⟨Sc, ?_⟩
          refine held_appendGx (i := 15) (some 81) (by kernel_rfl) rfl rfl rfl (.tmp 67) (.tmp 80) rfl W8.heap.size iv _ (by kernel_rfl) HTc.out.fi Wb.heap.size ab nb cb (by kernel_rfl) (cell_alloc1 Wb _ _) (leadRow R5 (dimg p dn il u)) (HGb.out.below hbc) (by rw [HIL.out]; omega) Sc.1.size ?_
          intro v7 W7' hg7 hgr7 hat7
          have HP7 := Lib.hid (HTc.out.pushI hg7 hgr7 hat7)
          have hnb : iv.ownBlock ≠ some (W8.heap.size + 1 + 1 + 1) := own_ne HTc.out.fi.choose_spec.1 HTc.out.cs (by decide)
          have hb7 : W7'.heap[W8.heap.size + 1 + 1 + 1]? = _ := (hgr7.block _ HTc.out.lt (fun e => hnb e.symm)).trans HTc.out.cs
          have S7 : Below W8.heap.size W8 W7' ∧ W7'.cell? ⟨W8.heap.size + 1 + 1 + 1, 3, none⟩ = some iv := ⟨Sc.1.grown hgr7 Sc.1.size (fun g hg => ((World.ownsRow.lt HTc.out.fi.choose_spec.1) g hg).1), by simp [World.cell?, hb7]⟩
          have hf7 : W7'.frozen? ⟨W8.heap.size + 1 + 1 + 1, 3, none⟩ = false := by simp [World.frozen?, hb7]
          obtain ⟨a7', n7', c7', hv7⟩ : ∃ a n c, v7 = .slice a n c := by obtain ⟨a, cc, ee⟩ := Sl.shape hg7.l2; exact ⟨a, _, cc, ee⟩
          subst hv7
          refine ⟨S7, ?_⟩
          refine held_take (i := 16) (v := .pointer (some ⟨W8.heap.size + 1 + 1 + 1, 3, none⟩)) (some 82) rfl rfl (by kernel_rfl) (by kernel_rfl) (by kernel_rfl) (fun _ _ _ h => h) (yieldsIf_run (by kernel_rfl) (fun W _ => by kernel_rfl)) S7 ?_
          refine held_none (i := 17) (v := .bool false) rfl rfl (by kernel_rfl) (by kernel_rfl) (by kernel_rfl) (fun _ _ _ h => h) (yieldsIf_move (by kernel_rfl) rfl (by kernel_rfl)) S7 ?_
          refine wpAnyH_done (by kernel_rfl) (lastQ_storeTt rfl (by kernel_rfl) (by kernel_rfl) (.tmp 82) (.tmp 81) (by kernel_rfl) (W8.heap.size + 1 + 1 + 1) 3 a7' n7' c7' iv (by kernel_rfl) (by kernel_rfl) S7.2 hf7 ?_) _
          simp only [Act.put, List.setIfInBounds_toArray, List.set_cons_zero, List.set_cons_succ]
          have HB7 : Hid (Below W8.heap.size W8 (W7'.setCell ⟨W8.heap.size + 1 + 1 + 1, 3, none⟩ (.slice a7' n7' c7'))) := Lib.hid (S7.1.setCell (by show W8.heap.size ≤ W8.heap.size + 1 + 1 + 1; omega) _)
          rw [← HIK.out] at HP7
          clear S0 Sa Sb Sc S7 HTD HTa HTb HTc HGa HGb hga hba hgb hbb hbc hg7 hgr7 hat7 hnb hb7 hf7 HIK HIL HAI
          go_upto_region 14 with fail
          refine forget_wp (fun W => Hid (Tr4 W8.heap.size W (W8.heap.size + 1 + 1 + 1) p R5.length C.length (.slice a7' n7' c7') jv (.slice (some ⟨W8.heap.size + 1 + 1, 0, none⟩) 0 0) ((dcI p dn il R5 R5).take (k + 1)) (rs.map (leadRow C)) [] ∧ Below W8.heap.size W8 W)) (Lib.hid ⟨HP7.out, HB7.out⟩) ?_
          intro wy HTB
          have HTR := Lib.hid HTB.out.1
          have HB := Lib.hid HTB.out.2
          clear HTB HP7 HB7
          obtain ⟨u0, hu0⟩ := HSP.out k hlt
          rw [← HUE.out] at hu0
          have HU0 := Lib.hid hu0
          clear hu0
          refine wp_region_held (S := fun W' => Below W8.heap.size W8 W') (by kernel_rfl) ?_
          have S0 : Below W8.heap.size W8 wy.drew := HB.out.drew
          have HTD := Lib.hid (HTR.out.next (Below.refl wy.heap.size wy).drew)
          change wpAnyH _ _ _ _ _ _ _ _ wy.drew
          clear HB HTR
          generalize wy.drew = we at *
          refine held_take (i := 0) (v := .int .i64 p) (some 83) rfl rfl (by kernel_rfl) (by kernel_rfl) (by kernel_rfl) (fun _ _ _ h => h) (yieldsIf_move (by kernel_rfl) rfl (by kernel_rfl)) S0 ?_
          refine held_take (i := 1) (v := .pointer (some ⟨w.heap.size, 3, none⟩)) (some 84) rfl rfl (by kernel_rfl) (by kernel_rfl) (by kernel_rfl) (fun _ _ _ h => h) (yieldsIf_run (by kernel_rfl) (fun W _ => by kernel_rfl)) S0 ?_
          refine held_take (i := 2) (v := .slice ai il.length ci) (some 85) rfl rfl (by kernel_rfl) (by kernel_rfl) (by kernel_rfl) (fun _ _ _ h => h) (yieldsIf_cell (by kernel_rfl) rfl (by kernel_rfl) (fun W' h => hloadSSc W' ((HNZ.out W' h).box.c3))) S0 ?_
          refine held_take (i := 3) (v := .pointer (some ⟨w.heap.size, 1, none⟩)) (some 86) rfl rfl (by kernel_rfl) (by kernel_rfl) (by kernel_rfl) (fun _ _ _ h => h) (yieldsIf_run (by kernel_rfl) (fun W _ => by kernel_rfl)) S0 ?_
          refine held_take (i := 4) (v := .int .i64 (dn : Int)) (some 87) rfl rfl (by kernel_rfl) (by kernel_rfl) (by kernel_rfl) (fun _ _ _ h => h) (yieldsIf_cell (by kernel_rfl) rfl (by kernel_rfl) (fun W' h => hload W' ((HNZ.out W' h).box.c1))) S0 ?_
          refine held_take (i := 5) (v := .slice (some ⟨bb, ob, none⟩) R5.length c5) (some 88) rfl rfl (by kernel_rfl) (by kernel_rfl) (by kernel_rfl) (fun _ _ _ h => h) (yieldsIf_move (by kernel_rfl) rfl (by kernel_rfl)) S0 ?_
          refine held_take (i := 6) (v := .int .i64 (k : Int)) (some 89) rfl rfl (by kernel_rfl) (by kernel_rfl) (by kernel_rfl) (fun _ _ _ h => h) (yieldsIf_move (by kernel_rfl) rfl (by kernel_rfl)) S0 ?_
          refine held_take (i := 7) (v := .pointer (some ⟨bb, ob + k, none⟩)) (some 90) rfl rfl (by kernel_rfl) (by kernel_rfl) (by kernel_rfl) (fun _ _ _ h => h) (yieldsIf_index (by kernel_rfl) rfl (by kernel_rfl) (by kernel_rfl) (hidxS bb ob c5 hlt)) S0 ?_
          refine held_take (i := 8) (v := ur) (some 91) rfl rfl (by kernel_rfl) (by kernel_rfl) (by kernel_rfl) (fun _ _ _ h => h) (yieldsIf_cell (by kernel_rfl) rfl (by kernel_rfl) (fun W' h => hloadS W' (HUR.out W' h))) S0 ?_
          refine held_enter (i := 9) (some 92) (f := 47) (args := #[.int .i64 p, .slice ai il.length ci, .int .i64 (dn : Int), ur]) (by kernel_rfl) rfl rfl rfl (by kernel_rfl) (l05Before_any p dn dn u u0 _ ur il we HP.out (HNZ.out we S0).box.cx.fi (HRR.out.below S0) HLI.out HC.out.2.2.2.1.2 (by omega) (by omega) HUM.out HUW.out HU0.out.1.2 HU0.out.2) ?_ (fun c w' h => by obtain ⟨_, _, h, _⟩ := h; cases h) (fun w' h => by obtain ⟨_, _, h, _⟩ := h; cases h)
          rintro ec Wc ⟨uc, s, hec, hgc, hbc, hsm, hsw, hsu⟩
          injection hec with hec
          subst hec
          have Sc : Below W8.heap.size W8 Wc := S0.trans (hbc.mono S0.size)
          have HTc := Lib.hid (HTD.out.next hbc)
          have HGc := Lib.hid hgc.l1
          have HSM := Lib.hid hsm
          have HSW := Lib.hid hsw
          have HSU := Lib.hid hsu
          obtain ⟨ac, nc, cc, hvc⟩ : ∃ a n c, ec = .slice a n c := by obtain ⟨a, cc, ee⟩ := Sl.shape hgc.l1; exact ⟨a, _, cc, ee⟩
          subst hvc
          refine ⟨Sc, ?_⟩
          refine held_take (i := 10) (v := .slice ac nc cc) (some 13) rfl rfl (by kernel_rfl) (by kernel_rfl) (by kernel_rfl) (fun _ _ _ h => h) (yieldsIf_assign (by kernel_rfl) rfl (by kernel_rfl)) Sc ?_
          refine wpAnyH_done (by kernel_rfl) ?_ _
          simp only [Act.put, List.setIfInBounds_toArray, List.set_cons_zero, List.set_cons_succ]
          have HSC := Lib.hid Sc
          have HAJ := Lib.hid (dimg_apT (u := s) (d := dn) (c := en) HP.out HLJ.out HC.out.2.2.2.2.1.2 HSM.out)
          have HDM : Hid (Lin.Md p (dimg p dn jl s)) := Lib.hid (dimg_md (by have := HP.out.lo; omega) _ _ _)
          have HDW : Hid (Lin.Wd en (dimg p dn jl s)) := Lib.hid (dimg_wd HLJ.out HC.out.2.2.2.2.1.2 s)
          have hcv : Wc.cell? ⟨W8.heap.size + 1 + 1 + 1, 4, none⟩ = some jv := HTc.out.cell rfl
          clear S0 Sc HTD hgc hbc hsm hsw hsu HU0 HUR HRR
          go_upto_region 15 with fail
          refine wp_region_last (fun W' => Below W8.heap.size W8 W' ∧ W'.cell? ⟨W8.heap.size + 1 + 1 + 1, 4, none⟩ = some jv) 17 (by kernel_rfl) rfl (by kernel_rfl) ?_
          have S0 : Below W8.heap.size W8 Wc.drew ∧ Wc.drew.cell? ⟨W8.heap.size + 1 + 1 + 1, 4, none⟩ = some jv := ⟨HSC.out.drew, later (Below.refl Wc.heap.size Wc).drew (Nat.le_refl _) hcv⟩
          have HTD := Lib.hid (HTc.out.next (Below.refl Wc.heap.size Wc).drew)
          have HGD := Lib.hid (HGc.out.below (Below.refl Wc.heap.size Wc).drew)
          change wpAnyH _ _ _ _ _ _ _ _ Wc.drew
          clear HSC HTc HGc hcv
          generalize Wc.drew = wd2 at *
          refine held_take (i := 0) (v := .pointer (some ⟨W8.heap.size + 1 + 1 + 1, 4, none⟩)) (some 93) rfl rfl (by kernel_rfl) (by kernel_rfl) (by kernel_rfl) (fun _ _ _ h => h) (yieldsIf_run (by kernel_rfl) (fun W _ => by kernel_rfl)) S0 ?_
          refine held_take (i := 1) (v := jv) (some 94) rfl rfl (by kernel_rfl) (by kernel_rfl) (by kernel_rfl) (fun _ _ _ h => h) (yieldsIf_cell (by kernel_rfl) rfl (by kernel_rfl) (fun W' h => hloadSSc W' h.2)) S0 ?_
          refine held_take (i := 2) (v := .slice a8 C.length c8) (some 95) rfl rfl (by kernel_rfl) (by kernel_rfl) (by kernel_rfl) (fun _ _ _ h => h) (yieldsIf_move (by kernel_rfl) rfl (by kernel_rfl)) S0 ?_
          refine held_take (i := 3) (v := .int .i64 p) (some 96) rfl rfl (by kernel_rfl) (by kernel_rfl) (by kernel_rfl) (fun _ _ _ h => h) (yieldsIf_move (by kernel_rfl) rfl (by kernel_rfl)) S0 ?_
          refine held_take (i := 4) (v := .slice a6 R6.length c6) (some 97) rfl rfl (by kernel_rfl) (by kernel_rfl) (by kernel_rfl) (fun _ _ _ h => h) (yieldsIf_move (by kernel_rfl) rfl (by kernel_rfl)) S0 ?_
          refine held_take (i := 5) (v := .int .i64 p) (some 98) rfl rfl (by kernel_rfl) (by kernel_rfl) (by kernel_rfl) (fun _ _ _ h => h) (yieldsIf_move (by kernel_rfl) rfl (by kernel_rfl)) S0 ?_
          refine held_take (i := 6) (v := .pointer (some ⟨w.heap.size, 4, none⟩)) (some 99) rfl rfl (by kernel_rfl) (by kernel_rfl) (by kernel_rfl) (fun _ _ _ h => h) (yieldsIf_run (by kernel_rfl) (fun W _ => by kernel_rfl)) S0 ?_
          refine held_take (i := 7) (v := .slice aj jl.length cj) (some 100) rfl rfl (by kernel_rfl) (by kernel_rfl) (by kernel_rfl) (fun _ _ _ h => h) (yieldsIf_cell (by kernel_rfl) rfl (by kernel_rfl) (fun W' h => hloadSSc W' ((HNZ.out W' h.1).box.c4))) S0 ?_
          refine held_take (i := 8) (v := .slice ac nc cc) (some 101) rfl rfl (by kernel_rfl) (by kernel_rfl) (by kernel_rfl) (fun _ _ _ h => h) (yieldsIf_move (by kernel_rfl) rfl (by kernel_rfl)) S0 ?_
          refine held_take (i := 9) (v := .pointer (some ⟨w.heap.size, 2, none⟩)) (some 102) rfl rfl (by kernel_rfl) (by kernel_rfl) (by kernel_rfl) (fun _ _ _ h => h) (yieldsIf_run (by kernel_rfl) (fun W _ => by kernel_rfl)) S0 ?_
          refine held_take (i := 10) (v := .int .i64 (en : Int)) (some 103) rfl rfl (by kernel_rfl) (by kernel_rfl) (by kernel_rfl) (fun _ _ _ h => h) (yieldsIf_cell (by kernel_rfl) rfl (by kernel_rfl) (fun W' h => hload W' ((HNZ.out W' h.1).box.c2))) S0 ?_
          refine held_enter (i := 11) (some 104) (f := 46) (args := #[.int .i64 p, .slice aj jl.length cj, .slice ac nc cc, .int .i64 (en : Int)]) (by kernel_rfl) rfl rfl rfl (by kernel_rfl) (l01Apply_any p en _ _ (toL dn s) jl wd2 HAJ.out.1 HGD.out (HNZ.out wd2 S0.1).box.cx.fj (by rw [toL_length]; omega) (by omega)) ?_ (fun c w' h => by obtain ⟨_, h, _⟩ := h; cases h) (fun w' h => by obtain ⟨_, h, _⟩ := h; cases h)
          rintro ea Wa ⟨ua, hea, hga, hba⟩
          injection hea with hea
          subst hea
          rw [HAJ.out.2] at hga
          have Sa : Below W8.heap.size W8 Wa ∧ Wa.cell? ⟨W8.heap.size + 1 + 1 + 1, 4, none⟩ = some jv := ⟨S0.1.trans (hba.mono S0.1.size), later hba (Nat.le_refl _) S0.2⟩
          have HTa := Lib.hid (HTD.out.next hba)
          have HGa := Lib.hid (hga.lower (Nat.zero_le _))
          refine ⟨Sa, ?_⟩
          refine held_enter (i := 12) (some 105) (f := 44) (args := #[.int .i64 p, .slice a6 R6.length c6, ea]) (by kernel_rfl) rfl rfl rfl (by kernel_rfl) (l01RestE_any p en _ ea R6 (dimg p dn jl s) Wa HP.out (HN6.out Wa Sa.1) HGa.out HR6.out.red HR6.out.wd HDM.out HDW.out (by omega) (by omega)) ?_ (fun c w' h => by obtain ⟨_, _, h, _⟩ := h; cases h) (fun w' h => by obtain ⟨_, _, h, _⟩ := h; cases h)
          rintro ed Wd ⟨ud, r, hed, hgd, hbd, hrd, hrw⟩
          injection hed with hed
          subst hed
          have Se : Below W8.heap.size W8 Wd ∧ Wd.cell? ⟨W8.heap.size + 1 + 1 + 1, 4, none⟩ = some jv := ⟨Sa.1.trans (hbd.mono Sa.1.size), later hbd (Nat.le_refl _) Sa.2⟩
          have HTd := Lib.hid (HTa.out.next hbd)
          have HGd := Lib.hid hgd.l1
          have HRDE := Lib.hid hrd
          refine ⟨Se, ?_⟩
          refine held_enter (i := 13) (some 106) (f := 45) (args := #[.slice a8 C.length c8, ed]) (by kernel_rfl) rfl rfl rfl (by kernel_rfl) (l05Told_any en _ ed C r Wd (HN8.out Wd Se.1) HGd.out HR8.out.red HR8.out.wd (by omega) (by omega)) ?_ (fun c w' h => by obtain ⟨_, h, _⟩ := h; cases h) (fun w' h => by obtain ⟨_, h, _⟩ := h; cases h)
          rintro eb Wb ⟨ub, heb, hgb, hbb⟩
          injection heb with heb
          subst heb
          have Sb : Below W8.heap.size W8 Wb ∧ Wb.cell? ⟨W8.heap.size + 1 + 1 + 1, 4, none⟩ = some jv := ⟨Se.1.trans (hbb.mono Se.1.size), later hbb (Nat.le_refl _) Se.2⟩
          have HTb := Lib.hid (HTd.out.next hbb)
          have HGb := Lib.hid (hgb.mono Se.1.size)
          obtain ⟨ab, nb, cb, hvb⟩ : ∃ a n c, eb = .slice a n c := by obtain ⟨a, cc, ee⟩ := Sl.shape hgb.l1; exact ⟨a, _, cc, ee⟩
          subst hvb
          refine ⟨Sb, ?_⟩
          have hbc : Below Wb.heap.size Wb (Wb.alloc (.cells #[.slice ab nb cb] 33)) := below_alloc1 _ _
          have Sc : Below W8.heap.size W8 (Wb.alloc (.cells #[.slice ab nb cb] 33)) ∧ (Wb.alloc (.cells #[.slice ab nb cb] 33)).cell? ⟨W8.heap.size + 1 + 1 + 1, 4, none⟩ = some jv := ⟨Sb.1.trans (hbc.mono Sb.1.size), later hbc (Nat.le_refl _) Sb.2⟩
          have HTc := Lib.hid (HTb.out.next hbc)
          refine held_buildS (i := 14) (some 107) (by kernel_rfl) rfl rfl rfl (.tmp 106) ab nb cb rfl (by kernel_rfl) ⟨Sc, ?_⟩
          refine held_appendGx (i := 15) (some 108) (by kernel_rfl) rfl rfl rfl (.tmp 94) (.tmp 107) rfl W8.heap.size jv _ (by kernel_rfl) HTc.out.fj Wb.heap.size ab nb cb (by kernel_rfl) (cell_alloc1 Wb _ _) (leadRow C r) (HGb.out.below hbc) (by rw [List.length_map]; omega) Sc.1.size ?_
          intro v7 W9 hg7 hgr7 hat7
          have HP7 := Lib.hid (HTc.out.pushJ hg7 hgr7 hat7)
          have hnb : jv.ownBlock ≠ some (W8.heap.size + 1 + 1 + 1) := own_ne HTc.out.fj.choose_spec.1 HTc.out.cs (by decide)
          have hb7 : W9.heap[W8.heap.size + 1 + 1 + 1]? = _ := (hgr7.block _ HTc.out.lt (fun e => hnb e.symm)).trans HTc.out.cs
          have S7 : Below W8.heap.size W8 W9 ∧ W9.cell? ⟨W8.heap.size + 1 + 1 + 1, 4, none⟩ = some jv := ⟨Sc.1.grown hgr7 Sc.1.size (fun g hg => ((World.ownsRow.lt HTc.out.fj.choose_spec.1) g hg).1), by simp [World.cell?, hb7]⟩
          have hf7 : W9.frozen? ⟨W8.heap.size + 1 + 1 + 1, 4, none⟩ = false := by simp [World.frozen?, hb7]
          obtain ⟨a9, n9, c9', hv7⟩ : ∃ a n c, v7 = .slice a n c := by obtain ⟨a, cc, ee⟩ := Sl.shape hg7.l2; exact ⟨a, _, cc, ee⟩
          subst hv7
          refine ⟨S7, ?_⟩
          refine held_take (i := 16) (v := .pointer (some ⟨W8.heap.size + 1 + 1 + 1, 4, none⟩)) (some 109) rfl rfl (by kernel_rfl) (by kernel_rfl) (by kernel_rfl) (fun _ _ _ h => h) (yieldsIf_run (by kernel_rfl) (fun W _ => by kernel_rfl)) S7 ?_
          refine held_none (i := 17) (v := .bool false) rfl rfl (by kernel_rfl) (by kernel_rfl) (by kernel_rfl) (fun _ _ _ h => h) (yieldsIf_move (by kernel_rfl) rfl (by kernel_rfl)) S7 ?_
          refine wpAnyH_done (by kernel_rfl) (lastQ_storeTt rfl (by kernel_rfl) (by kernel_rfl) (.tmp 109) (.tmp 108) (by kernel_rfl) (W8.heap.size + 1 + 1 + 1) 4 a9 n9 c9' jv (by kernel_rfl) (by kernel_rfl) S7.2 hf7 ?_) _
          simp only [Act.put, List.setIfInBounds_toArray, List.set_cons_zero, List.set_cons_succ]
          have HB9 : Hid (Below W8.heap.size W8 (W9.setCell ⟨W8.heap.size + 1 + 1 + 1, 4, none⟩ (.slice a9 n9 c9'))) := Lib.hid (S7.1.setCell (by show W8.heap.size ≤ W8.heap.size + 1 + 1 + 1; omega) _)
          have HRS2 : Hid (∀ q (h : q < R5.length) (h' : q < (rs ++ [r]).length), ∃ s, Lin.Md p s ∧ Lin.Wd dn s ∧ dimg p dn il s = R5[q] ∧ Lin.RestE p R6 (dimg p dn jl s) R6.length (rs ++ [r])[q]) := Lib.hid (fun q h h' => by
            by_cases e : q < rs.length
            · rw [List.getElem_append_left e]
              exact HRS.out q h e
            · have e2 : q = k := by rw [List.length_append] at h'; simp at h'; omega
              subst e2
              rw [List.getElem_append_right (by omega)]
              exact ⟨s, HSM.out, HSW.out, HSU.out.trans HUE.out, by simpa [hrl] using HRDE.out⟩)
          have HP9 : Hid (Tr4 W8.heap.size (W9.setCell ⟨W8.heap.size + 1 + 1 + 1, 4, none⟩ (.slice a9 n9 c9')) (W8.heap.size + 1 + 1 + 1) p R5.length C.length (.slice a7' n7' c7') (.slice a9 n9 c9') (.slice (some ⟨W8.heap.size + 1 + 1, 0, none⟩) 0 0) ((dcI p dn il R5 R5).take (k + 1)) ((rs ++ [r]).map (leadRow C)) []) := Lib.hid (by rw [List.map_append]; exact HP7.out)
          clear S0 Sa Sb Sc Se S7 HTD HTa HTb HTc HTd HGa HGb HGd hga hba hgb hbb hbc hgd hbd hrd hrw hg7 hgr7 hat7 hnb hb7 hf7 HP7 HAJ HGD HRS
          go_wp2
          go_roundw
          case rel => exact ⟨k + 1, _, _, rs ++ [r], by omega, by go_num, by simp [hrl], HB9, HP9, HRS2⟩
          case measure => simp [intOf]; omega
        · have HIF : Hid ((dcI p dn il R5 R5).take k = dcI p dn il R5 R5) := Lib.hid (List.take_of_length_le (by unfold dcI; rw [List.length_map]; omega))
          rw [HIF.out] at HTR
          have HJ : Hid (DcJ p dn il jl R5 R6 rs) := Lib.hid ⟨by omega, HRS.out⟩
          have hKR : k = R5.length := by omega
          clear HIF HRS
          go_wp2
          go_loopw [14] (fun i wr => ∃ (m : Nat) (kv : Value), m ≤ C.length ∧ i = .int .i64 m ∧ Hid (Below W8.heap.size W8 wr) ∧ Hid (Tr4 W8.heap.size wr (W8.heap.size + 1 + 1 + 1) p R5.length C.length iv jv kv (dcI p dn il R5 R5) (rs.map (leadRow C)) ((dcI p en kl C R5).take m))) (fun i _ => C.length - (intOf i).toNat)
          case atStart => exact ⟨0, _, Nat.zero_le _, rfl, HB, by rw [List.take_zero]; exact HTR⟩
          case round =>
            clear HB HTR hsx
            obtain ⟨m, kv, hm, rfl, HB, HTR⟩ := hrel
            obtain ⟨wy, hwy⟩ : ∃ wy : World, wy = wr := ⟨_, rfl⟩
            subst hwy
            have hsx : W8.heap.size ≤ wy.heap.size := HB.out.size
            by_cases hlm : m < C.length
            · have hkw : m < (C.map (toL en)).length := by rw [List.length_map]; exact hlm
              refine Sl.cases (HN8.out W8 (Below.refl _ _)) (fun _ _ hx _ => absurd hkw (by simp [hx])) (fun bb ob c9 hvv _ _ hcl => ?_)
              injection hvv with e1 e2 e3
              clear e2
              subst e1 e3
              obtain ⟨ur, hur, hrr⟩ := hcl m hkw
              rw [List.getElem_map] at hrr
              obtain ⟨u, hu⟩ : ∃ u, u = C[m] := ⟨_, rfl⟩
              rw [← hu] at hrr
              have HRR := Lib.hid hrr
              have HUR : Hid (∀ W', Below W8.heap.size W8 W' → W'.cell? ⟨bb, ob + m, none⟩ = some ur) := Lib.hid (fun W' h => later h (Nat.le_refl _) hur)
              have HUM : Hid (Lin.Md p u) := Lib.hid (by rw [hu]; exact HR8.out.red.md _ (List.getElem_mem hlm))
              have HAI := Lib.hid (dimg_apT (u := u) (d := en) (c := dn) HP.out HLK.out HC.out.2.2.2.2.2.2 HUM.out)
              have HIK : Hid ((dcI p en kl C R5).take (m + 1) = (dcI p en kl C R5).take m ++ [leadRow R5 (dimg p en kl u)]) := Lib.hid (by
                have hl : m < (dcI p en kl C R5).length := by unfold dcI; rw [List.length_map]; exact hlm
                rw [List.take_succ_eq_append_getElem hl, hu]
                simp [dcI])
              have HIL : Hid (((dcI p en kl C R5).take m).length = m) := Lib.hid (by unfold dcI; rw [List.length_take, List.length_map]; omega)
              have hcv : wy.cell? ⟨W8.heap.size + 1 + 1 + 1, 5, none⟩ = some kv := HTR.out.cell rfl
              clear hcl hur hrr hu
              go_upto_region 19 with fail
              refine wp_region_last (fun W' => Below W8.heap.size W8 W' ∧ W'.cell? ⟨W8.heap.size + 1 + 1 + 1, 5, none⟩ = some kv) 17 (by kernel_rfl) rfl (by kernel_rfl) ?_
              have S0 : Below W8.heap.size W8 wy.drew ∧ wy.drew.cell? ⟨W8.heap.size + 1 + 1 + 1, 5, none⟩ = some kv := ⟨HB.out.drew, later (Below.refl wy.heap.size wy).drew (Nat.le_refl _) hcv⟩
              have HTD := Lib.hid (HTR.out.next (Below.refl wy.heap.size wy).drew)
              change wpAnyH _ _ _ _ _ _ _ _ wy.drew
              clear HB HTR hcv hsx
              generalize wy.drew = wd at *
              refine held_take (i := 0) (v := .pointer (some ⟨W8.heap.size + 1 + 1 + 1, 5, none⟩)) (some 116) rfl rfl (by kernel_rfl) (by kernel_rfl) (by kernel_rfl) (fun _ _ _ h => h) (yieldsIf_run (by kernel_rfl) (fun W _ => by kernel_rfl)) S0 ?_
              refine held_take (i := 1) (v := kv) (some 117) rfl rfl (by kernel_rfl) (by kernel_rfl) (by kernel_rfl) (fun _ _ _ h => h) (yieldsIf_cell (by kernel_rfl) rfl (by kernel_rfl) (fun W' h => hloadSSc W' h.2)) S0 ?_
              refine held_take (i := 2) (v := .slice a5 R5.length c5) (some 118) rfl rfl (by kernel_rfl) (by kernel_rfl) (by kernel_rfl) (fun _ _ _ h => h) (yieldsIf_move (by kernel_rfl) rfl (by kernel_rfl)) S0 ?_
              refine held_take (i := 3) (v := .int .i64 p) (some 119) rfl rfl (by kernel_rfl) (by kernel_rfl) (by kernel_rfl) (fun _ _ _ h => h) (yieldsIf_move (by kernel_rfl) rfl (by kernel_rfl)) S0 ?_
              refine held_take (i := 4) (v := .pointer (some ⟨w.heap.size, 5, none⟩)) (some 120) rfl rfl (by kernel_rfl) (by kernel_rfl) (by kernel_rfl) (fun _ _ _ h => h) (yieldsIf_run (by kernel_rfl) (fun W _ => by kernel_rfl)) S0 ?_
              refine held_take (i := 5) (v := .slice ak kl.length ck) (some 121) rfl rfl (by kernel_rfl) (by kernel_rfl) (by kernel_rfl) (fun _ _ _ h => h) (yieldsIf_cell (by kernel_rfl) rfl (by kernel_rfl) (fun W' h => hloadSSc W' ((HNZ.out W' h.1).box.c5))) S0 ?_
              refine held_take (i := 6) (v := .slice (some ⟨bb, ob, none⟩) C.length c8) (some 122) rfl rfl (by kernel_rfl) (by kernel_rfl) (by kernel_rfl) (fun _ _ _ h => h) (yieldsIf_move (by kernel_rfl) rfl (by kernel_rfl)) S0 ?_
              refine held_take (i := 7) (v := .int .i64 (m : Int)) (some 123) rfl rfl (by kernel_rfl) (by kernel_rfl) (by kernel_rfl) (fun _ _ _ h => h) (yieldsIf_move (by kernel_rfl) rfl (by kernel_rfl)) S0 ?_
              refine held_take (i := 8) (v := .pointer (some ⟨bb, ob + m, none⟩)) (some 124) rfl rfl (by kernel_rfl) (by kernel_rfl) (by kernel_rfl) (fun _ _ _ h => h) (yieldsIf_index (by kernel_rfl) rfl (by kernel_rfl) (by kernel_rfl) (hidxS bb ob c8 hlm)) S0 ?_
              refine held_take (i := 9) (v := ur) (some 125) rfl rfl (by kernel_rfl) (by kernel_rfl) (by kernel_rfl) (fun _ _ _ h => h) (yieldsIf_cell (by kernel_rfl) rfl (by kernel_rfl) (fun W' h => hloadS W' (HUR.out W' h.1))) S0 ?_
              refine held_take (i := 10) (v := .pointer (some ⟨w.heap.size, 1, none⟩)) (some 126) rfl rfl (by kernel_rfl) (by kernel_rfl) (by kernel_rfl) (fun _ _ _ h => h) (yieldsIf_run (by kernel_rfl) (fun W _ => by kernel_rfl)) S0 ?_
              refine held_take (i := 11) (v := .int .i64 (dn : Int)) (some 127) rfl rfl (by kernel_rfl) (by kernel_rfl) (by kernel_rfl) (fun _ _ _ h => h) (yieldsIf_cell (by kernel_rfl) rfl (by kernel_rfl) (fun W' h => hload W' ((HNZ.out W' h.1).box.c1))) S0 ?_
              refine held_enter (i := 12) (some 128) (f := 46) (args := #[.int .i64 p, .slice ak kl.length ck, ur, .int .i64 (dn : Int)]) (by kernel_rfl) rfl rfl rfl (by kernel_rfl) (l01Apply_any p dn ur _ (toL en u) kl wd HAI.out.1 (HRR.out.below S0.1) (HNZ.out wd S0.1).box.cx.fk (by rw [toL_length]; omega) (by omega)) ?_ (fun c w' h => by obtain ⟨_, h, _⟩ := h; cases h) (fun w' h => by obtain ⟨_, h, _⟩ := h; cases h)
              rintro ea Wa ⟨ua, hea, hga, hba⟩
              injection hea with hea
              subst hea
              rw [HAI.out.2] at hga
              have Sa : Below W8.heap.size W8 Wa ∧ Wa.cell? ⟨W8.heap.size + 1 + 1 + 1, 5, none⟩ = some kv := ⟨S0.1.trans (hba.mono S0.1.size), later hba (Nat.le_refl _) S0.2⟩
              have HTa := Lib.hid (HTD.out.next hba)
              have HGa := Lib.hid (hga.lower (Nat.zero_le _))
              refine ⟨Sa, ?_⟩
              refine held_enter (i := 13) (some 129) (f := 45) (args := #[.slice a5 R5.length c5, ea]) (by kernel_rfl) rfl rfl rfl (by kernel_rfl) (l05Told_any dn _ ea R5 (dimg p en kl u) Wa (HN5.out Wa Sa.1) HGa.out HR5.out.red HR5.out.wd (by omega) (by omega)) ?_ (fun c w' h => by obtain ⟨_, h, _⟩ := h; cases h) (fun w' h => by obtain ⟨_, h, _⟩ := h; cases h)
              rintro eb Wb ⟨ub, heb, hgb, hbb⟩
              injection heb with heb
              subst heb
              have Sb : Below W8.heap.size W8 Wb ∧ Wb.cell? ⟨W8.heap.size + 1 + 1 + 1, 5, none⟩ = some kv := ⟨Sa.1.trans (hbb.mono Sa.1.size), later hbb (Nat.le_refl _) Sa.2⟩
              have HTb := Lib.hid (HTa.out.next hbb)
              have HGb := Lib.hid (hgb.mono Sa.1.size)
              obtain ⟨ab, nb, cb, hvb⟩ : ∃ a n c, eb = .slice a n c := by obtain ⟨a, cc, ee⟩ := Sl.shape hgb.l1; exact ⟨a, _, cc, ee⟩
              subst hvb
              refine ⟨Sb, ?_⟩
              have hbc : Below Wb.heap.size Wb (Wb.alloc (.cells #[.slice ab nb cb] 33)) := below_alloc1 _ _
              have Sc : Below W8.heap.size W8 (Wb.alloc (.cells #[.slice ab nb cb] 33)) ∧ (Wb.alloc (.cells #[.slice ab nb cb] 33)).cell? ⟨W8.heap.size + 1 + 1 + 1, 5, none⟩ = some kv := ⟨Sb.1.trans (hbc.mono Sb.1.size), later hbc (Nat.le_refl _) Sb.2⟩
              have HTc := Lib.hid (HTb.out.next hbc)
              refine held_buildS (i := 14) (some 130) (by kernel_rfl) rfl rfl rfl (.tmp 129) ab nb cb rfl (by kernel_rfl) ⟨Sc, ?_⟩
              refine held_appendGx (i := 15) (some 131) (by kernel_rfl) rfl rfl rfl (.tmp 117) (.tmp 130) rfl W8.heap.size kv _ (by kernel_rfl) HTc.out.fk Wb.heap.size ab nb cb (by kernel_rfl) (cell_alloc1 Wb _ _) (leadRow R5 (dimg p en kl u)) (HGb.out.below hbc) (by rw [HIL.out]; omega) Sc.1.size ?_
              intro v7 W9 hg7 hgr7 hat7
              have HP7 := Lib.hid (HTc.out.pushK hg7 hgr7 hat7)
              have hnb : kv.ownBlock ≠ some (W8.heap.size + 1 + 1 + 1) := own_ne HTc.out.fk.choose_spec.1 HTc.out.cs (by decide)
              have hb7 : W9.heap[W8.heap.size + 1 + 1 + 1]? = _ := (hgr7.block _ HTc.out.lt (fun e => hnb e.symm)).trans HTc.out.cs
              have S7 : Below W8.heap.size W8 W9 ∧ W9.cell? ⟨W8.heap.size + 1 + 1 + 1, 5, none⟩ = some kv := ⟨Sc.1.grown hgr7 Sc.1.size (fun g hg => ((World.ownsRow.lt HTc.out.fk.choose_spec.1) g hg).1), by simp [World.cell?, hb7]⟩
              have hf7 : W9.frozen? ⟨W8.heap.size + 1 + 1 + 1, 5, none⟩ = false := by simp [World.frozen?, hb7]
              obtain ⟨a9, n9, c9', hv7⟩ : ∃ a n c, v7 = .slice a n c := by obtain ⟨a, cc, ee⟩ := Sl.shape hg7.l2; exact ⟨a, _, cc, ee⟩
              subst hv7
              refine ⟨S7, ?_⟩
              refine held_take (i := 16) (v := .pointer (some ⟨W8.heap.size + 1 + 1 + 1, 5, none⟩)) (some 132) rfl rfl (by kernel_rfl) (by kernel_rfl) (by kernel_rfl) (fun _ _ _ h => h) (yieldsIf_run (by kernel_rfl) (fun W _ => by kernel_rfl)) S7 ?_
              refine held_none (i := 17) (v := .bool false) rfl rfl (by kernel_rfl) (by kernel_rfl) (by kernel_rfl) (fun _ _ _ h => h) (yieldsIf_move (by kernel_rfl) rfl (by kernel_rfl)) S7 ?_
              refine wpAnyH_done (by kernel_rfl) (lastQ_storeTt rfl (by kernel_rfl) (by kernel_rfl) (.tmp 132) (.tmp 131) (by kernel_rfl) (W8.heap.size + 1 + 1 + 1) 5 a9 n9 c9' kv (by kernel_rfl) (by kernel_rfl) S7.2 hf7 ?_) _
              simp only [Act.put, List.setIfInBounds_toArray, List.set_cons_zero, List.set_cons_succ]
              have HB9 : Hid (Below W8.heap.size W8 (W9.setCell ⟨W8.heap.size + 1 + 1 + 1, 5, none⟩ (.slice a9 n9 c9'))) := Lib.hid (S7.1.setCell (by show W8.heap.size ≤ W8.heap.size + 1 + 1 + 1; omega) _)
              rw [← HIK.out] at HP7
              clear S0 Sa Sb Sc S7 HTD HTa HTb HTc HGa HGb hga hba hgb hbb hbc hg7 hgr7 hat7 hnb hb7 hf7 HIK HIL HAI
              go_wp2
              go_roundw
              case rel => exact ⟨m + 1, _, by omega, by go_num, HB9, HP7⟩
              case measure => simp [intOf]; omega
            · have HKF : Hid ((dcI p en kl C R5).take m = dcI p en kl C R5) := Lib.hid (List.take_of_length_le (by unfold dcI; rw [List.length_map]; omega))
              rw [HKF.out] at HTR
              obtain ⟨x1, y1, hv1⟩ := Sl.shape HTR.out.fi.l2
              obtain ⟨x2, y2, hv2⟩ := Sl.shape HTR.out.fj.l2
              obtain ⟨x3, y3, hv3⟩ := Sl.shape HTR.out.fk.l2
              subst hv1 hv2 hv3
              obtain ⟨n1, hn1⟩ : ∃ n, n = (dcI p dn il R5 R5).length := ⟨_, rfl⟩
              obtain ⟨n2, hn2⟩ : ∃ n, n = (rs.map (leadRow C)).length := ⟨_, rfl⟩
              obtain ⟨n3, hn3⟩ : ∃ n, n = (dcI p en kl C R5).length := ⟨_, rfl⟩
              have HN1 := Lib.hid hn1
              have HN2 := Lib.hid hn2
              have HN3 := Lib.hid hn3
              rw [← hn1, ← hn2, ← hn3] at HTR
              rw [← hn1, ← hn2]
              clear hn1 hn2 hn3
              obtain ⟨z0, z1, z2, z3, z4, z5, hz⟩ := (HNZ.out wy HB.out).res
              have k0 := HTR.out.cell (i := 0) rfl
              have k1 := HTR.out.cell (i := 1) rfl
              have k2 := HTR.out.cell (i := 2) rfl
              have k3 := HTR.out.cell (i := 3) rfl
              have k4 := HTR.out.cell (i := 4) rfl
              have k5 := HTR.out.cell (i := 5) rfl
              have r0 : wy.cell? ⟨w.heap.size + 1, 0, none⟩ = some z0 := by simp [World.cell?, hz]
              have r1 : wy.cell? ⟨w.heap.size + 1, 1, none⟩ = some z1 := by simp [World.cell?, hz]
              have r2 : wy.cell? ⟨w.heap.size + 1, 2, none⟩ = some z2 := by simp [World.cell?, hz]
              have r3 : wy.cell? ⟨w.heap.size + 1, 3, none⟩ = some z3 := by simp [World.cell?, hz]
              have r4 : wy.cell? ⟨w.heap.size + 1, 4, none⟩ = some z4 := by simp [World.cell?, hz]
              have r5 : wy.cell? ⟨w.heap.size + 1, 5, none⟩ = some z5 := by simp [World.cell?, hz]
              have rf : ∀ o, wy.frozen? ⟨w.heap.size + 1, o, none⟩ = false := fun o => by simp [World.frozen?, hz]
              have hlz : w.heap.size + 1 < wy.heap.size := (Array.getElem?_eq_some_iff.1 hz).1
              have HZ := Lib.hid hz
              have HBW := Lib.hid ((HNZ.out wy HB.out).box.below)
              have HLO : Hid (w.heap.size ≤ W8.heap.size) := Lib.hid ((HNZ.out W8 (Below.refl _ _)).box.below.size)
              clear hz
              go_wp2
              refine bodyPost_ret (v := .agg #[.int .i64 p, .int .i64 (R5.length : Int), .int .i64 (C.length : Int), .slice x1 n1 y1, .slice x2 n2 y2, .slice x3 n3 y3]) ?_ rfl ?_
              · simp only [results, HRES.out]
                go_simp
              · refine ⟨R5.length, C.length, dcI p dn il R5 R5, rs.map (leadRow C), dcI p en kl C R5, x1, y1, x2, y2, x3, y3, by rw [HN1.out, HN2.out, HN3.out], ?_, ⟨?_, ?_, ?_⟩, ⟨R5, R6, R7, C, tt, rs, HR5.out.red, HR5.out.eqv, HR6.out.red, by rw [← HDT.out]; exact HR6.out.eqv, by rw [← HDT.out]; exact HR7.out, HR.out, HTL.out, HR8.out.red, HR8.out.eqv, HJ.out, rfl, rfl, rfl, rfl, rfl⟩⟩
                · exact ((((((HBW.out.setCell (by show w.heap.size ≤ w.heap.size + 1; omega) _).setCell (by show w.heap.size ≤ w.heap.size + 1; omega) _).setCell (by show w.heap.size ≤ w.heap.size + 1; omega) _).setCell (by show w.heap.size ≤ w.heap.size + 1; omega) _).setCell (by show w.heap.size ≤ w.heap.size + 1; omega) _).setCell (by show w.heap.size ≤ w.heap.size + 1; omega) _)
                · have h := (gx_set6 HTR.out.fi HZ.out (.int .i64 p) (.int .i64 (R5.length : Int)) (.int .i64 (C.length : Int)) (.slice x1 n1 y1) (.slice x2 n2 y2) (.slice x3 n3 y3)).mono HLO.out
                  rw [HN1.out] at h ⊢
                  exact h
                · have h := (gx_set6 HTR.out.fj HZ.out (.int .i64 p) (.int .i64 (R5.length : Int)) (.int .i64 (C.length : Int)) (.slice x1 n1 y1) (.slice x2 n2 y2) (.slice x3 n3 y3)).mono HLO.out
                  rw [HN2.out] at h ⊢
                  exact h
                · have h := (gx_set6 HTR.out.fk HZ.out (.int .i64 p) (.int .i64 (R5.length : Int)) (.int .i64 (C.length : Int)) (.slice x1 n1 y1) (.slice x2 n2 y2) (.slice x3 n3 y3)).mono HLO.out
                  rw [HN3.out] at h ⊢
                  exact h
end Go.Proofs.YtckkbojankfdfaaDoor


namespace Go.Proofs.YtckkbojankfdfaaDoor
open Go.RowKit

theorem owns_same {V W : World} {lo n : Nat} {e : TypeId} {u : Value} {xs : List Value} (h : V.ownsRow lo e 1 u n xs) (hs : ∀ k, lo ≤ k → k < V.heap.size → W.heap[k]? = V.heap[k]?) : W.ownsRow lo e 1 u n xs := by
  refine ⟨h.1, ?_⟩
  rcases h.2 with h2 | ⟨g, cap, cur, hu, hb, hh, r⟩
  · exact Or.inl h2
  · exact Or.inr ⟨g, cap, cur, hu, hb, (hs g hb (Array.getElem?_eq_some_iff.1 hh).1).trans hh, r⟩
theorem Gx.same {V W : World} {lo : Nat} {u : Value} {t : List (List Int)} (h : Gx lo V u t) (hs : ∀ k, lo ≤ k → k < V.heap.size → W.heap[k]? = V.heap[k]?) : Gx lo W u t := by
  obtain ⟨vs, ho, hr⟩ := h
  exact ⟨vs, owns_same ho hs, fun k h1 h2 => owns_same (hr k h1 h2) hs⟩
/-- A page of the model in its box; the sizes that have been gathered lie off its tables. -/
structure SpZ (w W : World) (p : Int) (dn en : Nat) (iv jv kv ov : Value) (il jl kl : List (List Int)) (xs : List Int) : Prop where
  below : Below w.heap.size w W
  box : W.heap[w.heap.size]? = some (.cells #[.int .i64 p, .int .i64 (dn : Int), .int .i64 (en : Int), iv, jv, kv] 26 (0, 0))
  out : Gb w.heap.size W ov xs
  cx : (∀ W', Below w.heap.size w W' → Cp 0 W' iv jv kv il jl kl) ∨ ∃ lo V, (Gx lo V iv il ∧ Gx lo V jv jl ∧ Gx lo V kv kl) ∧ (∀ k, lo ≤ k → k < V.heap.size → W.heap[k]? = V.heap[k]?) ∧ V.heap.size ≤ W.heap.size ∧ w.heap.size < lo ∧ ∀ g, ov.ownBlock = some g → g < lo ∨ V.heap.size ≤ g
theorem SpZ.lt {w W : World} {p : Int} {dn en : Nat} {iv jv kv ov : Value} {il jl kl : List (List Int)} {xs : List Int} (h : SpZ w W p dn en iv jv kv ov il jl kl xs) : w.heap.size < W.heap.size := (Array.getElem?_eq_some_iff.1 h.box).1
theorem SpZ.cp {w W : World} {p : Int} {dn en : Nat} {iv jv kv ov : Value} {il jl kl : List (List Int)} {xs : List Int} (h : SpZ w W p dn en iv jv kv ov il jl kl xs) : Cp 0 W iv jv kv il jl kl := by
  rcases h.cx with h1 | ⟨lo, V, ⟨g1, g2, g3⟩, hs, _⟩
  · exact h1 W h.below
  · exact ⟨(g1.same hs).l2, (g2.same hs).l2, (g3.same hs).l2⟩
theorem SpZ.cell {w W : World} {p : Int} {dn en : Nat} {iv jv kv ov : Value} {il jl kl : List (List Int)} {xs : List Int} (h : SpZ w W p dn en iv jv kv ov il jl kl xs) {i : Nat} {x : Value} (hv : #[.int .i64 p, .int .i64 (dn : Int), .int .i64 (en : Int), iv, jv, kv][i]? = some x) : W.cell? ⟨w.heap.size, i, none⟩ = some x := by
  have h' := h.box
  simp [World.cell?, h', hv]
theorem SpZ.frozen {w W : World} {p : Int} {dn en : Nat} {iv jv kv ov : Value} {il jl kl : List (List Int)} {xs : List Int} (h : SpZ w W p dn en iv jv kv ov il jl kl xs) (i : Nat) : W.frozen? ⟨w.heap.size, i, none⟩ = false := by
  have h' := h.box
  simp [World.frozen?, h']
theorem SpZ.next {w W W' : World} {p : Int} {dn en : Nat} {iv jv kv ov : Value} {il jl kl : List (List Int)} {xs : List Int} (h : SpZ w W p dn en iv jv kv ov il jl kl xs) (hb : Below W.heap.size W W') : SpZ w W' p dn en iv jv kv ov il jl kl xs :=
  ⟨h.below.trans (hb.mono h.below.size), (hb.block _ h.lt).trans h.box, h.out.below hb, h.cx.imp id (fun ⟨lo, V, g, hs, h2, h3, h4⟩ => ⟨lo, V, g, fun k h5 h6 => (hb.block k (Nat.lt_of_lt_of_le h6 h2)).trans (hs k h5 h6), Nat.le_trans h2 hb.size, h3, h4⟩)⟩
/-- One size more. -/
theorem SpZ.push {w W W' : World} {p : Int} {dn en : Nat} {iv jv kv ov ov' : Value} {il jl kl : List (List Int)} {xs : List Int} {z : Int} (h : SpZ w W p dn en iv jv kv ov il jl kl xs) (hg : W.grownBy W' ov.ownBlock) (hn : Gb w.heap.size W' ov' (xs ++ [z])) (hat : ov'.ownBlock = ov.ownBlock ∨ ov'.ownBlock = some W.heap.size) : SpZ w W' p dn en iv jv kv ov' il jl kl (xs ++ [z]) := by
  have hne : ov.ownBlock ≠ some w.heap.size := own_ne h.out h.box (by decide)
  refine ⟨h.below.grown hg h.below.size (fun k hk => ((World.ownsRow.lt h.out) k hk).1), (hg.block _ h.lt (fun e => hne e.symm)).trans h.box, hn, h.cx.imp id (fun ⟨lo, V, g, hs, h2, h3, h4⟩ => ⟨lo, V, g, fun k h5 h6 => ?_, Nat.le_trans h2 hg.size, h3, fun q hq => ?_⟩)⟩
  · rw [hg.block k (Nat.lt_of_lt_of_le h6 h2) (fun e => by have := h4 k e.symm; omega)]
    exact hs k h5 h6
  · rcases hat with e | e
    · exact h4 q (by rw [← e]; exact hq)
    · rw [e] at hq
      injection hq with hq
      omega
theorem SpZ.put {w W W1 : World} {p : Int} {dn en d1 e1 : Nat} {iv jv kv ov x3 x4 x5 : Value} {il jl kl i1 j1 k1 : List (List Int)} {xs : List Int} (h : SpZ w W p dn en iv jv kv ov il jl kl xs) (hb : Below W.heap.size W W1) (g : Gx W.heap.size W1 x3 i1 ∧ Gx W.heap.size W1 x4 j1 ∧ Gx W.heap.size W1 x5 k1) :
    SpZ w ((((((W1.setCell ⟨w.heap.size, 0, none⟩ (.int .i64 p)).setCell ⟨w.heap.size, 1, none⟩ (.int .i64 (d1 : Int))).setCell ⟨w.heap.size, 2, none⟩ (.int .i64 (e1 : Int))).setCell ⟨w.heap.size, 3, none⟩ x3).setCell ⟨w.heap.size, 4, none⟩ x4).setCell ⟨w.heap.size, 5, none⟩ x5) p d1 e1 x3 x4 x5 ov i1 j1 k1 xs := by
  have h1 := h.next hb
  have hl := h.lt
  have hne : ov.ownBlock ≠ some w.heap.size := own_ne h1.out h1.box (by decide)
  have hO : ∀ k o x (V : World), k ≠ w.heap.size → (V.setCell ⟨w.heap.size, o, none⟩ x).heap[k]? = V.heap[k]? := fun k o x V hk => Below.heap_setCell V ⟨w.heap.size, o, none⟩ x _ hk
  refine ⟨((((((h1.below.setCell (Nat.le_refl _) _).setCell (Nat.le_refl _) _).setCell (Nat.le_refl _) _).setCell (Nat.le_refl _) _).setCell (Nat.le_refl _) _).setCell (Nat.le_refl _) _), set6_block h1.box _ _ _ _ _ _,
    ownsRow_setCell_other (ownsRow_setCell_other (ownsRow_setCell_other (ownsRow_setCell_other (ownsRow_setCell_other (ownsRow_setCell_other h1.out hne _) hne _) hne _) hne _) hne _) hne _,
    Or.inr ⟨W.heap.size, W1, g, fun k h5 _ => ?_, by simp, hl, fun q hq => Or.inl ((World.ownsRow.lt h.out) q hq).2⟩⟩
  rw [hO _ _ _ _ (by omega), hO _ _ _ _ (by omega), hO _ _ _ _ (by omega), hO _ _ _ _ (by omega), hO _ _ _ _ (by omega), hO _ _ _ _ (by omega)]

set_option maxHeartbeats 3200000 in
set_option maxRecDepth 100000 in
theorem spPageSizes_any (p d e n : Int) (iv jv kv : Value) (il jl kl : List (List Int)) (w : World) (h : Cp 0 w iv jv kv il jl kl) (hm : CpB 1048576 il jl kl) :
    Calls Tryd.prog 13 #[.agg #[.int .i64 p, .int .i64 d, .int .i64 e, iv, jv, kv], .int .i64 n] w (AnsS (L1 0) (Psz n.toNat (p, d, e, il, jl, kl)) [] (pzCode p d e il jl kl n) w) := by
  obtain ⟨⟨ai, ci, rfl⟩, ⟨aj, cj, rfl⟩, ⟨ak, ck, rfl⟩⟩ := h.shapes
  have HM := Lib.hid hm
  have HX0 := Lib.hid (BxCp.start 26 h (p := p) (d := d) (e := e))
  have HH := Lib.hid h
  clear h hm
  obtain ⟨ec, hec⟩ : ∃ ec, ec = xcCode p d e il jl kl := ⟨_, rfl⟩
  have HEC := Lib.hid hec
  clear hec
  by_cases hgood : ec = 0 ∧ 1 ≤ n ∧ n ≤ 12
  · obtain ⟨rfl, hn1, hn2⟩ := hgood
    obtain ⟨hc, hx⟩ := xc_zero HEC.out.symm
    have HPC : Hid (pzCode p d e il jl kl n = 0) := Lib.hid ((pz_xc hc ⟨hn1, hn2⟩).trans HEC.out.symm)
    obtain ⟨dn, hdn⟩ := Int.eq_ofNat_of_zero_le hc.2.1.1
    obtain ⟨en, hen⟩ := Int.eq_ofNat_of_zero_le hc.2.2.1.1
    subst hdn hen
    obtain ⟨m, hm⟩ := Int.eq_ofNat_of_zero_le (show 0 ≤ n by omega)
    subst hm
    have HG0 : Hid (CpG (p, (dn : Int), (en : Int), il, jl, kl)) := Lib.hid ⟨hc, hx⟩
    obtain ⟨o, ho⟩ : ∃ o : CpO, o = (p, (dn : Int), (en : Int), il, jl, kl) := ⟨_, rfl⟩
    have HO := Lib.hid ho
    rw [← ho, HPC.out]
    clear hc hx ho
    go_enter Tryd.func13, Tryd.ntmps13
    go_upto_region 1 with fail
    refine forget_wp (fun W => BxCp w W w.heap.size p dn en (.slice ai il.length ci) (.slice aj jl.length cj) (.slice ak kl.length ck) il jl kl ∧ W.heap[w.heap.size]? = some (.cells #[.int .i64 p, .int .i64 (dn : Int), .int .i64 (en : Int), .slice ai il.length ci, .slice aj jl.length cj, .slice ak kl.length ck] 26 (0, 0))) ⟨HX0.out, heap_alloc_new _ _⟩ ?_
    intro W hxx
    have HX := Lib.hid hxx.1
    have HBX := Lib.hid hxx.2
    clear hxx HX0
    have k0 := HX.out.c0
    have k1 := HX.out.c1
    have k2 := HX.out.c2
    have k3 := HX.out.c3
    have k4 := HX.out.c4
    have k5 := HX.out.c5
    go_wp2_with fail
    refine (l05Code_any p dn en _ _ _ il jl kl W HX.out.cx HM.out).mono ?_
    rintro ee w2 ⟨rfl, hb⟩
    rw [← HEC.out]
    have HX2 := Lib.hid (HX.out.next hb)
    have HBX2 := Lib.hid ((hb.block _ (Array.getElem?_eq_some_iff.1 HBX.out).1).trans HBX.out)
    clear hb HX HBX k0 k1 k2 k3 k4 k5
    have HIN := Lib.hid (spin_yes (n := (m : Int)) (lo := 1) (hi := 12) ⟨hn1, hn2⟩ w2)
    go_wp2_with fail
    refine HIN.out.mono ?_
    rintro ee wq ⟨rfl, hwq⟩
    rw [← hwq]
    clear hwq HIN
    go_upto_region 7 with fail
    refine forget_wp (fun W => Hid (SpZ w W p dn en (.slice ai il.length ci) (.slice aj jl.length cj) (.slice ak kl.length ck) (.slice (some ⟨w2.heap.size, 0, none⟩) 0 0) il jl kl [])) (Lib.hid ?_) ?_
    · have hba := below_alloc1 w2 (.cells #[] 2)
      exact ⟨(HX2.out.next hba).below, (hba.block _ HX2.out.lt).trans HBX2.out, Gb.new w2 HX2.out.below.size, Or.inl (fun W' hb => HH.out.below hb)⟩
    intro w3 HX3
    clear HX2 HBX2 HH
    go_loopw [1, 7] (fun i ov wr => ∃ (q : Nat) (dx ex : Nat) (iv jv kv : Value) (il jl kl : List (List Int)) (xs : List Int), i = .int .i64 q ∧ (q ≤ m ∧ xs.length + q = m) ∧ Hid (SpZ w wr p dx ex iv jv kv ov il jl kl xs) ∧ Hid (CpG (p, (dx : Int), (ex : Int), il, jl, kl)) ∧ Hid (∀ ys, Psz q (p, (dx : Int), (ex : Int), il, jl, kl) ys → Psz m o (xs ++ ys))) (fun i _ _ => (intOf i).toNat)
    case atStart => exact ⟨m, dn, en, _, _, _, il, jl, kl, [], rfl, ⟨Nat.le_refl _, by simp⟩, HX3, HG0, Lib.hid (fun ys h => by rw [HO.out]; simpa using h)⟩
    case round =>
      clear HX3 HG0 HO
      obtain ⟨q, dn, en, iv, jv, kv, il, jl, kl, xs, rfl, hqm, HX, HG, HF⟩ := hrel
      obtain ⟨wx, hwx⟩ : ∃ wx : World, wx = wr := ⟨_, rfl⟩
      subst hwx
      obtain ⟨⟨ai, ci, rfl⟩, ⟨aj, cj, rfl⟩, ⟨ak, ck, rfl⟩⟩ := HX.out.cp.shapes
      obtain ⟨oa, oc, hov⟩ := Sl.shape HX.out.out.g1.l1
      obtain ⟨t, ht⟩ : ∃ t, t = xs.length := ⟨_, rfl⟩
      rw [← ht] at hov
      have HT := Lib.hid ht
      subst hov
      have hxl : xs.length ≤ 12 := by omega
      have HQM := Lib.hid hqm
      clear hqm ht
      by_cases hlt : 0 < q
      · have hba : Below wx.heap.size wx (wx.alloc (.cells #[.int .i64 (en : Int)] 2)) := below_alloc1 _ _
        have HXa := Lib.hid (HX.out.next hba)
        have hcell : (wx.alloc (.cells #[.int .i64 (en : Int)] 2)).cell? ⟨wx.heap.size, 0, none⟩ = some (.int .i64 (en : Int)) := by simp
        have hlw : w.heap.size ≤ (wx.alloc (.cells #[.int .i64 (en : Int)] 2)).heap.size := HXa.out.below.size
        have HLW := Lib.hid hlw
        have k0 := HX.out.cell (i := 0) rfl
        have k1 := HX.out.cell (i := 1) rfl
        have k2 := HX.out.cell (i := 2) rfl
        have k3 := HX.out.cell (i := 3) rfl
        have k4 := HX.out.cell (i := 4) rfl
        have k5 := HX.out.cell (i := 5) rfl
        have hq0 : (0 : Int) < (q : Int) := by omega
        clear hba hlw
        go_wp2_with (at_builtin; refine wpList_appendTz rfl (some 29) rfl (.tmp 25) (.tmp 28) rfl w.heap.size _ xs rfl wx.heap.size 1 (en : Int) rfl HXa.out.out hcell ?c1 ?c2 ?_)
        case c1 => omega
        case c2 => first | exact HLW.out | (have := HLW.out; simp at this; omega)
        intro v9 W9 hg9 hgr9 hat9
        have HX9 := Lib.hid (HXa.out.push hgr9 hg9 (by first | exact hat9 | simpa using hat9))
        obtain ⟨ta, tc, htv⟩ := Sl.shape hg9.g1.l1
        obtain ⟨m9, hm9⟩ : ∃ m9, m9 = (xs ++ [(en : Int)]).length := ⟨_, rfl⟩
        rw [← hm9] at htv
        subst htv
        clear hg9 hgr9 hat9 hcell hm9 HX HXa k0 k1 k2 k3 k4 k5 HLW
        have HDV := Lib.hid (l05DeriveX_any p dn en _ _ _ il jl kl W9 HX9.out.cp HG.out.bd HG.out.cp (by simpa using HG.out.ex))
        have k0 := HX9.out.cell (i := 0) rfl
        have k1 := HX9.out.cell (i := 1) rfl
        have k2 := HX9.out.cell (i := 2) rfl
        have k3 := HX9.out.cell (i := 3) rfl
        have k4 := HX9.out.cell (i := 4) rfl
        have k5 := HX9.out.cell (i := 5) rfl
        go_wp2_with fail
        refine HDV.out.mono ?_
        rintro ee W3 ⟨d1, e1, i1, j1, k1', x1, y1, x2, y2, x3, y3, rfl, hb3, g3, hdc⟩
        have HD1 : Hid (DcO (p, (dn : Int), (en : Int), il, jl, kl) (p, (d1 : Int), (e1 : Int), i1, j1, k1')) := Lib.hid ⟨d1, e1, i1, j1, k1', rfl, by simpa using hdc⟩
        have HP3 := Lib.hid (HX9.out.put (d1 := d1) (e1 := e1) hb3 g3)
        have HX3 := Lib.hid (HX9.out.next hb3)
        obtain ⟨n1, hn1'⟩ : ∃ n, n = i1.length := ⟨_, rfl⟩
        obtain ⟨n2, hn2'⟩ : ∃ n, n = j1.length := ⟨_, rfl⟩
        obtain ⟨n3, hn3'⟩ : ∃ n, n = k1'.length := ⟨_, rfl⟩
        rw [← hn1', ← hn2', ← hn3'] at HP3
        rw [← hn1', ← hn2', ← hn3']
        have HG3 := Lib.hid (DcO.good HG.out HD1.out)
        obtain ⟨r, hr⟩ : ∃ r, q = r + 1 := ⟨q - 1, by omega⟩
        have HF3 : Hid (∀ ys, Psz r (p, (d1 : Int), (e1 : Int), i1, j1, k1') ys → Psz m o ((xs ++ [(en : Int)]) ++ ys)) := Lib.hid (fun ys h => by
          rw [List.append_assoc]
          exact HF.out _ (by rw [hr]; exact Psz.cons HD1.out h))
        have hqr : ((q : Int) - 1) = (r : Int) := by omega
        have HR3 : Hid (r ≤ m ∧ (xs ++ [(en : Int)]).length + r = m) := Lib.hid ⟨by have := HQM.out; omega, by have := HQM.out; rw [List.length_append, List.length_singleton]; omega⟩
        have HRQ := Lib.hid hqr
        have hr12 : r ≤ 12 := by have := HR3.out; omega
        have HW64 : Hid (wrap64 (r : Int) = (r : Int)) := Lib.hid (by unfold wrap64; omega)
        have hr4 : r < q := by omega
        have dd0 := HX3.out.cell (i := 0) rfl
        have dd1 := HX3.out.cell (i := 1) rfl
        have dd2 := HX3.out.cell (i := 2) rfl
        have dd3 := HX3.out.cell (i := 3) rfl
        have dd4 := HX3.out.cell (i := 4) rfl
        have dd5 := HX3.out.cell (i := 5) rfl
        have hfz3 := HX3.out.frozen
        have hl3 := HX3.out.lt
        clear HDV hb3 g3 hdc hn1' hn2' hn3' HX9 HX3 HD1 k0 k1 k2 k3 k4 k5 hr hqr
        go_wp2
        rw [HRQ.out]
        go_roundw
        case rel => exact ⟨r, d1, e1, _, _, _, i1, j1, k1', xs ++ [(en : Int)], by rw [HW64.out], HR3.out, HP3, HG3, HF3⟩
        case measure => rw [HW64.out]; simp [intOf]; omega
      · have hq0 : q = 0 := by omega
        have HQ0 := Lib.hid hq0
        have HFF : Hid (Psz m o xs) := Lib.hid (by
          have h1 := HF.out [] (by rw [hq0]; exact Psz.nil)
          simpa using h1)
        have hnq : ¬ (0 : Int) < (q : Int) := by omega
        have HL1 := Lib.hid (HX.out.out.g1.l1)
        have HB := Lib.hid HX.out.below
        clear HF HX hq0
        go_wp2
        go_ret2
        exact ⟨_, xs, 0, rfl, HL1.out, HB.out, RsOut.of_yes rfl HFF.out⟩
  · by_cases hc : IsCp p d e il jl kl
    · by_cases hn : 1 ≤ n ∧ n ≤ 12
      · have he5 : ec = 5 := by
          by_cases hx : ExOk p d.toNat e.toNat il jl kl
          · exact absurd ⟨HEC.out.trans (xc_ok hc hx), hn⟩ hgood
          · exact HEC.out.trans (xc_st hc hx)
        have HPC : Hid (pzCode p d e il jl kl n = 5) := Lib.hid ((pz_xc hc hn).trans (HEC.out.symm.trans he5))
        subst he5
        go_enter Tryd.func13, Tryd.ntmps13
        go_upto_region 1 with fail
        refine forget_wp (fun W => BxCp w W w.heap.size p d e (.slice ai il.length ci) (.slice aj jl.length cj) (.slice ak kl.length ck) il jl kl) HX0.out ?_
        intro W hxx
        have HX := Lib.hid hxx
        clear hxx HX0 hgood
        have k0 := HX.out.c0
        have k1 := HX.out.c1
        have k2 := HX.out.c2
        have k3 := HX.out.c3
        have k4 := HX.out.c4
        have k5 := HX.out.c5
        go_wp2_with fail
        refine (l05Code_any p d e _ _ _ il jl kl W HX.out.cx HM.out).mono ?_
        rintro ee w2 ⟨rfl, hb⟩
        rw [← HEC.out]
        have HB2 := Lib.hid (HX.out.next hb).below
        clear hb HX k0 k1 k2 k3 k4 k5
        have HIN := Lib.hid (spin_yes (n := n) (lo := 1) (hi := 12) hn w2)
        clear hn
        go_wp2_with fail
        refine HIN.out.mono ?_
        rintro ee wq ⟨rfl, hwq⟩
        rw [← hwq]
        clear hwq HIN
        go_wp2
        go_ret2
        exact ⟨_, [], 5, rfl, Or.inl ⟨rfl, _, _, rfl⟩, HB2.out, by rw [HPC.out]; exact RsOut.of_no (by decide)⟩
      · have HPC := Lib.hid (pz_rg hc hn)
        have hne1 : ec ≠ 1 := by
          by_cases hx : ExOk p d.toNat e.toNat il jl kl
          · rw [HEC.out, xc_ok hc hx]; decide
          · rw [HEC.out, xc_st hc hx]; decide
        have hnb : (ec != 1) = true := by simp [hne1]
        go_enter Tryd.func13, Tryd.ntmps13
        go_upto_region 1 with fail
        refine forget_wp (fun W => BxCp w W w.heap.size p d e (.slice ai il.length ci) (.slice aj jl.length cj) (.slice ak kl.length ck) il jl kl) HX0.out ?_
        intro W hxx
        have HX := Lib.hid hxx
        clear hxx HX0 hgood
        have k0 := HX.out.c0
        have k1 := HX.out.c1
        have k2 := HX.out.c2
        have k3 := HX.out.c3
        have k4 := HX.out.c4
        have k5 := HX.out.c5
        go_wp2_with fail
        refine (l05Code_any p d e _ _ _ il jl kl W HX.out.cx HM.out).mono ?_
        rintro ee w2 ⟨rfl, hb⟩
        rw [← HEC.out]
        have HB2 := Lib.hid (HX.out.next hb).below
        clear hb HX k0 k1 k2 k3 k4 k5
        have HIN := Lib.hid (spin_no hn w2)
        clear hn hne1
        go_wp2_with fail
        refine HIN.out.mono ?_
        rintro ee wq ⟨rfl, hwq⟩
        rw [← hwq]
        clear hwq HIN
        go_wp2
        go_ret2
        exact ⟨_, [], 2, rfl, Or.inl ⟨rfl, _, _, rfl⟩, HB2.out, by rw [HPC.out]; exact RsOut.of_no (by decide)⟩
    · have HPC := Lib.hid (pz_no (n := n) hc)
      have he1 : ec = 1 := HEC.out.trans (xc_no hc)
      subst he1
      go_enter Tryd.func13, Tryd.ntmps13
      go_upto_region 1 with fail
      refine forget_wp (fun W => BxCp w W w.heap.size p d e (.slice ai il.length ci) (.slice aj jl.length cj) (.slice ak kl.length ck) il jl kl) HX0.out ?_
      intro W hxx
      have HX := Lib.hid hxx
      clear hxx HX0 hgood
      have k0 := HX.out.c0
      have k1 := HX.out.c1
      have k2 := HX.out.c2
      have k3 := HX.out.c3
      have k4 := HX.out.c4
      have k5 := HX.out.c5
      go_wp2_with fail
      refine (l05Code_any p d e _ _ _ il jl kl W HX.out.cx HM.out).mono ?_
      rintro ee w2 ⟨rfl, hb⟩
      rw [← HEC.out]
      have HB2 := Lib.hid (HX.out.next hb).below
      clear hb HX k0 k1 k2 k3 k4 k5
      go_wp2
      go_ret2
      exact ⟨_, [], 1, rfl, Or.inl ⟨rfl, _, _, rfl⟩, HB2.out, by rw [HPC.out]; exact RsOut.of_no (by decide)⟩
end Go.Proofs.YtckkbojankfdfaaDoor


namespace Go.Proofs.YtckkbojankfdfaaDoor
open Go.RowKit

set_option maxHeartbeats 12800000 in
set_option maxRecDepth 100000 in
theorem lawPzl_any (p0 d0 e0 : Int) (iv0 jv0 kv0 : Value) (il0 : List (List Int)) (jl0 : List (List Int)) (kl0 : List (List Int)) (n1 : Int) (w : World) (h0 : Cp 0 w iv0 jv0 kv0 il0 jl0 kl0) (hml0 : CpB 9223372036854775807 il0 jl0 kl0) {pvg : Value} (hgl : w.cell? ⟨0, 0, none⟩ = some (.iface 109 pvg)) :
    Calls Tryd.prog 4 #[.agg #[.int .i64 p0, .int .i64 d0, .int .i64 e0, iv0, jv0, kv0], .int .i64 n1] w (BR (.bool true) w) := by
  obtain ⟨W0, hW0⟩ : ∃ W0, W0 = (w.alloc (.cells #[.int .i64 p0, .int .i64 d0, .int .i64 e0, iv0, jv0, kv0] 24)) := ⟨_, rfl⟩
  have HS0 : Hid (W0.heap.size = w.heap.size + 1) := Lib.hid (by rw [hW0]; simp)
  have HZ0 : Hid (Below w.heap.size w W0) := Lib.hid (by rw [hW0]; exact below_alloc1 _ _)
  have HK0 : Hid (BxCp w W0 (w.heap.size) p0 d0 e0 iv0 jv0 kv0 il0 jl0 kl0) := Lib.hid (by rw [hW0]; exact BxCp.start _ h0)
  have HN0 : Hid (∀ W, Below (w.heap.size + 1) W0 W → BxCp w W (w.heap.size) p0 d0 e0 iv0 jv0 kv0 il0 jl0 kl0) := Lib.hid (fun W hb => HK0.out.next (by rw [HS0.out]; exact hb))
  have HNW : Hid (∀ W, Below (w.heap.size + 1) W0 W → Below w.heap.size w W) := Lib.hid (fun W hb => HZ0.out.trans (hb.mono (by omega)))
  have HB : Hid (Below (w.heap.size + 1) W0 W0) := Lib.hid (Below.refl _ _)
  have hs0 : w.heap.size + 1 ≤ W0.heap.size := by have := HS0.out; omega
  have HGL : Hid (∀ W, Below (w.heap.size + 1) W0 W → W.cell? ⟨0, 0, none⟩ = some (.iface 109 pvg)) := Lib.hid (fun W hb => later (HNW.out W hb) (Nat.le_refl _) hgl)
  clear hgl
  have HML0 := Lib.hid hml0
  clear h0 hml0 HK0
  go_enter Tryd.func4, Tryd.ntmps4
  go_upto_region 1 with fail
  rw [← hW0]
  clear hW0
  have c00 := (HN0.out _ HB.out).c0
  have c01 := (HN0.out _ HB.out).c1
  have c02 := (HN0.out _ HB.out).c2
  have c03 := (HN0.out _ HB.out).c3
  have c04 := (HN0.out _ HB.out).c4
  have c05 := (HN0.out _ HB.out).c5
  go_wp2_with fail
  refine (szCouple_any p0 d0 e0 iv0 jv0 kv0 il0 jl0 kl0 1048576 _ (HN0.out _ HB.out).cx (by omega) (by omega) HML0.out).mono ?_
  rintro ee wz0 ⟨sz0, rfl, hb, hpost⟩
  have hsz0 : W0.heap.size ≤ wz0.heap.size := hb.size
  have HB' := Lib.hid (HB.out.trans (hb.mono (by omega)))
  clear c00 c01 c02 c03 c04 c05
  clear hb HB
  have HB := HB'
  clear HB'
  rcases hpost with rfl | ⟨hp00, hp01, hpm0⟩
  · go_wp2
    go_ret
    exact ⟨rfl, HNW.out _ HB.out⟩
  have HMS0 := Lib.hid hpm0
  clear hpm0
  have c00 := (HN0.out _ HB.out).c0
  have c01 := (HN0.out _ HB.out).c1
  have c02 := (HN0.out _ HB.out).c2
  have c03 := (HN0.out _ HB.out).c3
  have c04 := (HN0.out _ HB.out).c4
  have c05 := (HN0.out _ HB.out).c5
  have HQd : Hid (Below wz0.heap.size wz0 wz0) := Lib.hid (Below.refl _ _)
  go_wp2_with fail
  refine (toCouple_any p0 d0 e0 iv0 jv0 kv0 il0 jl0 kl0 _ (HN0.out _ HB.out).cx HMS0.out).mono ?_
  rintro ee wS0 ⟨xiv0_S, xjv0_S, xkv0_S, rfl, hc, hb⟩
  have hsS0 : wz0.heap.size ≤ wS0.heap.size := hb.size
  have HBS0 := Lib.hid (HB.out.trans (hb.mono (by omega)))
  have HQ0 := Lib.hid (HQd.out.trans (hb.mono (by omega)))
  have HXS00 := Lib.hid (hc.zero)
  clear hb hc
  clear c00 c01 c02 c03 c04 c05
  go_wp2_with fail
  refine (spPageSizes_any p0 d0 e0 n1 xiv0_S xjv0_S xkv0_S il0 jl0 kl0 _ (HXS00.out) HMS0.out).mono ?_
  rintro ee wSr ⟨uS, oS, kS, rfl, hrS, hb, hoS⟩
  have hsSr : wS0.heap.size ≤ wSr.heap.size := hb.size
  have HBSr := Lib.hid (HBS0.out.trans (hb.mono (by omega)))
  have HQr := Lib.hid (HQ0.out.trans (hb.mono (by omega)))
  have HRS := Lib.hid hrS
  have HOS := Lib.hid hoS
  clear hb hoS hrS
  have hb := HQr.out
  clear HQd HQr HQ0 HXS00 HBS0 HBSr
  have HB' := Lib.hid (HB.out.trans (hb.mono (by omega)))
  clear hb HB
  have HB := HB'
  clear HB'
  have HBD : Hid (oS.length ≤ 1048576) := Lib.hid (HOS.out.all (Q := fun o => o.length ≤ 1048576) (by simp) (fun h0 a ha => by rw [Psz.len ha]; have := (pz_zero h0).2.2; omega))
  have HK : Hid (Below wSr.heap.size wSr wSr) := Lib.hid (Below.refl _ _)
  have c00 := (HN0.out _ HB.out).c0
  have c01 := (HN0.out _ HB.out).c1
  have c02 := (HN0.out _ HB.out).c2
  have c03 := (HN0.out _ HB.out).c3
  have c04 := (HN0.out _ HB.out).c4
  have c05 := (HN0.out _ HB.out).c5
  go_wp2_with fail
  refine (toCouplew_any p0 d0 e0 iv0 jv0 kv0 il0 jl0 kl0 _ (HN0.out _ HB.out).cx HMS0.out).mono ?_
  rintro ee wc0 ⟨yiv0, yjv0, ykv0, rfl, hc, hb⟩
  have hsc0 : wSr.heap.size ≤ wc0.heap.size := hb.size
  clear c00 c01 c02 c03 c04 c05
  have HB' := Lib.hid (HB.out.trans (hb.mono (by omega)))
  have HK' := Lib.hid (HK.out.trans (hb.mono (by omega)))
  clear hb HB HK
  have HB := HB'
  have HK := HK'
  clear HB' HK'
  have HC0 := Lib.hid hc
  obtain ⟨⟨ya0i, yc0i, rfl⟩, ⟨ya0j, yc0j, rfl⟩, ⟨ya0k, yc0k, rfl⟩⟩ := hc.cx.shapes
  clear hc
  obtain ⟨wb0, hwb⟩ : ∃ wb0, wb0 = wc0.alloc (.cells #[.int .i64 p0, .int .i64 d0, .int .i64 e0, .slice ya0i il0.length yc0i, .slice ya0j jl0.length yc0j, .slice ya0k kl0.length yc0k] 26) := ⟨_, rfl⟩
  have hb : Below wc0.heap.size wc0 wb0 := by rw [hwb]; exact below_alloc1 _ _
  have hsb0 : wc0.heap.size + 1 = wb0.heap.size := by rw [hwb]; simp
  have hsB0 : wc0.heap.size ≤ wb0.heap.size := by omega
  have HY0 : Hid (BqCp wb0 wc0.heap.size p0 d0 e0 (.slice ya0i il0.length yc0i) (.slice ya0j jl0.length yc0j) (.slice ya0k kl0.length yc0k) il0 jl0 kl0) := Lib.hid (by rw [hwb]; exact (BxCp.start _ HC0.out.cx.zero).bq)
  have HB' := Lib.hid (HB.out.trans (hb.mono (by omega)))
  have HK' := Lib.hid (HK.out.trans (hb.mono (by omega)))
  have HC0' := Lib.hid (HC0.out.same (Same.of_below hb (by omega)))
  clear hb HB HK HC0
  have HB := HB'
  have HK := HK'
  have HC0 := HC0'
  clear HB' HK' HC0'
  go_upto_region 7 with fail
  rw [← hwb]
  clear hwb
  have d00 := HY0.out.c0
  have d01 := HY0.out.c1
  have d02 := HY0.out.c2
  have d03 := HY0.out.c3
  have d04 := HY0.out.c4
  have d05 := HY0.out.c5
  go_wp2_with fail
  refine (pageSizes_any p0 d0 e0 n1 _ _ _ il0 jl0 kl0 _ (HC0.out.cx.zero) HMS0.out (HGL.out _ HB.out)).mono ?_
  rintro ee w7 ⟨u7, o7, k7, rfl, hw7, hb, hout7⟩
  obtain ⟨rfl, rfl⟩ := RsOut.unique (fun h0 _ _ ha hb => Psz.unique ha ⟨(pz_zero h0).1, (pz_zero h0).2.1⟩ hb) HOS.out hout7
  have hs7 : wb0.heap.size ≤ w7.heap.size := hb.size
  clear d00 d01 d02 d03 d04 d05
  have HB' := Lib.hid (HB.out.trans (hb.mono (by omega)))
  have HK' := Lib.hid (HK.out.trans (hb.mono (by omega)))
  have HC0' := Lib.hid (HC0.out.same (Same.of_below hb (by omega)))
  have HY0' := Lib.hid (HY0.out.next hb)
  clear hb HB HK HC0 HY0
  have HB := HB'
  have HK := HK'
  have HC0 := HC0'
  have HY0 := HY0'
  clear HB' HK' HC0' HY0'
  have HG := Lib.hid hw7
  clear hw7 hout7
  have hcode : (kS != kS) = false := by simp
  obtain ⟨aG, cG, eG⟩ := HG.out.shape
  obtain ⟨aS, cS, eS⟩ := Sl.shape HRS.out
  subst eG eS
  go_wp2_with fail
  refine (eq1_true _ _ oS _ HG.out.l (HRS.out.below HK.out) HBD.out).mono ?_
  rintro ee we1 ⟨rfl, hb⟩
  have hse1 : w7.heap.size ≤ we1.heap.size := hb.size
  have HB' := Lib.hid (HB.out.trans (hb.mono (by omega)))
  have HK' := Lib.hid (HK.out.trans (hb.mono (by omega)))
  have HC0' := Lib.hid (HC0.out.same (Same.of_below hb (by omega)))
  have HY0' := Lib.hid (HY0.out.next hb)
  have HG' := Lib.hid (HG.out.same (Same.of_below hb (by omega)))
  clear hb HB HK HC0 HY0 HG
  have HB := HB'
  have HK := HK'
  have HC0 := HC0'
  have HY0 := HY0'
  have HG := HG'
  clear HB' HK' HC0' HY0' HG'
  have c00 := (HN0.out _ HB.out).c0
  have c01 := (HN0.out _ HB.out).c1
  have c02 := (HN0.out _ HB.out).c2
  have c03 := (HN0.out _ HB.out).c3
  have c04 := (HN0.out _ HB.out).c4
  have c05 := (HN0.out _ HB.out).c5
  have d00 := HY0.out.c0
  have d01 := HY0.out.c1
  have d02 := HY0.out.c2
  have d03 := HY0.out.c3
  have d04 := HY0.out.c4
  have d05 := HY0.out.c5
  have HCX := Lib.hid (((HN0.out _ HB.out).cx).drew)
  have HCC := Lib.hid ((HY0.out.cx).drew)
  go_wp2_with fail
  go_region_held3 (fun w' => w'.cell? ⟨w.heap.size, 0, none⟩ = some (.int .i64 p0) ∧ w'.cell? ⟨w.heap.size, 1, none⟩ = some (.int .i64 d0) ∧ w'.cell? ⟨w.heap.size, 2, none⟩ = some (.int .i64 e0) ∧ w'.cell? ⟨w.heap.size, 3, none⟩ = some (iv0) ∧ w'.cell? ⟨w.heap.size, 4, none⟩ = some (jv0) ∧ w'.cell? ⟨w.heap.size, 5, none⟩ = some (kv0) ∧ w'.cell? ⟨wc0.heap.size, 0, none⟩ = some (.int .i64 p0) ∧ w'.cell? ⟨wc0.heap.size, 1, none⟩ = some (.int .i64 d0) ∧ w'.cell? ⟨wc0.heap.size, 2, none⟩ = some (.int .i64 e0) ∧ w'.cell? ⟨wc0.heap.size, 3, none⟩ = some (.slice ya0i il0.length yc0i) ∧ w'.cell? ⟨wc0.heap.size, 4, none⟩ = some (.slice ya0j jl0.length yc0j) ∧ w'.cell? ⟨wc0.heap.size, 5, none⟩ = some (.slice ya0k kl0.length yc0k))
    (first | exact ⟨c00, c01, c02, c03, c04, c05, d00, d01, d02, d03, d04, d05⟩ | exact HS9.out | exact HSA.out | go_keep)
    (first
      | (go_at_call 8; refine (toCouple_any p0 d0 e0 iv0 jv0 kv0 il0 jl0 kl0 _ HCX.out HMS0.out).mono ?_; rintro ee w9 ⟨ziv09, zjv09, zkv09, rfl, hcx9, hb9⟩; have HS9 := Lib.hid (And.intro (later hb9 (Nat.le_refl _) c00) (And.intro (later hb9 (Nat.le_refl _) c01) (And.intro (later hb9 (Nat.le_refl _) c02) (And.intro (later hb9 (Nat.le_refl _) c03) (And.intro (later hb9 (Nat.le_refl _) c04) (And.intro (later hb9 (Nat.le_refl _) c05) (And.intro (later hb9 (Nat.le_refl _) d00) (And.intro (later hb9 (Nat.le_refl _) d01) (And.intro (later hb9 (Nat.le_refl _) d02) (And.intro (later hb9 (Nat.le_refl _) d03) (And.intro (later hb9 (Nat.le_refl _) d04) (later hb9 (Nat.le_refl _) d05)))))))))))); have HX9 := Lib.hid (And.intro hcx9 (And.intro (HCC.out.below hb9) (Below.trans ((Below.refl we1.heap.size we1).drew) hb9))); clear hcx9 hb9)
      | (go_at_call 10; refine (eqCouple_true p0 d0 e0 _ _ _ ziv09 zjv09 zkv09 il0 jl0 kl0 _ HX9.out.2.1 HX9.out.1.zero HMS0.out).mono ?_; rintro ee wA0 ⟨rfl, hbA⟩; have HSA := Lib.hid (And.intro (later hbA (Nat.le_refl _) (HS9.out.1)) (And.intro (later hbA (Nat.le_refl _) (HS9.out.2.1)) (And.intro (later hbA (Nat.le_refl _) (HS9.out.2.2.1)) (And.intro (later hbA (Nat.le_refl _) (HS9.out.2.2.2.1)) (And.intro (later hbA (Nat.le_refl _) (HS9.out.2.2.2.2.1)) (And.intro (later hbA (Nat.le_refl _) (HS9.out.2.2.2.2.2.1)) (And.intro (later hbA (Nat.le_refl _) (HS9.out.2.2.2.2.2.2.1)) (And.intro (later hbA (Nat.le_refl _) (HS9.out.2.2.2.2.2.2.2.1)) (And.intro (later hbA (Nat.le_refl _) (HS9.out.2.2.2.2.2.2.2.2.1)) (And.intro (later hbA (Nat.le_refl _) (HS9.out.2.2.2.2.2.2.2.2.2.1)) (And.intro (later hbA (Nat.le_refl _) (HS9.out.2.2.2.2.2.2.2.2.2.2.1)) (later hbA (Nat.le_refl _) (HS9.out.2.2.2.2.2.2.2.2.2.2.2))))))))))))); have HXA := Lib.hid (Below.trans HX9.out.2.2 (hbA.mono HX9.out.2.2.size)); clear hbA))
  have hsa0 : we1.heap.size ≤ wA0.heap.size := HXA.out.size
  have hb := HXA.out
  clear c00 c01 c02 c03 c04 c05
  clear d00 d01 d02 d03 d04 d05
  clear HXA HSA HS9 HX9 HCX HCC
  have HB' := Lib.hid (HB.out.trans (hb.mono (by omega)))
  have HK' := Lib.hid (HK.out.trans (hb.mono (by omega)))
  have HC0' := Lib.hid (HC0.out.same (Same.of_below hb (by omega)))
  have HY0' := Lib.hid (HY0.out.next hb)
  have HG' := Lib.hid (HG.out.same (Same.of_below hb (by omega)))
  clear hb HB HK HC0 HY0 HG
  have HB := HB'
  have HK := HK'
  have HC0 := HC0'
  have HY0 := HY0'
  have HG := HG'
  clear HB' HK' HC0' HY0' HG'
  have d00 := HY0.out.c0
  have d01 := HY0.out.c1
  have d02 := HY0.out.c2
  have d03 := HY0.out.c3
  have d04 := HY0.out.c4
  have d05 := HY0.out.c5
  go_wp2_with fail
  refine (markCoupleK_any 1 p0 d0 e0 _ _ _ il0 jl0 kl0 _ HC0.out (by omega) HMS0.out (by omega) (by omega)).mono ?_
  rintro ee wD0 ⟨r0, wM, rfl, hr00, hr01, hb, hoM, htM⟩
  have hsM0 : wA0.heap.size ≤ wM.heap.size := hb.size
  have hsD0 : wD0.heap.size = wM.heap.size := hoM.size
  have hsE0 : wA0.heap.size ≤ wD0.heap.size := by omega
  clear d00 d01 d02 d03 d04 d05
  have HB' := Lib.hid ((HB.out.trans (hb.mono (by omega))).trans (hoM.below (by omega)))
  have HK' := Lib.hid ((HK.out.trans (hb.mono (by omega))).trans (hoM.below (by omega)))
  have HG' := Lib.hid (HG.out.same ((Same.of_below hb (by omega)).trans (hoM.same (by omega))))
  clear hoM htM hb HC0 HY0 HB HK HG
  have HB := HB'
  have HK := HK'
  have HG := HG'
  clear HB' HK' HG'
  have hneg0 : ¬ r0 < 0 := by omega
  go_wp2_with fail
  refine (eq1_true _ _ oS _ HG.out.l (HRS.out.below HK.out) HBD.out).mono ?_
  rintro ee we2 ⟨rfl, hb⟩
  have hse2 : wD0.heap.size ≤ we2.heap.size := hb.size
  have HB' := Lib.hid (HB.out.trans (hb.mono (by omega)))
  have HK' := Lib.hid (HK.out.trans (hb.mono (by omega)))
  have HG' := Lib.hid (HG.out.same (Same.of_below hb (by omega)))
  clear hb HB HK HG
  have HB := HB'
  have HK := HK'
  have HG := HG'
  clear HB' HK' HG'
  go_wp2_with fail
  refine (markR1_any HG.out).mono ?_
  rintro ee wG ⟨mm, rfl, hm0, hm1, hoG, hmk⟩
  have hsG : we2.heap.size ≤ wG.heap.size := Nat.le_of_eq hoG.size.symm
  have HB' := Lib.hid (HB.out.trans (hoG.below (by omega)))
  have HK' := Lib.hid (HK.out.trans (hoG.below (by omega)))
  have HG' := Lib.hid hmk
  clear hoG hmk HB HK HG
  have HB := HB'
  have HK := HK'
  have HG := HG'
  clear HB' HK' HG'
  have hneg : ¬ mm < 0 := by omega
  have hsum : (mm != mm) = false := by simp
  go_wp2_with fail
  refine (heldR1_any HG.out).mono ?_
  rintro ee w' ⟨rfl, rfl⟩
  have c00 := (HN0.out _ HB.out).c0
  have c01 := (HN0.out _ HB.out).c1
  have c02 := (HN0.out _ HB.out).c2
  have c03 := (HN0.out _ HB.out).c3
  have c04 := (HN0.out _ HB.out).c4
  have c05 := (HN0.out _ HB.out).c5
  have HQd : Hid (Below wG.heap.size wG wG) := Lib.hid (Below.refl _ _)
  go_wp2_with fail
  refine (toCouple_any p0 d0 e0 iv0 jv0 kv0 il0 jl0 kl0 _ (HN0.out _ HB.out).cx HMS0.out).mono ?_
  rintro ee wJ0 ⟨xiv0_J, xjv0_J, xkv0_J, rfl, hc, hb⟩
  have hsJ0 : wG.heap.size ≤ wJ0.heap.size := hb.size
  have HBJ0 := Lib.hid (HB.out.trans (hb.mono (by omega)))
  have HQ0 := Lib.hid (HQd.out.trans (hb.mono (by omega)))
  have HXJ00 := Lib.hid (hc.zero)
  clear hb hc
  clear c00 c01 c02 c03 c04 c05
  go_wp2_with fail
  refine (pageSizes_any p0 d0 e0 n1 xiv0_J xjv0_J xkv0_J il0 jl0 kl0 _ (HXJ00.out) HMS0.out (HGL.out _ HBJ0.out)).mono ?_
  rintro ee wJr ⟨uJ, oJ, kJ, rfl, hrJ, hb, hoJ⟩
  have hsJr : wJ0.heap.size ≤ wJr.heap.size := hb.size
  have HBJr := Lib.hid (HBJ0.out.trans (hb.mono (by omega)))
  have HQr := Lib.hid (HQ0.out.trans (hb.mono (by omega)))
  have HRJ := Lib.hid hrJ
  have HOJ := Lib.hid hoJ
  clear hb hoJ hrJ
  have hb := HQr.out
  clear HQd HQr HQ0 HXJ00 HBJ0 HBJr
  have HB' := Lib.hid (HB.out.trans (hb.mono (by omega)))
  have HK' := Lib.hid (HK.out.trans (hb.mono (by omega)))
  have HG' := Lib.hid (HG.out.same (Same.of_below hb (by omega)))
  clear hb HB HK HG
  have HB := HB'
  have HK := HK'
  have HG := HG'
  clear HB' HK' HG'
  obtain ⟨rfl, rfl⟩ := RsOut.unique (fun h0 _ _ ha hb => Psz.unique ha ⟨(pz_zero h0).1, (pz_zero h0).2.1⟩ hb) HOS.out HOJ.out
  clear HOJ
  have HRJ' := Lib.hid HRJ.out.l
  clear HRJ
  have HRJ := HRJ'
  clear HRJ'
  go_wp2_with fail
  refine (eq1_true _ _ oS _ HRJ.out (HRS.out.below HK.out) HBD.out).mono ?_
  rintro ee wK ⟨rfl, hb⟩
  have hsK : wJr.heap.size ≤ wK.heap.size := hb.size
  clear HRJ
  have HB' := Lib.hid (HB.out.trans (hb.mono (by omega)))
  have HK' := Lib.hid (HK.out.trans (hb.mono (by omega)))
  have HG' := Lib.hid (HG.out.same (Same.of_below hb (by omega)))
  clear hb HB HK HG
  have HB := HB'
  have HK := HK'
  have HG := HG'
  clear HB' HK' HG'
  go_wp2_with fail
  refine (heldR1_any HG.out).mono ?_
  rintro ee w' ⟨rfl, rfl⟩
  go_wp2
  go_ret
  exact ⟨rfl, HNW.out _ HB.out⟩
end Go.Proofs.YtckkbojankfdfaaDoor


namespace Go.Proofs.YtckkbojankfdfaaDoor
open Go.ChangeShapes Go.WideShapes Go.ChangeAt Go.RowKit

theorem dor_g : Tryd.prog.globalNamed "loop.example/g01273/impl.errNotExact" = some 0 := by kernel_rfl
theorem dor_gt : (Tryd.prog.globals[0]?).map (·.type) = some 70 := by kernel_rfl
theorem dor_star : "*" ++ "errors.errorString" = "*errors.errorString" := by decide
theorem dor_row (u : TypeId) (h : Tryd.prog.typeName? 3 u = some "*errors.errorString") : u = 109 :=
  typeName_ptr_named (nm := "errors.errorString") (by rw [dor_star]; kernel_rfl) (by kernel_rfl) (by decide) u (by rw [dor_star]; exact h)
theorem dor_ce : Tryd.prog.cellsOf 127 = 1 := by kernel_rfl
theorem dor_cs : Tryd.prog.cellsOf 9 = 1 := by kernel_rfl
abbrev dorLaid : List (String × DataW Unit) := [("loop.example/g01273/impl.errNotExact", .iface "*errors.errorString" (.ptr (.agg [.lit (.string [97, 32, 99, 111, 117, 112, 108, 101, 32, 105, 115, 32, 110, 111, 116, 32, 101, 120, 97, 99, 116])])))]
theorem dor_open {W : World} (h : laidMet Tryd.prog dorLaid W) : ∃ a : Addr, W.var? Tryd.prog "loop.example/g01273/impl.errNotExact" = some #[.iface 109 (.pointer (some a))] := by
  obtain ⟨a, s, hv, _⟩ := laid_sentinel h dor_g dor_gt Tryd.underlying70 dor_row Tryd.underlying109 Tryd.underlying127 rfl rfl Tryd.underlying9 dor_ce dor_cs
  exact ⟨a, hv⟩
theorem dor_cell {W : World} {x : Value} (h : W.var? Tryd.prog "loop.example/g01273/impl.errNotExact" = some #[x]) : W.cell? ⟨0, 0, none⟩ = some x := by simpa using World.var?_cell dor_g h 0
theorem dor_below {W W' : World} {n : String} {cs : Array Value} (hb : Below W.heap.size W W') (h : W.var? Tryd.prog n = some cs) : W'.var? Tryd.prog n = some cs := by
  unfold World.var? at h ⊢
  cases hg : Tryd.prog.globalNamed n with
  | none => simp [hg] at h
  | some g =>
    simp only [hg, Option.bind_some] at h ⊢
    have hlt : g < W.heap.size := by
      rcases Nat.lt_or_ge g W.heap.size with h' | h'
      · exact h'
      · simp [Array.getElem?_eq_none h'] at h
    rw [hb.block g hlt]
    exact h
theorem dor_vars {H : Type} (enc : TypeId × Value → H) {W : World} {x : Value} (h : W.var? Tryd.prog "loop.example/g01273/impl.errNotExact" = some #[x]) (ix : IsIface x) (sp : Nat → Bool) :
    DataW.TrodVars enc Tryd.prog W sp ["loop.example/g01273/impl.errNotExact"] [tok enc x] [.cell 0 0] :=
  vars_read1 enc dor_g dor_gt Tryd.underlying70 h ix sp

abbrev dorText : ByteArray := { data := #[97, 32, 99, 111, 117, 112, 108, 101, 32, 105, 115, 32, 110, 111, 116, 32, 101, 120, 97, 99, 116] }
noncomputable def dorLow : Nat := (World.holding Tryd.prog default ⟨#[], #[], []⟩).heap.size
noncomputable def dorWorld (os : Os) : World :=
  let w0 := World.holding Tryd.prog os ⟨#[.cells #[.string dorText] 127], #[], []⟩
  { w0 with heap := w0.heap.modify 0 fun
      | .cells _ t frozen => .cells #[.iface 109 (.pointer (some ⟨dorLow, 0, none⟩))] t frozen
      | o => o }
theorem dor_met (os : Os) (args : Array Value) : laidMet Tryd.prog dorLaid ((dorWorld os).forCall (fun _ _ => 0) ⟨#[], args, []⟩).memory :=
  laidMet_of_run (ps := [.cell 0 0, .cell dorLow 0]) 8 (by kernel_rfl) (by kernel_rfl) (by kernel_rfl)
end Go.Proofs.YtckkbojankfdfaaDoor

