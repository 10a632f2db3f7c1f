/-
  spec.l02Basis and PageBasis of the model by contracts.
-/
import Derived.Test.YtpdkfidmmjlmnabLes
import Derived.Test.YtpdkfidmmjlmnabPba
namespace Go.Proofs.Ytpdkfidmmjlmnab
open Go.RowKit

set_option maxHeartbeats 6400000 in
set_option maxRecDepth 100000 in
theorem l02Basis_any (p : Int) (k : Nat) (r q : Int) (dv mv lv : Value) (ds : List Int) (ms : List (List (List Int))) (ls : List (List Int)) (w : World) (h : Fi 0 w dv mv lv ds ms ls) (hf : IsFil p ds ms ls) (hk : k < ds.length) (hr : -20 ≤ r ∧ r ≤ 20) (hq : -20 ≤ q ∧ q ≤ 20) :
    Calls Try.prog 104 #[.agg #[.int .i64 p, dv, mv, lv], .int .i64 r, .int .i64 (k : Int), .int .i64 q] w (SpG p (dimN ds (k : Int)) (PgS p ds ms ls k r q) w) := by
  have HX0 := Lib.hid (Fx.start (p := p) 33 h)
  have HA : Hid (∀ W, Hid (Fx w W w.heap.size p dv mv lv ds ms ls) → Calls Try.prog 93 #[.agg #[.int .i64 p, dv, mv, lv], .int .i64 r, .int .i64 (k : Int), .int .i64 q] W (SpG p (dimN ds (k : Int)) (ZcD p ds ms ls k q (q - r)) W)) := Lib.hid (fun W hW => l02Cycles_any p k r q dv mv lv ds ms ls W hW.out.fi hf hk (by omega) (by omega))
  have HB0 : Hid (∀ W, Hid (Fx w W w.heap.size p dv mv lv ds ms ls) → Calls Try.prog 96 #[.agg #[.int .i64 p, dv, mv, lv], .int .i64 r, .int .i64 (k : Int), .int .i64 q] W (SpG p (dimN ds (k : Int)) (BotS p ds ms ls k r q) W)) := Lib.hid (fun W hW => l02Bottom_any p k r q dv mv lv ds ms ls W hW.out.fi hf hk (by omega) (by omega))
  have HCX := Lib.hid hf.1
  have hd8 := (dimN_le8 hf.1 k).1
  have hp1 := hf.1.1.prime.lo1
  have c0 := HX0.out.c0
  have c1 := HX0.out.c1
  have c2 := HX0.out.c2
  have c3 := HX0.out.c3
  have HX2 := Lib.hid (HX0.out.next (Below.refl _ _).drew)
  clear h hf
  go_enter Try.func104, Try.ntmps104
  go_upto_region 1 with fail
  go_cut [9, 10, 11] from 13 to 23 (fun s9 s10 s11 wx => ∃ (C B : List Lin.V) (ac : Option Addr) (cc : Nat) (ab : Option Addr) (cb g : Nat), s9 = .slice ac C.length cc ∧ s10 = .slice ab B.length cb ∧ s11 = .slice (some ⟨g, 0, none⟩) 0 0 ∧ Hid (Fx w wx w.heap.size p dv mv lv ds ms ls) ∧ Hid (L2 0 wx (.slice ac C.length cc) (C.map (toL (dimN ds (k : Int))))) ∧ Hid (L2 0 wx (.slice ab B.length cb) (B.map (toL (dimN ds (k : Int))))) ∧ Hid (SpF p (dimN ds (k : Int)) (ZcD p ds ms ls k q (q - r)) C) ∧ Hid (SpF p (dimN ds (k : Int)) (BotS p ds ms ls k r q) B))
  case first =>
    go_region_held3 (fun w' => w'.cell? ⟨w.heap.size, 0, none⟩ = some (.int .i64 p) ∧ w'.cell? ⟨w.heap.size, 1, none⟩ = some dv ∧ w'.cell? ⟨w.heap.size, 2, none⟩ = some mv ∧ w'.cell? ⟨w.heap.size, 3, none⟩ = some lv ∧ Hid (Fx w w' w.heap.size p dv mv lv ds ms ls))
      (first | exact Fx.all HX0 | exact Fx.all (Lib.hid (HX0.out.next (below_alloc1 _ _))) | exact Fx.all HX2 | exact Fx.all (Lib.hid (HX2.out.next (below_alloc1 _ _))) | exact Fx.all HX3 | exact Fx.all (Lib.hid (HX3.out.next (below_alloc1 _ _))) | exact Fx.all HX4 | exact Fx.all (Lib.hid (HX4.out.next (below_alloc1 _ _))) | go_keep)
      (first
        | (go_at_call 93; refine (HA.out _ ?_).mono ?_; (first | exact HX2 | exact Lib.hid (HX2.out.next (below_alloc1 _ _))); rintro e w3 ⟨s3, C, rfl, hg3, hb3, hr3⟩; have HX3 : Hid (Fx w w3 w.heap.size p dv mv lv ds ms ls) := (by first | exact Lib.hid (HX2.out.next hb3) | exact Lib.hid ((HX2.out.next (below_alloc1 _ _)).next hb3)); have HR3 := Lib.hid hr3; obtain ⟨ac, cc, hv3⟩ := Sl.shape hg3.l2; rw [List.length_map] at hv3; subst hv3; have HO3 := Lib.hid hg3.l2; clear hg3 hb3 hr3)
        | (go_at_call 96; refine (HB0.out _ ?_).mono ?_; (first | exact HX3 | exact Lib.hid (HX3.out.next (below_alloc1 _ _))); rintro e w4 ⟨s4, B, rfl, hg4, hb4, hr4⟩; have HX4 : Hid (Fx w w4 w.heap.size p dv mv lv ds ms ls) := (by first | exact Lib.hid (HX3.out.next hb4) | exact Lib.hid ((HX3.out.next (below_alloc1 _ _)).next hb4)); have HR4 := Lib.hid hr4; obtain ⟨ab, cb, hv4⟩ := Sl.shape hg4.l2; rw [List.length_map] at hv4; subst hv4; have HO4 := Lib.hid hg4.l2; have HO3' : Hid (L2 0 w4 (.slice ac C.length cc) (C.map (toL (dimN ds (k : Int))))) := (by first | exact Lib.hid (HO3.out.below hb4) | exact Lib.hid ((HO3.out.below (below_alloc1 _ _)).below hb4)); clear hg4 hb4 hr4))
    all_goals go_wp2
    all_goals go_meet
    all_goals refine ⟨C, B, ac, cc, ab, cb, _, rfl, rfl, rfl, ?_, ?_, ?_, HR3, HR4⟩
    all_goals first
      | exact HX4 | exact Lib.hid (HX4.out.next (below_alloc1 _ _)) | exact HO3' | exact HO4 | exact Lib.hid (HO3'.out.below (below_alloc1 _ _)) | exact Lib.hid (HO4.out.below (below_alloc1 _ _))
  case rest =>
    obtain ⟨C, B, ac, cc, ab, cb, g4, rfl, rfl, rfl, HX4, HOC, HOB, HR3, HR4⟩ := hcut
    obtain ⟨w4, hw4⟩ : ∃ w4 : World, w4 = wc := ⟨_, rfl⟩
    subst hw4
    have hl3 := HR3.out.short
    have hl4 := HR4.out.short
    have HNX : Hid (∀ W, Below w4.heap.size w4 W → Fx w W w.heap.size p dv mv lv ds ms ls) := Lib.hid (fun W h => HX4.out.next h)
    clear c0 c1 c2 c3 HA HB0 HX0 HX2
    go_wp2
    go_loopw [11, 12] (fun rv i wr => ∃ (j : Nat) (tt : List Lin.V), j ≤ C.length ∧ i = .int .i64 j ∧ tt.length = j ∧ Hid (Below w4.heap.size w4 wr) ∧ Hid (GsE w4.heap.size g4 wr rv (tt.map (toL (dimN ds (k : Int))))) ∧ Hid (RestsOf p (dimN ds (k : Int)) B C tt)) (fun _ i _ => C.length - (intOf i).toNat)
    case atStart => exact ⟨0, [], Nat.zero_le _, rfl, rfl, Lib.hid (Below.refl _ _), Lib.hid (Or.inl ⟨rfl, rfl⟩), Lib.hid (RestsOf.nil p _ B C)⟩
    case round =>
      obtain ⟨j, tt, hj, rfl, hTl, HB, HG, HR⟩ := hrel
      obtain ⟨wx, hwx⟩ : ∃ wx : World, wx = wr := ⟨_, rfl⟩
      subst hwx
      have hsx : w4.heap.size ≤ wx.heap.size := HB.out.size
      obtain ⟨an, cn, hnv⟩ := Sl.shape HG.out.l2
      rw [List.length_map] at hnv
      subst hnv
      have hXN := HNX.out _ HB.out
      have HXN := Lib.hid hXN
      have c0 := hXN.c0
      clear hXN
      by_cases hlt : j < C.length
      · refine Sl.cases HOC.out (fun _ _ hx _ => absurd hlt (by have := congrArg List.length hx; simp at this; simp [this])) (fun bc oc c2' hvv _ _ hc => ?_)
        rw [List.length_map] at hvv
        obtain ⟨rfl, rfl⟩ : ac = some ⟨bc, oc, none⟩ ∧ cc = c2' := by simpa using hvv
        obtain ⟨ur, hur, hrr⟩ := hc j (by rw [List.length_map]; exact hlt)
        rw [List.getElem_map] at hrr
        obtain ⟨ar, cr, hus⟩ := l1_slice hrr
        subst hus
        obtain ⟨u, hu⟩ : ∃ u, u = C[j] := ⟨_, rfl⟩
        rw [← hu] at hrr
        have HRR := Lib.hid hrr
        have HUE : Hid (∀ (h : tt.length < C.length), C[tt.length] = u) := Lib.hid (fun h => by
          subst hTl
          exact hu.symm)
        have HUM : Hid (Lin.Md p u) := Lib.hid (by rw [hu]; exact HR3.out.1.md _ (List.getElem_mem hlt))
        have HUW : Hid (Lin.Wd (dimN ds (k : Int)) u) := Lib.hid (by rw [hu]; exact HR3.out.2.1 _ (List.getElem_mem hlt))
        have HROWC : Hid (∀ W, Below w4.heap.size w4 W → W.cell? ⟨bc, oc + j, none⟩ = some (.slice ar (dimN ds (k : Int)) cr)) := Lib.hid (fun W h => later h (Nat.le_refl _) hur)
        have HREST : Hid (∀ W, Below w4.heap.size w4 W → Calls Try.prog 107 #[.int .i64 p, .slice ar (dimN ds (k : Int)) cr, .slice ab B.length cb] W (RestR p (dimN ds (k : Int)) B u W)) := Lib.hid (fun W h =>
          l02Less_any p (dimN ds (k : Int)) _ _ B u W HCX.out.1.prime (HOB.out.below h) (HRR.out.below h) HR4.out.1 HR4.out.2.1 HUM.out HUW.out (by omega) (by omega))
        clear hvv hc hur hrr hu
        go_wp2
        refine wp_region_held (S := fun W => Below w4.heap.size w4 W) (by kernel_rfl) ?_
        have S0 : Below w4.heap.size w4 wx.drew := HB.out.drew
        refine held_take (i := 0) (v := .slice an tt.length cn) (some 30) rfl rfl (by kernel_rfl) (by kernel_rfl) (by kernel_rfl) (fun _ _ _ h => h) (yieldsIf_move (by kernel_rfl) rfl (by kernel_rfl)) S0 ?_
        refine held_take (i := 1) (v := .pointer (some ⟨w.heap.size, 0, none⟩)) (some 31) rfl rfl (by kernel_rfl) (by kernel_rfl) (by kernel_rfl) (fun _ _ _ h => h) (yieldsIf_run (by kernel_rfl) (fun W _ => by kernel_rfl)) S0 ?_
        refine held_take (i := 2) (v := .pointer (some ⟨w.heap.size, 0, none⟩)) (some 32) rfl rfl (by kernel_rfl) (by kernel_rfl) (by kernel_rfl) (fun _ _ _ h => h) (yieldsIf_run (by kernel_rfl) (fun W _ => by kernel_rfl)) S0 ?_
        refine held_take (i := 3) (v := .int .i64 p) (some 33) rfl rfl (by kernel_rfl) (by kernel_rfl) (by kernel_rfl) (fun _ _ _ h => h) (yieldsIf_cell (by kernel_rfl) rfl (by kernel_rfl) (fun W h => hload W ((HNX.out W h).c0))) S0 ?_
        refine held_take (i := 4) (v := .slice (some ⟨bc, oc, none⟩) C.length cc) (some 34) rfl rfl (by kernel_rfl) (by kernel_rfl) (by kernel_rfl) (fun _ _ _ h => h) (yieldsIf_move (by kernel_rfl) rfl (by kernel_rfl)) S0 ?_
        refine held_take (i := 5) (v := .int .i64 (j : Int)) (some 35) rfl rfl (by kernel_rfl) (by kernel_rfl) (by kernel_rfl) (fun _ _ _ h => h) (yieldsIf_move (by kernel_rfl) rfl (by kernel_rfl)) S0 ?_
        refine held_take (i := 6) (v := .pointer (some ⟨bc, oc + j, none⟩)) (some 36) rfl rfl (by kernel_rfl) (by kernel_rfl) (by kernel_rfl) (fun _ _ _ h => h) (yieldsIf_index (by kernel_rfl) rfl (by kernel_rfl) (by kernel_rfl) (hidxS bc oc cc hlt)) S0 ?_
        refine held_take (i := 7) (v := .slice ar (dimN ds (k : Int)) cr) (some 37) rfl rfl (by kernel_rfl) (by kernel_rfl) (by kernel_rfl) (fun _ _ _ h => h) (yieldsIf_cell (by kernel_rfl) rfl (by kernel_rfl) (fun W h => hloadS W (HROWC.out W h))) S0 ?_
        refine held_take (i := 8) (v := .slice ab B.length cb) (some 38) rfl rfl (by kernel_rfl) (by kernel_rfl) (by kernel_rfl) (fun _ _ _ h => h) (yieldsIf_move (by kernel_rfl) rfl (by kernel_rfl)) S0 ?_
        refine held_enter (i := 9) (some 39) (f := 107) (args := #[.int .i64 p, .slice ar (dimN ds (k : Int)) cr, .slice ab B.length cb]) (by kernel_rfl) rfl rfl rfl (by kernel_rfl) (HREST.out _ S0) ?_ (fun c w' h => by obtain ⟨_, _, h, _⟩ := h; cases h) (fun w' h => by obtain ⟨_, _, h, _⟩ := h; cases h)
        rintro e5 W5 ⟨u5, y, he5, hg5, hb5, hr5, hrw5⟩
        injection he5 with he5
        subst he5
        have S1 : Below w4.heap.size w4 W5 := S0.trans (hb5.mono S0.size)
        have hb5' : Below wx.heap.size wx W5 := ((Below.refl wx.heap.size wx).drew).trans hb5
        have HO5 := Lib.hid (HG.out.below hb5')
        have HG5 := Lib.hid hg5.g1
        have HR5 : Hid (RestsOf p (dimN ds (k : Int)) B C (tt ++ [y])) := Lib.hid (HR.out.push (by omega) (by rw [HUE.out (by omega)]; exact hr5) hrw5)
        obtain ⟨a5, c5, hv5⟩ := l1_slice hg5.l1
        subst hv5
        refine ⟨S1, ?_⟩
        have hs5 : w4.heap.size ≤ W5.heap.size := S1.size
        have S2 : Below w4.heap.size w4 (W5.alloc (.cells #[.slice a5 (dimN ds (k : Int)) c5] 22)) := S1.alloc hs5 _
        have hba : Below W5.heap.size W5 (W5.alloc (.cells #[.slice a5 (dimN ds (k : Int)) c5] 22)) := (Below.refl _ _).alloc (Nat.le_refl _) _
        have HOX := Lib.hid (HO5.out.below hba)
        refine held_buildS (i := 10) (some 40) (by kernel_rfl) rfl rfl rfl (.tmp 39) a5 (dimN ds (k : Int)) c5 rfl (by kernel_rfl) ⟨S2, ?_⟩
        refine held_appendE (i := 11) (some 41) (by kernel_rfl) rfl rfl rfl (.tmp 30) (.tmp 40) rfl w4.heap.size g4 (.slice an tt.length cn) _ (by kernel_rfl) HOX.out W5.heap.size a5 (dimN ds (k : Int)) c5 (by kernel_rfl) (cell_alloc1 W5 _ _) _ (HG5.out.below hba) (by rw [List.length_map]; omega) (by simp; omega) ?_
        intro v' w6 hown hgrow
        have S3 : Below w4.heap.size w4 w6 := S2.trans hgrow
        have HB6 := Lib.hid S3
        have HG6 : Hid (GsE w4.heap.size g4 w6 v' ((tt ++ [y]).map (toL (dimN ds (k : Int))))) := Lib.hid (by
          rw [List.map_append]
          exact Or.inr hown)
        refine ⟨S3, ?_⟩
        refine held_take (i := 12) (v := v') (some 11) rfl rfl (by kernel_rfl) (by kernel_rfl) (by kernel_rfl) (fun _ _ _ h => h) (yieldsIf_assign (by kernel_rfl) rfl (by kernel_rfl)) S3 ?_
        refine wpAnyH_done (by kernel_rfl) ?_ _
        simp only [Act.put, List.setIfInBounds_toArray, List.set_cons_zero, List.set_cons_succ]
        clear S0 S1 S2 S3 hown hgrow hb5 hb5' hba hg5 hr5 hrw5 HOX HO5 HG5 HREST HROWC hs5 c0
        go_wp2
        go_roundw
        case rel => exact ⟨j + 1, tt ++ [y], by omega, by go_num, by simp [hTl], HB6, HG6, HR5⟩
        case measure => simp [intOf]; omega
      · have HTL : Hid (tt.length = C.length) := Lib.hid (by omega)
        have htc : tt.length ≤ 8 := by omega
        have HTM : Hid (∀ x ∈ tt, Lin.Md p x) := Lib.hid (fun x hx => by
          obtain ⟨i, hi, rfl⟩ := List.getElem_of_mem hx
          exact (HR.out.rest i hi (by have := HTL.out; omega)).md)
        have HECH := Lib.hid (l01Echelon_any p (dimN ds (k : Int)) (.slice an tt.length cn) tt wx HCX.out.1.prime HG.out.l2 HTM.out HR.out.wd (by omega) (by omega))
        clear hTl
        go_wp2_with fail
        refine HECH.out.mono ?_
        rintro e w6 ⟨u6, R, rfl, hg6, hb6, hr6, _⟩
        have HG6 := Lib.hid (hg6.mono HXN.out.below.size)
        have HB6 := Lib.hid (HXN.out.next hb6).below
        have HR6 := Lib.hid hr6
        clear hg6 hb6 hr6 HECH c0
        go_wp2
        go_ret
        exact ⟨u6, R, rfl, HG6.out, HB6.out, pgS_of hp1 HR3.out HR4.out HR.out HTL.out HR6.out.red HR6.out.eqv⟩

set_option maxHeartbeats 1600000 in
theorem spPageBasis_any (p r n q : Int) (dv mv lv : Value) (ds : List Int) (ms : List (List (List Int))) (ls : List (List Int)) (w : World) (h : Fi 0 w dv mv lv ds ms ls) (hd : ds.length ≤ 1048576) (hm : Bd3 1048576 ms) (hl : Bd2 1048576 ls) :
    Calls Try.prog 38 #[.agg #[.int .i64 p, dv, mv, lv], .int .i64 r, .int .i64 n, .int .i64 q] w (SpS p (dimN ds n) (PgS p ds ms ls n.toNat r q) (celCode p ds ms ls r n q) w) := by
  have HX0 := Lib.hid (Fx.start (p := p) 33 h)
  have HCK := Lib.hid (l02Code_any p r n q dv mv lv ds ms ls _ HX0.out.fi hd hm hl)
  have c0 := HX0.out.c0
  have c1 := HX0.out.c1
  have c2 := HX0.out.c2
  have c3 := HX0.out.c3
  obtain ⟨k, hk⟩ : ∃ k, k = celCode p ds ms ls r n q := ⟨_, rfl⟩
  rw [← hk] at HCK ⊢
  have HKE := Lib.hid hk
  clear h hm hl hk
  go_enter Try.func38, Try.ntmps38
  go_wp2_with fail
  refine HCK.out.mono ?_
  rintro e w1 ⟨rfl, hb1⟩
  have HX1 := Lib.hid (HX0.out.next hb1)
  clear hb1 c0 c1 c2 c3 HCK
  have c0 := HX1.out.c0
  have c1 := HX1.out.c1
  have c2 := HX1.out.c2
  have c3 := HX1.out.c3
  by_cases hk : k = 0
  · subst hk
    obtain ⟨hfil, hcr, hr, hcq⟩ := celCode_zero HKE.out.symm
    obtain ⟨k, rfl⟩ : ∃ k : Nat, n = (k : Int) := ⟨n.toNat, by have := hr.1; omega⟩
    have HB := Lib.hid (l02Basis_any p k r q dv mv lv ds ms ls _ HX1.out.fi hfil (by have := hr.2; omega) (by omega) (by omega))
    clear hfil hr hcr hcq
    go_wp2_with fail
    refine HB.out.mono ?_
    rintro e w2 ⟨u2, R, rfl, hg2, hb2, hr2⟩
    have HG2 := Lib.hid hg2.l2
    have HX2 := Lib.hid (HX1.out.next hb2)
    have HR2 := Lib.hid hr2
    clear hg2 hb2 hr2 HB
    go_wp2
    go_ret2
    exact ⟨u2, R.map (toL (dimN ds (k : Int))), 0, rfl, HG2.out, HX2.out.below, fun _ => ⟨R, HR2.out.1, HR2.out.2.1, HR2.out.2.2, rfl⟩, fun hh => absurd rfl hh, rfl⟩
  · have hne2 : (k != 0) = true := by simp [hk]
    have hne3 : (k == 0) = false := by simp [hk]
    have HK := Lib.hid hk
    clear hk
    go_wp2
    go_ret2
    exact ⟨_, [], k, rfl, nil2 _, HX1.out.below, SpOut.of_no HK.out⟩
end Go.Proofs.Ytpdkfidmmjlmnab
