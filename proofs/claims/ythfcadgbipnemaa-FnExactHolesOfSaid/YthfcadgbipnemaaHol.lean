/-
  Holes of both sides by contracts: the program asks for the homology list, the model gathers it once more.
-/
import Derived.Test.YthfcadgbipnemaaHom
namespace Go.Proofs.Ythfcadgbipnemaa
open Go.RowKit

set_option maxHeartbeats 1600000 in
theorem holesOf_any (p n : Int) (dv mv : Value) (ds : List Int) (ms : List (List (List Int))) (w : World) (h : Cx 0 w dv mv ds ms) (hd : ds.length ≤ 1048576) (hm : Bd3 1048576 ms) :
    Calls Try.prog 18 #[.agg #[.int .i64 p, dv, mv], .int .i64 n] w (SpW p (dimN ds n) (HomS p ds ms n.toNat) (cxCode p ds ms n) w) := by
  have HX0 := Lib.hid (Bx.start (p := p) 30 h)
  have HSA := Lib.hid (homologyList_any p n dv mv ds ms _ HX0.out.cx hd hm)
  obtain ⟨ad, cap, rfl⟩ := Sl.shape h.dims
  obtain ⟨am, capm, rfl⟩ := Sl.shape h.maps
  have c0 := HX0.out.c0
  have c1 := HX0.out.c1
  have c2 := HX0.out.c2
  clear h hm
  go_enter Try.func18, Try.ntmps18
  go_wp2_with fail
  refine HSA.out.mono ?_
  rintro e w1 ⟨u, out, c, rfl, ht, hb, ho⟩
  have HT := Lib.hid ht
  have HB := Lib.hid (HX0.out.next hb).below
  have HO := Lib.hid ho
  clear ht hb ho HSA
  have hs0 := HX0.out.below.size
  go_wp2
  go_ret2
  exact ⟨u, out, c, rfl, HT.out.wider hs0, HB.out, HO.out⟩

set_option maxHeartbeats 1600000 in
theorem l08Degree_any (p n : Int) (dv mv : Value) (ds : List Int) (ms : List (List (List Int))) (w : World) (h : Cx 0 w dv mv ds ms) (hd : ds.length ≤ 1048576) (hm : Bd3 1048576 ms) :
    Calls Try.prog 66 #[.agg #[.int .i64 p, dv, mv], .int .i64 n] w (CodeR p ds ms n w) := by
  have HM := Lib.hid hm
  have hx0 := Bx.start (p := p) 30 h
  obtain ⟨ad, cap, rfl⟩ := Sl.shape h.dims
  have HX0 := Lib.hid hx0
  clear h hm hx0
  go_enter Try.func66, Try.ntmps66
  go_wp2_with fail
  refine (l01Is_any p _ mv ds ms _ HX0.out.cx hd HM.out).mono ?_
  rintro e w1 ⟨bb, rfl, hb1, hbb⟩
  have HX1 := Lib.hid (HX0.out.next hb1)
  have HBB := Lib.hid hbb
  clear hb1 hbb
  have c0 := HX1.out.c0
  have c1 := HX1.out.c1
  have c2 := HX1.out.c2
  cases bb with
  | false =>
    go_wp2
    go_ret
    exact ⟨1, rfl, HX1.out.below, fun _ => rfl, fun hh => absurd (HBB.out.2 hh) (by simp), fun hh => absurd (HBB.out.2 hh) (by simp)⟩
  | true =>
    have HCX : Hid (IsCx p ds ms) := Lib.hid (HBB.out.1 (by simp))
    go_wp2_with fail
    by_cases hr : 0 ≤ n ∧ n ≤ (ds.length : Int) - 1
    · have HR := Lib.hid hr
      clear hr
      refine (spin_yes HR.out _).mono ?_
      rintro e w' ⟨rfl, rfl⟩
      go_wp2
      go_ret
      exact ⟨0, rfl, HX1.out.below, fun hh => absurd HCX.out hh, fun _ hh => absurd HR.out hh, fun _ _ => rfl⟩
    · have HR := Lib.hid hr
      clear hr
      refine (spin_no HR.out _).mono ?_
      rintro e w' ⟨rfl, rfl⟩
      go_wp2
      go_ret
      exact ⟨2, rfl, HX1.out.below, fun hh => absurd HCX.out hh, fun _ _ => rfl, fun _ hh => absurd hh HR.out⟩

/-- The holes of a degree, gathered by the model. -/
def HolR (p : Int) (ds : List Int) (ms : List (List (List Int))) (q : Nat) (w : World) (e : Ending) (w' : World) : Prop :=
  ∃ (u : Value) (R : List Lin.V), e = .returned u ∧ L2 0 w' u (R.map (toL (dimN ds (q : Int)))) ∧ Below w.heap.size w w' ∧ SpF p (dimN ds (q : Int)) (HomS p ds ms q) R

set_option maxHeartbeats 6400000 in
set_option maxRecDepth 100000 in
theorem l08Holes_any (p : Int) (q : Nat) (dv mv : Value) (ds : List Int) (ms : List (List (List Int))) (w : World) (h : Cx 0 w dv mv ds ms) (hcx : IsCx p ds ms) (hq : q < ds.length) :
    Calls Try.prog 67 #[.agg #[.int .i64 p, dv, mv], .int .i64 q] w (HolR p ds ms q w) := by
  have HX1 := Lib.hid (Bx.start (p := p) 30 h)
  obtain ⟨ad, cap, rfl⟩ := Sl.shape h.dims
  obtain ⟨am, capm, rfl⟩ := Sl.shape h.maps
  have c0 := HX1.out.c0
  have c1 := HX1.out.c1
  have c2 := HX1.out.c2
  have HCX := Lib.hid hcx
  have hd8 := (dimN_le8 hcx q).1
  have hp1 := hcx.1.prime.lo1
  clear h hcx
  go_enter Try.func67, Try.ntmps67
  go_upto_region 1 with fail
  go_cut [5, 6, 7] from 9 to 15 (fun s7 s8 s9 wx => ∃ (C B : List Lin.V) (ac : Option Addr) (cc : Nat) (ab : Option Addr) (cb g : Nat), s7 = .slice ac C.length cc ∧ s8 = .slice ab B.length cb ∧ s9 = .slice (some ⟨g, 0, none⟩) 0 0 ∧ Hid (Bx w wx w.heap.size p (.slice ad ds.length cap) (.slice am ms.length capm) ds ms) ∧ Hid (L2 0 wx (.slice ac C.length cc) (C.map (toL (dimN ds (q : Int))))) ∧ Hid (L2 0 wx (.slice ab B.length cb) (B.map (toL (dimN ds (q : Int))))) ∧ Hid (SpF p (dimN ds (q : Int)) (CycS p (dimN ds (q : Int)) (cycM ds q) (cycT ds ms q)) C) ∧ Hid (RedN p (dimN ds (q : Int)) B ((tabN ms q).map ofL)))
  case first =>
    have HX2 := Lib.hid (HX1.out.next (Below.refl _ _).drew)
    go_region_held3 (fun w' => w'.cell? ⟨w.heap.size, 0, none⟩ = some (.int .i64 p) ∧ w'.cell? ⟨w.heap.size, 1, none⟩ = some (.slice ad ds.length cap) ∧ w'.cell? ⟨w.heap.size, 2, none⟩ = some (.slice am ms.length capm) ∧ Hid (Bx w w' w.heap.size p (.slice ad ds.length cap) (.slice am ms.length capm) ds ms))
      (first | exact ⟨HX1.out.c0, HX1.out.c1, HX1.out.c2, HX1⟩ | exact ⟨HX2.out.c0, HX2.out.c1, HX2.out.c2, HX2⟩ | exact ⟨(HX2.out.next (below_alloc1 _ _)).c0, (HX2.out.next (below_alloc1 _ _)).c1, (HX2.out.next (below_alloc1 _ _)).c2, Lib.hid (HX2.out.next (below_alloc1 _ _))⟩ | exact ⟨HX3.out.c0, HX3.out.c1, HX3.out.c2, HX3⟩ | exact ⟨(HX3.out.next (below_alloc1 _ _)).c0, (HX3.out.next (below_alloc1 _ _)).c1, (HX3.out.next (below_alloc1 _ _)).c2, Lib.hid (HX3.out.next (below_alloc1 _ _))⟩ | exact ⟨HX4.out.c0, HX4.out.c1, HX4.out.c2, HX4⟩ | exact ⟨(HX4.out.next (below_alloc1 _ _)).c0, (HX4.out.next (below_alloc1 _ _)).c1, (HX4.out.next (below_alloc1 _ _)).c2, Lib.hid (HX4.out.next (below_alloc1 _ _))⟩ | go_keep)
      (first
        | (go_at_call 122; refine (l01Cycles_any p q _ _ ds ms _ ?_ HCX.out hq).mono ?_; (first | exact HX2.out.cx | exact (HX2.out.next (below_alloc1 _ _)).cx); rintro e w3 ⟨s3, C, rfl, hg3, hb3, hr3⟩; have HX3 : Hid (Bx w w3 w.heap.size p (.slice ad ds.length cap) (.slice am ms.length capm) ds ms) := (by first | exact Lib.hid (HX2.out.next hb3) | exact Lib.hid ((HX2.out.next (below_alloc1 _ _)).next hb3)); have HR3 := Lib.hid hr3; obtain ⟨ac, cc, hv3⟩ := Sl.shape hg3.l2; rw [List.length_map] at hv3; subst hv3; have HO3 := Lib.hid hg3.l2; clear hg3 hb3 hr3)
        | (go_at_call 123; refine (l01Bounds_any p q _ _ ds ms _ ?_ HCX.out hq).mono ?_; (first | exact HX3.out.cx | exact (HX3.out.next (below_alloc1 _ _)).cx); rintro e w4 ⟨s4, B, rfl, hg4, hb4, hr4, _⟩; have HX4 : Hid (Bx w w4 w.heap.size p (.slice ad ds.length cap) (.slice am ms.length capm) ds ms) := (by first | exact Lib.hid (HX3.out.next hb4) | exact Lib.hid ((HX3.out.next (below_alloc1 _ _)).next hb4)); have HR4 := Lib.hid hr4; obtain ⟨ab, cb, hv4⟩ := Sl.shape hg4.l2; rw [List.length_map] at hv4; subst hv4; have HO4 := Lib.hid hg4.l2; have HO3' : Hid (L2 0 w4 (.slice ac C.length cc) (C.map (toL (dimN ds (q : Int))))) := (by first | exact Lib.hid (HO3.out.below hb4) | exact Lib.hid ((HO3.out.below (below_alloc1 _ _)).below hb4)); clear hg4 hb4 hr4))
    all_goals go_wp2
    all_goals go_meet
    all_goals refine ⟨C, B, ac, cc, ab, cb, _, rfl, rfl, rfl, ?_, ?_, ?_, HR3, HR4⟩
    all_goals first
      | exact HX4 | exact Lib.hid (HX4.out.next (below_alloc1 _ _)) | exact HO3' | exact HO4 | exact Lib.hid (HO3'.out.below (below_alloc1 _ _)) | exact Lib.hid (HO4.out.below (below_alloc1 _ _))
  case rest =>
    obtain ⟨C, B, ac, cc, ab, cb, g4, rfl, rfl, rfl, HX4, HOC, HOB, HR3, HR4⟩ := hcut
    obtain ⟨w4, hw4⟩ : ∃ w4 : World, w4 = wc := ⟨_, rfl⟩
    subst hw4
    have hl3 := HR3.out.short
    have hl4 := red_length HR4.out.red HR4.out.wd
    have HNX : Hid (∀ W, Below w4.heap.size w4 W → Bx w W w.heap.size p (.slice ad ds.length cap) (.slice am ms.length capm) ds ms) := Lib.hid (fun W h => HX4.out.next h)
    clear c0 c1 c2
    go_wp2
    go_loopw [7, 8] (fun rv i wr => ∃ (k : Nat) (tt : List Lin.V), k ≤ C.length ∧ i = .int .i64 k ∧ tt.length = k ∧ Hid (Below w4.heap.size w4 wr) ∧ Hid (GsE w4.heap.size g4 wr rv (tt.map (toL (dimN ds (q : Int))))) ∧ Hid (RestsOf p (dimN ds (q : Int)) B C tt)) (fun _ i _ => C.length - (intOf i).toNat)
    case atStart => exact ⟨0, [], Nat.zero_le _, rfl, rfl, Lib.hid (Below.refl _ _), Lib.hid (Or.inl ⟨rfl, rfl⟩), Lib.hid (RestsOf.nil p _ B C)⟩
    case round =>
      obtain ⟨k, tt, hk, rfl, hTl, HB, HG, HR⟩ := hrel
      obtain ⟨wx, hwx⟩ : ∃ wx : World, wx = wr := ⟨_, rfl⟩
      subst hwx
      have hsx : w4.heap.size ≤ wx.heap.size := HB.out.size
      obtain ⟨an, cn, hnv⟩ := Sl.shape HG.out.l2
      rw [List.length_map] at hnv
      subst hnv
      have hXN := HNX.out _ HB.out
      have HXN := Lib.hid hXN
      have c0 := hXN.c0
      have c1 := hXN.c1
      have c2 := hXN.c2
      clear hXN
      by_cases hlt : k < C.length
      · refine Sl.cases HOC.out (fun _ _ hx _ => absurd hlt (by have := congrArg List.length hx; simp at this; simp [this])) (fun bc oc c2' hvv _ _ hc => ?_)
        rw [List.length_map] at hvv
        obtain ⟨rfl, rfl⟩ : ac = some ⟨bc, oc, none⟩ ∧ cc = c2' := by simpa using hvv
        obtain ⟨ur, hur, hrr⟩ := hc k (by rw [List.length_map]; exact hlt)
        rw [List.getElem_map] at hrr
        obtain ⟨ar, cr, hus⟩ := l1_slice hrr
        subst hus
        obtain ⟨u, hu⟩ : ∃ u, u = C[k] := ⟨_, rfl⟩
        rw [← hu] at hrr
        have HRR := Lib.hid hrr
        have HUE : Hid (∀ (h : tt.length < C.length), C[tt.length] = u) := Lib.hid (fun h => by
          subst hTl
          exact hu.symm)
        have HUM : Hid (Lin.Md p u) := Lib.hid (by rw [hu]; exact HR3.out.1.md _ (List.getElem_mem hlt))
        have HUW : Hid (Lin.Wd (dimN ds (q : Int)) u) := Lib.hid (by rw [hu]; exact HR3.out.2.1 _ (List.getElem_mem hlt))
        have HROWC : Hid (∀ W, Below w4.heap.size w4 W → W.cell? ⟨bc, oc + k, none⟩ = some (.slice ar (dimN ds (q : Int)) cr)) := Lib.hid (fun W h => later h (Nat.le_refl _) hur)
        have HREST : Hid (∀ W, Below w4.heap.size w4 W → Calls Try.prog 124 #[.int .i64 p, .slice ab B.length cb, .slice ar (dimN ds (q : Int)) cr] W (RestR p (dimN ds (q : Int)) B u W)) := Lib.hid (fun W h =>
          l01Rest_any p (dimN ds (q : Int)) _ _ B u W HCX.out.1.prime (HOB.out.below h) (HRR.out.below h) HR4.out.red HR4.out.wd HUM.out HUW.out (by omega) (by omega))
        clear hvv hc hur hrr hu
        go_wp2
        refine wp_region_held (S := fun W => Below w4.heap.size w4 W) (by kernel_rfl) ?_
        have S0 : Below w4.heap.size w4 wx.drew := HB.out.drew
        refine held_take (i := 0) (v := .slice an tt.length cn) (some 22) rfl rfl (by kernel_rfl) (by kernel_rfl) (by kernel_rfl) (fun _ _ _ h => h) (yieldsIf_move (by kernel_rfl) rfl (by kernel_rfl)) S0 ?_
        refine held_take (i := 1) (v := .pointer (some ⟨w.heap.size, 0, none⟩)) (some 23) rfl rfl (by kernel_rfl) (by kernel_rfl) (by kernel_rfl) (fun _ _ _ h => h) (yieldsIf_run (by kernel_rfl) (fun W _ => by kernel_rfl)) S0 ?_
        refine held_take (i := 2) (v := .int .i64 p) (some 24) rfl rfl (by kernel_rfl) (by kernel_rfl) (by kernel_rfl) (fun _ _ _ h => h) (yieldsIf_cell (by kernel_rfl) rfl (by kernel_rfl) (fun W h => hload W ((HNX.out W h).c0))) S0 ?_
        refine held_take (i := 3) (v := .slice ab B.length cb) (some 25) rfl rfl (by kernel_rfl) (by kernel_rfl) (by kernel_rfl) (fun _ _ _ h => h) (yieldsIf_move (by kernel_rfl) rfl (by kernel_rfl)) S0 ?_
        refine held_take (i := 4) (v := .slice (some ⟨bc, oc, none⟩) C.length cc) (some 26) rfl rfl (by kernel_rfl) (by kernel_rfl) (by kernel_rfl) (fun _ _ _ h => h) (yieldsIf_move (by kernel_rfl) rfl (by kernel_rfl)) S0 ?_
        refine held_take (i := 5) (v := .int .i64 (k : Int)) (some 27) rfl rfl (by kernel_rfl) (by kernel_rfl) (by kernel_rfl) (fun _ _ _ h => h) (yieldsIf_move (by kernel_rfl) rfl (by kernel_rfl)) S0 ?_
        refine held_take (i := 6) (v := .pointer (some ⟨bc, oc + k, none⟩)) (some 28) rfl rfl (by kernel_rfl) (by kernel_rfl) (by kernel_rfl) (fun _ _ _ h => h) (yieldsIf_index (by kernel_rfl) rfl (by kernel_rfl) (by kernel_rfl) (hidxS bc oc cc hlt)) S0 ?_
        refine held_take (i := 7) (v := .slice ar (dimN ds (q : Int)) cr) (some 29) rfl rfl (by kernel_rfl) (by kernel_rfl) (by kernel_rfl) (fun _ _ _ h => h) (yieldsIf_cell (by kernel_rfl) rfl (by kernel_rfl) (fun W h => hloadS W (HROWC.out W h))) S0 ?_
        refine held_enter (i := 8) (some 30) (f := 124) (args := #[.int .i64 p, .slice ab B.length cb, .slice ar (dimN ds (q : Int)) cr]) (by kernel_rfl) rfl rfl rfl (by kernel_rfl) (HREST.out _ S0) ?_ (fun c w' h => by obtain ⟨_, _, h, _⟩ := h; cases h) (fun w' h => by obtain ⟨_, _, h, _⟩ := h; cases h)
        rintro e5 W5 ⟨u5, r, he5, hg5, hb5, hr5, hrw5⟩
        injection he5 with he5
        subst he5
        have S1 : Below w4.heap.size w4 W5 := S0.trans (hb5.mono S0.size)
        have hb5' : Below wx.heap.size wx W5 := ((Below.refl wx.heap.size wx).drew).trans hb5
        have HO5 := Lib.hid (HG.out.below hb5')
        have HG5 := Lib.hid hg5.g1
        have HR5 : Hid (RestsOf p (dimN ds (q : Int)) B C (tt ++ [r])) := Lib.hid (HR.out.push (by omega) (by rw [HUE.out (by omega)]; exact hr5) hrw5)
        obtain ⟨a5, c5, hv5⟩ := l1_slice hg5.l1
        subst hv5
        refine ⟨S1, ?_⟩
        have hs5 : w4.heap.size ≤ W5.heap.size := S1.size
        have S2 : Below w4.heap.size w4 (W5.alloc (.cells #[.slice a5 (dimN ds (q : Int)) c5] 22)) := S1.alloc hs5 _
        have hba : Below W5.heap.size W5 (W5.alloc (.cells #[.slice a5 (dimN ds (q : Int)) c5] 22)) := (Below.refl _ _).alloc (Nat.le_refl _) _
        have HOX := Lib.hid (HO5.out.below hba)
        refine held_buildS (i := 9) (some 31) (by kernel_rfl) rfl rfl rfl (.tmp 30) a5 (dimN ds (q : Int)) c5 rfl (by kernel_rfl) ⟨S2, ?_⟩
        refine held_appendE (i := 10) (some 32) (by kernel_rfl) rfl rfl rfl (.tmp 22) (.tmp 31) rfl w4.heap.size g4 (.slice an tt.length cn) _ (by kernel_rfl) HOX.out W5.heap.size a5 (dimN ds (q : Int)) c5 (by kernel_rfl) (cell_alloc1 W5 _ _) _ (HG5.out.below hba) (by rw [List.length_map]; omega) (by simp; omega) ?_
        intro v' w6 hown hgrow
        have S3 : Below w4.heap.size w4 w6 := S2.trans hgrow
        have HB6 := Lib.hid S3
        have HG6 : Hid (GsE w4.heap.size g4 w6 v' ((tt ++ [r]).map (toL (dimN ds (q : Int))))) := Lib.hid (by
          rw [List.map_append]
          exact Or.inr hown)
        refine ⟨S3, ?_⟩
        refine held_take (i := 11) (v := v') (some 7) rfl rfl (by kernel_rfl) (by kernel_rfl) (by kernel_rfl) (fun _ _ _ h => h) (yieldsIf_assign (by kernel_rfl) rfl (by kernel_rfl)) S3 ?_
        refine wpAnyH_done (by kernel_rfl) ?_ _
        simp only [Act.put, List.setIfInBounds_toArray, List.set_cons_zero, List.set_cons_succ]
        clear S0 S1 S2 S3 hown hgrow hb5 hb5' hba hg5 hr5 hrw5 HOX HO5 HG5 HREST HROWC hs5 c0 c1 c2
        go_wp2
        go_roundw
        case rel => exact ⟨k + 1, tt ++ [r], by omega, by go_num, by simp [hTl], HB6, HG6, HR5⟩
        case measure => simp [intOf]; omega
      · have HTL : Hid (tt.length = C.length) := Lib.hid (by omega)
        have htc : tt.length ≤ 8 := by omega
        have HTM : Hid (∀ x ∈ tt, Lin.Md p x) := Lib.hid (fun x hx => by
          obtain ⟨i, hi, rfl⟩ := List.getElem_of_mem hx
          exact (HR.out.rest i hi (by have := HTL.out; omega)).md)
        have HECH := Lib.hid (l01Echelon_any p (dimN ds (q : Int)) (.slice an tt.length cn) tt wx HCX.out.1.prime HG.out.l2 HTM.out HR.out.wd (by omega) (by omega))
        clear hTl
        go_wp2_with fail
        refine HECH.out.mono ?_
        rintro e w6 ⟨u6, R, rfl, hg6, hb6, hr6, _⟩
        have HG6 := Lib.hid hg6.l2
        have HB6 := Lib.hid (HXN.out.next hb6).below
        have HR6 := Lib.hid hr6
        clear hg6 hb6 hr6 HECH c0 c1 c2
        go_wp2
        go_ret
        exact ⟨u6, R, rfl, HG6.out, HB6.out, homS_of hp1 HR3.out ⟨HR4.out.red, HR4.out.wd, HR4.out.eqv⟩ HR.out HTL.out HR6.out.red HR6.out.eqv⟩

set_option maxHeartbeats 1600000 in
set_option maxRecDepth 100000 in
theorem spHolesOf_any (p n : Int) (dv mv : Value) (ds : List Int) (ms : List (List (List Int))) (w : World) (h : Cx 0 w dv mv ds ms) (hd : ds.length ≤ 1048576) (hm : Bd3 1048576 ms) :
    Calls Try.prog 16 #[.agg #[.int .i64 p, dv, mv], .int .i64 n] w (SpS p (dimN ds n) (HomS p ds ms n.toNat) (cxCode p ds ms n) w) := by
  have HX0 := Lib.hid (Bx.start (p := p) 30 h)
  have HCK := Lib.hid (l08Degree_any p n dv mv ds ms _ HX0.out.cx hd hm)
  obtain ⟨ad, cap, rfl⟩ := Sl.shape h.dims
  obtain ⟨am, capm, rfl⟩ := Sl.shape h.maps
  have c0 := HX0.out.c0
  have c1 := HX0.out.c1
  have c2 := HX0.out.c2
  clear h hm
  go_enter Try.func16, Try.ntmps16
  go_wp2_with fail
  refine HCK.out.mono ?_
  rintro e w1 ⟨k0, rfl, hb1, hc1⟩
  have HC1 := Lib.hid (cxCode_of hc1)
  have HX1 := Lib.hid (HX0.out.next hb1)
  clear hb1 hc1 c0 c1 c2 HCK
  have c0 := HX1.out.c0
  have c1 := HX1.out.c1
  have c2 := HX1.out.c2
  by_cases hk : k0 = 0
  · subst hk
    obtain ⟨hcx, hr⟩ := cxCode_zero HC1.out.symm
    obtain ⟨q, rfl⟩ : ∃ q : Nat, n = (q : Int) := ⟨n.toNat, by have := hr.1; omega⟩
    have hq : q < ds.length := by have := hr.2; omega
    have HH := Lib.hid (l08Holes_any p q _ _ ds ms w1 HX1.out.cx hcx hq)
    clear hcx hr
    go_wp2_with fail
    refine HH.out.mono ?_
    rintro e w2 ⟨u, R, rfl, hl, hb2, hR⟩
    have HL := Lib.hid hl
    have HB2 := Lib.hid (HX1.out.next hb2).below
    have HR := Lib.hid hR
    clear hl hb2 hR HH c0 c1 c2
    go_wp2
    go_ret2
    refine ⟨u, _, 0, rfl, HL.out, HB2.out, ?_⟩
    rw [← HC1.out, Int.toNat_natCast]
    exact ⟨fun _ => ⟨R, HR.out.1, HR.out.2.1, HR.out.2.2, rfl⟩, fun hh => absurd rfl hh, rfl⟩
  · have hne2 : (k0 != 0) = true := by simp [hk]
    have hne3 : (k0 == 0) = false := by simp [hk]
    have HK := Lib.hid hk
    clear hk
    go_wp2
    go_ret2
    refine ⟨_, [], k0, rfl, nil2 _, HX1.out.below, ?_⟩
    rw [← HC1.out]
    exact SpOut.of_no HK.out
end Go.Proofs.Ythfcadgbipnemaa
