/-
  impl.IsFiltered by its contract.
-/
import Derived.Test.YtobfeleoafdmpaaFil
namespace Go.Proofs.Ytobfeleoafdmpaa
open Go.RowKit

/-- A list of levels, one for each of d basis vectors. -/
def LvOk (d : Int) (l : List Int) : Prop := (l.length : Int) = d ∧ ∀ x ∈ l, 0 ≤ x ∧ x ≤ 5
/-- Numbers other than 0 stand at levels of at most q. -/
def BeRow (v l : List Int) (q : Int) : Prop := ∀ j (h : j < v.length), v[j] ≠ 0 → l.getD j 0 ≤ q
structure FilOk (ds : List Int) (ms : List (List (List Int))) (ls : List (List Int)) : Prop where
  len : ls.length = ds.length
  lvs : ∀ n, n < ls.length → LvOk (ds.getD n 0) (ls.getD n [])
  bel : ∀ k, k < ms.length → ∀ i, i < (ms.getD k []).length → BeRow ((ms.getD k []).getD i []) (ls.getD k []) ((ls.getD (k + 1) []).getD i 0)
def IsFil (p : Int) (ds : List Int) (ms : List (List (List Int))) (ls : List (List Int)) : Prop := IsCx p ds ms ∧ FilOk ds ms ls

set_option maxHeartbeats 800000 in
theorem isLevelList_any (d : Int) (v : Value) (xs : List Int) (w : World) (h : L1 0 w v xs) (hm : xs.length ≤ 1048576) :
    Calls Try.prog 32 #[v, .int .i64 d] w (BW (LvOk d xs) w) := by
  by_cases hl : (xs.length : Int) = d
  · refine Sl.cases h (fun ad cap hx hv => ?_) (fun b o cap hv _ hpos hc => ?_)
    · subst hx hv
      subst hl
      go_enter Try.func32, Try.ntmps32
      go_wp2
      refine wp_loop_rounds 1 ?_
      rw [rounds_succ]
      go_wp2
      go_ret
      exact bw_true ⟨rfl, by simp⟩
    · subst hv
      subst hl
      clear h
      have HC := Lib.hid hc
      clear hc
      go_enter Try.func32, Try.ntmps32
      go_wp2
      go_loop [6, 13] (fun _ i => ∃ (k : Nat), k ≤ xs.length ∧ i = .int .i64 k ∧ Hid (∀ j (h1 : j < xs.length), j < k → 0 ≤ xs[j] ∧ xs[j] ≤ 5)) (fun _ i => xs.length - (intOf i).toNat)
      case atStart => exact ⟨0, Nat.zero_le _, rfl, Lib.hid (fun _ _ h => absurd h (Nat.not_lt_zero _))⟩
      case round =>
        obtain ⟨k, hk, rfl, HD⟩ := hrel
        by_cases hlt2 : k < xs.length
        · obtain ⟨u, hu, hr⟩ := HC.out k hlt2
          obtain ⟨x, hx⟩ : ∃ x, x = xs[k] := ⟨_, rfl⟩
          rw [hr, ← hx] at hu
          have HX := Lib.hid hx
          clear hx hr
          by_cases hxy : 0 ≤ x ∧ x ≤ 5
          · have HXY := Lib.hid hxy
            clear hxy
            go_wp2_with fail
            refine (in_yes HXY.out _).mono ?_
            rintro e w' ⟨rfl, rfl⟩
            go_wp2
            go_round
            case rel => exact ⟨k + 1, by omega, by go_num, Lib.hid (fun j h1 hjk => by
              by_cases e : j = k
              · subst e; rw [← HX.out]; exact HXY.out
              · exact HD.out j h1 (by omega))⟩
            case measure => simp [intOf]; omega
          · have HXY := Lib.hid hxy
            clear hxy
            go_wp2_with fail
            refine (in_no HXY.out _).mono ?_
            rintro e w' ⟨rfl, rfl⟩
            go_wp2
            go_ret
            exact bw_false (fun h => HXY.out (by rw [HX.out]; exact h.2 _ (List.getElem_mem hlt2)))
        · go_wp2
          go_ret
          exact bw_true ⟨rfl, all_of_lt (fun j hj => HD.out j hj (by omega))⟩
  · obtain ⟨ad, cap, rfl⟩ := Sl.shape h
    clear h
    have hq : ((xs.length : Int) != d) = true := by simp [hl]
    have hq2 : ((xs.length : Int) == d) = false := by simp [hl]
    have HL := Lib.hid hl
    clear hl
    go_enter Try.func32, Try.ntmps32
    go_wp2
    go_ret
    exact bw_false (fun h => HL.out h.1)

set_option maxHeartbeats 800000 in
theorem isBelow_any (q : Int) (v v2 : Value) (xs ys : List Int) (w : World) (h : L1 0 w v xs) (h2 : L1 0 w v2 ys) (hm : xs.length ≤ 1048576) (hl : xs.length ≤ ys.length) :
    Calls Try.prog 33 #[v, v2, .int .i64 q] w (BW (BeRow xs ys q) w) := by
  refine Sl.cases h (fun ad cap hx hv => ?_) (fun b o cap hv _ hpos hc => ?_)
  · subst hx hv
    go_enter Try.func33, Try.ntmps33
    go_wp2
    refine wp_loop_rounds 1 ?_
    rw [rounds_succ]
    go_wp2
    go_ret
    exact bw_true (fun j h => absurd h (Nat.not_lt_zero _))
  · refine Sl.cases h2 (fun ad cap hx hv => absurd hl (by rw [hx]; show ¬ xs.length ≤ 0; omega)) (fun b2 o2 cap2 hv2 _ hpos2 hc2 => ?_)
    subst hv hv2
    clear h h2
    have HC := Lib.hid hc
    have HC2 := Lib.hid hc2
    clear hc hc2
    go_enter Try.func33, Try.ntmps33
    go_wp2
    go_loop [7, 8, 11] (fun _ _ i => ∃ (k : Nat), k ≤ xs.length ∧ i = .int .i64 k ∧ Hid (∀ j (h1 : j < xs.length), j < k → xs[j] ≠ 0 → ys.getD j 0 ≤ q)) (fun _ _ i => xs.length - (intOf i).toNat)
    case atStart => exact ⟨0, Nat.zero_le _, rfl, Lib.hid (fun _ _ h => absurd h (Nat.not_lt_zero _))⟩
    case round =>
      obtain ⟨k, hk, rfl, HD⟩ := hrel
      by_cases hlt2 : k < xs.length
      · have hlt3 : k < ys.length := by omega
        obtain ⟨u, hu, hr⟩ := HC.out k hlt2
        obtain ⟨u2, hu2, hr2⟩ := HC2.out k hlt3
        obtain ⟨x, hx⟩ : ∃ x, x = xs[k] := ⟨_, rfl⟩
        obtain ⟨y, hy⟩ : ∃ y, y = ys[k] := ⟨_, rfl⟩
        rw [hr, ← hx] at hu
        rw [hr2, ← hy] at hu2
        have HX := Lib.hid hx
        have HY : Hid (ys.getD k 0 = y) := Lib.hid (by rw [getD_of_lt _ hlt3, hy])
        clear hx hy hr hr2
        by_cases hx0 : x = 0
        · subst hx0
          go_wp2
          go_round
          case rel => exact ⟨k + 1, by omega, by go_num, Lib.hid (fun j h1 hjk => by
            by_cases e : j = k
            · subst e; exact fun hn => absurd HX.out.symm hn
            · exact HD.out j h1 (by omega))⟩
          case measure => simp [intOf]; omega
        · have hq1 : (x != 0) = true := by simp [hx0]
          have hq2 : (x == 0) = false := by simp [hx0]
          have HX0 := Lib.hid hx0
          clear hx0
          by_cases hyq : q < y
          · have hdq : decide (q < y) = true := by simp [hyq]
            have HYQ := Lib.hid hyq
            clear hyq
            go_wp2
            go_ret
            exact bw_false (fun h => absurd (h k hlt2 (by rw [← HX.out]; exact HX0.out)) (by rw [HY.out]; have := HYQ.out; omega))
          · have hdq : decide (q < y) = false := by simp; omega
            have HYQ := Lib.hid hyq
            clear hyq
            go_wp2
            go_round
            case rel => exact ⟨k + 1, by omega, by go_num, Lib.hid (fun j h1 hjk => by
              by_cases e : j = k
              · subst e; intro _; rw [HY.out]; have := HYQ.out; omega
              · exact HD.out j h1 (by omega))⟩
            case measure => simp [intOf]; omega
      · go_wp2
        go_ret
        exact bw_true (fun j hj => HD.out j hj (by omega))

set_option maxHeartbeats 3200000 in
set_option maxRecDepth 100000 in
theorem isFiltered_any (p : Int) (dv mv lv : Value) (ds : List Int) (ms : List (List (List Int))) (ls : List (List Int)) (w : World) (h : Fi 0 w dv mv lv ds ms ls) (hd : ds.length ≤ 1048576) (hm : Bd3 1048576 ms) (hl : Bd2 1048576 ls) :
    Calls Try.prog 11 #[.agg #[.int .i64 p, dv, mv, lv]] w (BB (IsFil p ds ms ls) w) := by
  have hml : ms.length ≤ 1048576 := hm.1
  have hll : ls.length ≤ 1048576 := hl.1
  have HM := Lib.hid hm
  have HLB := Lib.hid hl
  obtain ⟨⟨ad, cap, hdv⟩, ⟨am, capm, hmv⟩, ⟨al, capl, hlv⟩⟩ := h.shapes
  subst hdv hmv hlv
  have HX0 := Lib.hid (Fx.start (p := p) 33 h)
  clear hm hl h
  go_enter Try.func11, Try.ntmps11
  go_wp2_with fail
  refine (isComplex_any p _ _ ds ms _ HX0.out.fi.cx hd HM.out).mono ?_
  rintro e w1 ⟨bb, rfl, hb1, hbb⟩
  have HX1 := Lib.hid (HX0.out.next hb1)
  have HBB := Lib.hid hbb
  clear hb1 hbb HX0
  have c0 := HX1.out.c0
  have c1 := HX1.out.c1
  have c2 := HX1.out.c2
  have c3 := HX1.out.c3
  cases bb with
  | false =>
    go_wp2
    go_ret
    exact bb_false HX1.out.below (fun hh => absurd (HBB.out.2 hh.1) (by simp))
  | true =>
    have HCX : Hid (IsCx p ds ms) := Lib.hid (HBB.out.1 (by simp))
    clear HBB
    by_cases hlen : (ls.length : Int) = (ds.length : Int)
    · have hq1 : ((ls.length : Int) != (ds.length : Int)) = false := by rw [hlen]; simp
      have hq2 : ((ls.length : Int) == (ds.length : Int)) = true := by rw [hlen]; simp
      have hdsl : ds.length ≤ 6 := HCX.out.1.len1
      have hds0 : 1 ≤ ds.length := HCX.out.1.len0
      have HLSD : Hid (ls.length = ds.length) := Lib.hid (by omega)
      have hmsd : ms.length + 1 = ds.length := HCX.out.1.mlen
      clear hlen
      go_wp2
      go_loop [3, 4, 26] (fun _ _ i => ∃ (k : Nat), k ≤ ls.length ∧ i = .int .i64 k ∧ Hid (∀ n, n < ls.length → n < k → LvOk (ds.getD n 0) (ls.getD n []))) (fun _ _ i => ls.length - (intOf i).toNat)
      case atStart => exact ⟨0, Nat.zero_le _, rfl, Lib.hid (fun _ _ h => absurd h (Nat.not_lt_zero _))⟩
      case round =>
        obtain ⟨k, hk, rfl, HD⟩ := hrel
        by_cases hlt : k < ls.length
        · have hltd : k < ds.length := by have := HLSD.out; omega
          refine Sl.cases HX1.out.fi.cx.dims (fun _ _ hx _ => absurd hltd (by simp [hx])) (fun bd od capd hv _ hposd hcld => ?_)
          injection hv with e1 _ e3
          subst e1 e3
          refine Sl.cases HX1.out.fi.lv (fun _ _ hx _ => absurd hlt (by simp [hx])) (fun bl ol capl2 hv _ hposl hcll => ?_)
          injection hv with e1 _ e3
          subst e1 e3
          obtain ⟨u, hu, hr⟩ := hcld k hltd
          obtain ⟨u2, hu2, hr2⟩ := hcll k hlt
          obtain ⟨x, hx⟩ : ∃ x, x = ds[k] := ⟨_, rfl⟩
          rw [hr, ← hx] at hu
          have HE := Lib.hid (isLevelList_any x u2 ls[k] w1 hr2 (HLB.out.2 _ (List.getElem_mem hlt)))
          have HT : Hid (LvOk (ds.getD k 0) (ls.getD k []) ↔ LvOk x ls[k]) := Lib.hid (by rw [getD_of_lt _ hltd, getD_of_lt _ hlt, hx])
          clear hx hr hr2 hcld hcll
          by_cases ht : LvOk x ls[k]
          · have HEY := Lib.hid (bw_yes HE.out ht)
            have HTY := Lib.hid ht
            clear ht HE
            go_wp2_with fail
            refine HEY.out.mono ?_
            rintro e w' ⟨rfl, rfl⟩
            go_wp2
            go_round
            case rel => exact ⟨k + 1, by omega, by go_num, Lib.hid (fun j h1 hjk => by
              by_cases e : j = k
              · subst e; exact HT.out.2 HTY.out
              · exact HD.out j h1 (by omega))⟩
            case measure => simp [intOf]; omega
          · have HEY := Lib.hid (bw_no HE.out ht)
            have HTY := Lib.hid ht
            clear ht HE
            go_wp2_with fail
            refine HEY.out.mono ?_
            rintro e w' ⟨rfl, rfl⟩
            go_wp2
            go_ret
            exact bb_false HX1.out.below (fun h => HTY.out (HT.out.1 (h.2.lvs k hlt)))
        · have HLV : Hid (∀ n, n < ls.length → LvOk (ds.getD n 0) (ls.getD n [])) := Lib.hid (fun n hn => HD.out n hn (by omega))
          clear HD
          go_wp2
          clear c0 c1 c2 c3
          go_loopw [5, 6, 7, 8, 45, 52] (fun _ _ _ _ i _ wr => ∃ (k m : Nat), k ≤ ms.length ∧ i = .int .i64 k ∧ wr = w1.drewN m ∧ Hid (∀ j, j < ms.length → j < k → ∀ i, i < (ms.getD j []).length → BeRow ((ms.getD j []).getD i []) (ls.getD j []) ((ls.getD (j + 1) []).getD i 0))) (fun _ _ _ _ i _ _ => ms.length - (intOf i).toNat)
          case atStart => exact ⟨0, 0, Nat.zero_le _, rfl, rfl, Lib.hid (fun _ _ h => absurd h (Nat.not_lt_zero _))⟩
          case round =>
            obtain ⟨k, m, hk, rfl, hw, HD⟩ := hrel
            have HXR : Hid (Fx w wr w.heap.size p (.slice ad ds.length cap) (.slice am ms.length capm) (.slice al ls.length capl) ds ms ls) := Lib.hid (by rw [hw]; exact HX1.out.next (drewN_below _ m))
            have HW := Lib.hid hw
            clear hw
            have c0 := HXR.out.c0
            have c1 := HXR.out.c1
            have c2 := HXR.out.c2
            have c3 := HXR.out.c3
            by_cases hlt : k < ms.length
            · refine Sl.cases HXR.out.fi.cx.maps (fun _ _ hx _ => absurd hlt (by simp [hx])) (fun bm om capm2 hv _ hposm hclm => ?_)
              injection hv with e1 _ e3
              subst e1 e3
              have hl0 : k < ls.length := by have := HLSD.out; omega
              have hl1 : k + 1 < ls.length := by have := HLSD.out; omega
              refine Sl.cases HXR.out.fi.lv (fun _ _ hx _ => absurd hl0 (by simp [hx])) (fun bl ol capl2 hv _ hposl hcll => ?_)
              injection hv with e1 _ e3
              subst e1 e3
              obtain ⟨u, hu, hr⟩ := hclm k hlt
              obtain ⟨v0, hv0, hr0⟩ := hcll k hl0
              obtain ⟨v1, hv1, hr1⟩ := hcll (k + 1) hl1
              have htab := HCX.out.tab hlt
              have hlv0 := HLV.out k hl0
              have hlv1 := HLV.out (k + 1) hl1
              obtain ⟨t, ht⟩ : ∃ t, t = ms[k] := ⟨_, rfl⟩
              obtain ⟨l0, hl0e⟩ : ∃ t, t = ls[k] := ⟨_, rfl⟩
              obtain ⟨l1, hl1e⟩ : ∃ t, t = ls[k + 1] := ⟨_, rfl⟩
              rw [getD_of_lt _ hlt, ← ht] at htab
              rw [getD_of_lt _ hl0, ← hl0e] at hlv0
              rw [getD_of_lt _ hl1, ← hl1e] at hlv1
              have hbt : Bd2 1048576 t := by rw [ht]; exact HM.out.2 _ (List.getElem_mem hlt)
              have htl : t.length ≤ 1048576 := hbt.1
              have htl1 : t.length = l1.length := by have := htab.1; have := hlv1.1; omega
              have HTR : Hid (∀ j (hj : j < t.length), (t[j]).length = l0.length ∧ (t[j]).length ≤ 1048576) := Lib.hid (fun j hj => ⟨by have := (htab.2 _ (List.getElem_mem hj)).1; have := hlv0.1; omega, hbt.2 _ (List.getElem_mem hj)⟩)
              have HT : Hid (ms.getD k [] = t ∧ ls.getD k [] = l0 ∧ ls.getD (k + 1) [] = l1) := Lib.hid ⟨by rw [getD_of_lt _ hlt, ht], by rw [getD_of_lt _ hl0, hl0e], by rw [getD_of_lt _ hl1, hl1e]⟩
              have HR : Hid (L2 0 wr u t) := Lib.hid (by rw [ht]; exact hr)
              have HR0 : Hid (L1 0 wr v0 l0) := Lib.hid (by rw [hl0e]; exact hr0)
              have HR1 : Hid (L1 0 wr v1 l1) := Lib.hid (by rw [hl1e]; exact hr1)
              have HV0 := Lib.hid hv0
              have HV1 := Lib.hid hv1
              have HNX : Hid ((∀ i, i < t.length → BeRow (t.getD i []) l0 (l1.getD i 0)) → ∀ j, j < ms.length → j < k + 1 → ∀ i, i < (ms.getD j []).length → BeRow ((ms.getD j []).getD i []) (ls.getD j []) ((ls.getD (j + 1) []).getD i 0)) := Lib.hid (fun hall j h1 hjk => by
                by_cases e : j = k
                · subst e; rw [HT.out.1, HT.out.2.1, HT.out.2.2]; exact hall
                · exact HD.out j h1 (by omega))
              have HNOT : Hid (∀ i, i < t.length → ¬ BeRow (t.getD i []) l0 (l1.getD i 0) → ¬ IsFil p ds ms ls) := Lib.hid (fun i hi hne hf => hne (by
                have := hf.2.bel k hlt i (by rw [HT.out.1]; exact hi)
                rwa [HT.out.1, HT.out.2.1, HT.out.2.2] at this))
              clear hr hr0 hr1 hcll hclm ht hl0e hl1e hbt htab hlv0 hlv1 HD HT hv0 hv1
              have hk5 : k < 6 := by omega
              have hw1 : IntKind.i64.wrap ((k : Int) + 1) = (k : Int) + 1 := IntWalk.i64_in _ (by omega)
              have hq3 : (0 : Int) ≤ (k : Int) + 1 := by omega
              have hq4 : (k : Int) + 1 < (ls.length : Int) := by omega
              have hq5 : ((k : Int) + 1).toNat = k + 1 := by omega
              have hq6 : (k : Int) < (ls.length : Int) := by omega
              refine Sl.cases HR.out (fun adt capt hx hv => ?_) (fun bt ot capt hv _ hpost hct => ?_)
              · subst hv
                have HXT := Lib.hid hx
                clear hx htl1 htl
                go_wp2
                refine wp_loop_rounds 1 ?_
                rw [rounds_succ]
                go_wp2
                go_roundw
                case rel => exact ⟨k + 1, m, by omega, by go_num, HW.out, Lib.hid (HNX.out (fun i hi => absurd hi (by rw [HXT.out]; exact Nat.not_lt_zero _)))⟩
                case measure => simp [intOf]; omega
              · subst hv
                refine Sl.cases HR1.out (fun _ _ hx _ => absurd htl1 (by rw [hx]; show ¬ t.length = 0; omega)) (fun b1 o1 cap1 hv _ hpos1 hc1 => ?_)
                subst hv
                have HCT := Lib.hid hct
                have HC1 := Lib.hid hc1
                have HTL1 := Lib.hid htl1
                clear hct hc1 htl1
                go_wp2
                clear c0 c1 c2 c3
                generalize wr = wo at *
                go_loopw [7, 8, 52] (fun _ _ i wi => ∃ (j mi : Nat), j ≤ t.length ∧ i = .int .i64 j ∧ wi = wo.drewN mi ∧ Hid (∀ i, i < t.length → i < j → BeRow (t.getD i []) l0 (l1.getD i 0))) (fun _ _ i _ => t.length - (intOf i).toNat)
                case atStart => exact ⟨0, 0, Nat.zero_le _, rfl, rfl, Lib.hid (fun _ _ h => absurd h (Nat.not_lt_zero _))⟩
                case round =>
                  obtain ⟨j, mi, hj, rfl, hwi, HJ⟩ := hrel
                  have HXI : Hid (Fx w wr w.heap.size p (.slice ad ds.length cap) (.slice (some ⟨bm, om, none⟩) ms.length capm) (.slice (some ⟨bl, ol, none⟩) ls.length capl) ds ms ls) := Lib.hid (by rw [hwi]; exact HXR.out.next (drewN_below _ mi))
                  have HBI : Hid (Below wo.heap.size wo wr) := Lib.hid (by rw [hwi]; exact drewN_below _ mi)
                  have HWI := Lib.hid hwi
                  clear hwi
                  have c0 := HXI.out.c0
                  have c1 := HXI.out.c1
                  have c2 := HXI.out.c2
                  have c3 := HXI.out.c3
                  by_cases hltj : j < t.length
                  · have hlj1 : j < l1.length := by have := HTL1.out; omega
                    obtain ⟨u2, hu2, hr2⟩ := HCT.out j hltj
                    obtain ⟨x, hx, hrx⟩ := HC1.out j hlj1
                    obtain ⟨q, hq⟩ : ∃ q, q = l1[j] := ⟨_, rfl⟩
                    rw [hrx, ← hq] at hx
                    have hu2 := later HBI.out (Nat.le_refl _) hu2
                    have hx := later HBI.out (Nat.le_refl _) hx
                    have hv0 := later HBI.out (Nat.le_refl _) HV0.out
                    have hv1 := later HBI.out (Nat.le_refl _) HV1.out
                    have htr := HTR.out j hltj
                    obtain ⟨r, hre⟩ : ∃ r, r = t[j] := ⟨_, rfl⟩
                    rw [← hre] at hr2 htr
                    have HE := Lib.hid (fun (m2 : Nat) => isBelow_any q u2 v0 r l0 (wr.drewN m2) ((hr2.below HBI.out).below (drewN_below _ m2)) ((HR0.out.below HBI.out).below (drewN_below _ m2)) htr.2 (by omega))
                    have HQ : Hid (t.getD j [] = r ∧ l1.getD j 0 = q) := Lib.hid ⟨by rw [getD_of_lt _ hltj, hre], by rw [getD_of_lt _ hlj1, hq]⟩
                    clear hr2 hre hq hrx htr
                    have hq7 : (j : Int) < (l1.length : Int) := by omega
                    have hq8 : (0 : Int) ≤ (j : Int) := by omega
                    by_cases ht : BeRow r l0 q
                    · have HEY : Hid (∀ m2, Calls Try.prog 33 #[u2, v0, .int .i64 q] (wr.drewN m2) (QW (.bool true) (wr.drewN m2))) := Lib.hid (fun m2 => bw_yes (HE.out m2) ht)
                      have HTY := Lib.hid ht
                      clear ht HE
                      go_wp2
                      go_quiet ((go_at_call 33; exact qw_quiet (HEY.out _)))
                      clear hw1 hq3 hq4 hq5 hq6 hq7 hq8
                      go_wp2
                      go_roundw
                      case rel => exact ⟨j + 1, mi + nq, by omega, by go_num, by rw [HWI.out, World.drewN_drewN], Lib.hid (fun i h1 hjk => by
                        by_cases e : i = j
                        · subst e; rw [HQ.out.1, HQ.out.2]; exact HTY.out
                        · exact HJ.out i h1 (by omega))⟩
                      case measure => simp [intOf]; omega
                    · have HEY : Hid (∀ m2, Calls Try.prog 33 #[u2, v0, .int .i64 q] (wr.drewN m2) (QW (.bool false) (wr.drewN m2))) := Lib.hid (fun m2 => bw_no (HE.out m2) ht)
                      have HTY := Lib.hid ht
                      clear ht HE
                      go_wp2
                      go_quiet ((go_at_call 33; exact qw_quiet (HEY.out _)))
                      clear hw1 hq3 hq4 hq5 hq6 hq7 hq8
                      go_wp2
                      go_ret
                      exact bb_false (HXI.out.next (drewN_below _ nq)).below (HNOT.out j hltj (by rw [HQ.out.1, HQ.out.2]; exact HTY.out))
                  · clear hw1 hq3 hq4 hq5 hq6
                    go_wp2
                    go_roundw
                    case rel => exact ⟨k + 1, m + mi, by omega, by go_num, by rw [HWI.out, HW.out, World.drewN_drewN], Lib.hid (HNX.out (fun i hi => HJ.out i hi (by omega)))⟩
                    case measure => simp [intOf]; omega
            · go_wp2
              go_ret
              exact bb_true HXR.out.below ⟨HCX.out, HLSD.out, HLV.out, fun j hj => HD.out j hj (by omega)⟩
    · have hq1 : ((ls.length : Int) != (ds.length : Int)) = true := by simp; omega
      have hq2 : ((ls.length : Int) == (ds.length : Int)) = false := by simp; omega
      have HLN := Lib.hid hlen
      clear hlen
      go_wp2
      go_ret
      exact bb_false HX1.out.below (fun hh => HLN.out (by rw [hh.2.len]))
end Go.Proofs.Ytobfeleoafdmpaa
