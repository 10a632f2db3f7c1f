/-
  spec.l02Level, l02Is, IsFiltered by their contracts.
-/
import Derived.Test.YtobfeleoafdmpaaFilI
import Derived.Test.YtobfeleoafdmpaaMap
import Derived.Deep.RegionHeld3
namespace Go.Proofs.Ytobfeleoafdmpaa
open Go.RowKit

theorem Fx.nextH {w wr w' : World} {b : Nat} {p : Int} {dv mv lv : Value} {ds : List Int} {ms : List (List (List Int))} {ls : List (List Int)} (hb : Below wr.heap.size wr w') (h : Hid (Fx w wr b p dv mv lv ds ms ls)) : Hid (Fx w w' b p dv mv lv ds ms ls) := Lib.hid (h.out.next hb)
theorem Fx.drewH {w wr : World} {b : Nat} {p : Int} {dv mv lv : Value} {ds : List Int} {ms : List (List (List Int))} {ls : List (List Int)} (h : Hid (Fx w wr b p dv mv lv ds ms ls)) : Hid (Fx w wr.drew b p dv mv lv ds ms ls) := Lib.hid (h.out.next (Below.refl _ _).drew)
theorem Fx.all {w wr : World} {b : Nat} {p : Int} {dv mv lv : Value} {ds : List Int} {ms : List (List (List Int))} {ls : List (List Int)} (h : Hid (Fx w wr b p dv mv lv ds ms ls)) :
    wr.cell? ⟨b, 0, none⟩ = some (.int .i64 p) ∧ wr.cell? ⟨b, 1, none⟩ = some dv ∧ wr.cell? ⟨b, 2, none⟩ = some mv ∧ wr.cell? ⟨b, 3, none⟩ = some lv ∧ Hid (Fx w wr b p dv mv lv ds ms ls) := ⟨h.out.c0, h.out.c1, h.out.c2, h.out.c3, h⟩

set_option maxHeartbeats 800000 in
theorem l02Level_any (p : Int) (dv mv lv : Value) (ls : List (List Int)) (n i : Nat) (w : World) (h : L2 0 w lv ls) (hn : n < ls.length) (hi : i < (ls.getD n []).length) :
    Calls Try.prog 37 #[.agg #[.int .i64 p, dv, mv, lv], .int .i64 (n : Int), .int .i64 (i : Int)] w (BR (.int .i64 ((ls.getD n []).getD i 0)) w) := by
  obtain ⟨l, hle⟩ : ∃ l, l = ls[n] := ⟨_, rfl⟩
  rw [getD_of_lt _ hn, ← hle] at hi ⊢
  obtain ⟨x, hx⟩ : ∃ x, x = l[i] := ⟨_, rfl⟩
  rw [getD_of_lt _ hi, ← hx]
  refine Sl.cases h (fun _ _ hx _ => absurd hn (by simp [hx])) (fun bl ol capl hv _ hposl hcll => ?_)
  obtain ⟨v0, hv0, hr0⟩ := hcll n hn
  rw [← hle] at hr0
  refine Sl.cases hr0 (fun _ _ hx _ => absurd hi (by simp [hx])) (fun b1 o1 cap1 hv1 _ hpos1 hc1 => ?_)
  obtain ⟨u, hu, hr⟩ := hc1 i hi
  rw [hr, ← hx] at hu
  subst hv hv1
  have hb0 := (Below.refl w.heap.size w).alloc (Nat.le_refl _) (.cells #[.int .i64 p, dv, mv, .slice (some ⟨bl, ol, none⟩) ls.length capl] 33)
  have hv0 := later hb0 (Nat.le_refl _) hv0
  have hu := later hb0 (Nat.le_refl _) hu
  have HB0 := Lib.hid hb0
  clear hb0 hr0 hcll h hc1 hr hle hx
  go_enter Try.func37, Try.ntmps37
  go_wp2
  go_ret
  exact ⟨rfl, HB0.out⟩

set_option maxHeartbeats 6400000 in
set_option maxRecDepth 100000 in
theorem l02Is_any (p : Int) (dv mv lv : Value) (ds : List Int) (ms : List (List (List Int))) (ls : List (List Int)) (w : World) (h : Fi 0 w dv mv lv ds ms ls) (hd : ds.length ≤ 1048576) (hm : Bd3 1048576 ms) (hl : Bd2 1048576 ls) :
    Calls Try.prog 29 #[.agg #[.int .i64 p, dv, mv, lv]] w (BB (IsFil p ds ms ls) w) := by
  have hml : ms.length ≤ 1048576 := hm.1
  have hll : ls.length ≤ 1048576 := hl.1
  have HM := Lib.hid hm
  have HLB := Lib.hid hl
  obtain ⟨⟨ad, cap, hdv⟩, ⟨am, capm, hmv⟩, ⟨al, capl, hlv⟩⟩ := h.shapes
  subst hdv hmv hlv
  have HX0 := Lib.hid (Fx.start (p := p) 33 h)
  clear hm hl h
  go_enter Try.func29, Try.ntmps29
  go_wp2_with fail
  refine (l01Is_any p _ _ ds ms _ HX0.out.fi.cx hd HM.out).mono ?_
  rintro e w1 ⟨bb, rfl, hb1, hbb⟩
  have HX1 := Lib.hid (HX0.out.next hb1)
  have HBB := Lib.hid hbb
  clear hb1 hbb HX0
  have c0 := HX1.out.c0
  have c1 := HX1.out.c1
  have c2 := HX1.out.c2
  have c3 := HX1.out.c3
  cases bb with
  | false =>
    go_wp2
    go_ret
    exact bb_false HX1.out.below (fun hh => absurd (HBB.out.2 hh.1) (by simp))
  | true =>
    have HCX : Hid (IsCx p ds ms) := Lib.hid (HBB.out.1 (by simp))
    clear HBB
    by_cases hlen : (ls.length : Int) = (ds.length : Int)
    · have hq1 : ((ls.length : Int) != (ds.length : Int)) = false := by rw [hlen]; simp
      have hq2 : ((ls.length : Int) == (ds.length : Int)) = true := by rw [hlen]; simp
      have hdsl : ds.length ≤ 6 := HCX.out.1.len1
      have hds0 : 1 ≤ ds.length := HCX.out.1.len0
      have HLSD : Hid (ls.length = ds.length) := Lib.hid (by omega)
      have hls6 : ls.length ≤ 6 := by omega
      have hmsd : ms.length + 1 = ds.length := HCX.out.1.mlen
      clear hlen
      go_wp2
      clear c0 c1 c2 c3
      go_loopw [3, 4] (fun i _ wr => ∃ (k m : Nat), k ≤ ls.length ∧ i = .int .i64 k ∧ wr = w1.drewN m ∧ Hid (∀ n, n < ls.length → n < k → LvOk (ds.getD n 0) (ls.getD n []))) (fun i _ _ => ls.length - (intOf i).toNat)
      case atStart => exact ⟨0, 0, Nat.zero_le _, rfl, rfl, Lib.hid (fun _ _ h => absurd h (Nat.not_lt_zero _))⟩
      case round =>
        obtain ⟨k, m, hk, rfl, hw, HD⟩ := hrel
        have HXR : Hid (Fx w wr w.heap.size p (.slice ad ds.length cap) (.slice am ms.length capm) (.slice al ls.length capl) ds ms ls) := Lib.hid (by rw [hw]; exact HX1.out.next (drewN_below _ m))
        have HW := Lib.hid hw
        clear hw
        have c0 := HXR.out.c0
        have c1 := HXR.out.c1
        have c2 := HXR.out.c2
        have c3 := HXR.out.c3
        by_cases hlt : k < ls.length
        · have hltd : k < ds.length := by have := HLSD.out; omega
          refine Sl.cases HXR.out.fi.cx.dims (fun _ _ hx _ => absurd hltd (by simp [hx])) (fun bd od capd hv _ hposd hcld => ?_)
          injection hv with e1 _ e3
          subst e1 e3
          refine Sl.cases HXR.out.fi.lv (fun _ _ hx _ => absurd hlt (by simp [hx])) (fun bl ol capl2 hv _ hposl hcll => ?_)
          injection hv with e1 _ e3
          subst e1 e3
          obtain ⟨u, hu, hr⟩ := hcld k hltd
          obtain ⟨u2, hu2, hr2⟩ := hcll k hlt
          obtain ⟨x, hx⟩ : ∃ x, x = ds[k] := ⟨_, rfl⟩
          obtain ⟨l, hle⟩ : ∃ l, l = ls[k] := ⟨_, rfl⟩
          rw [hr, ← hx] at hu
          rw [← hle] at hr2
          have hll2 : l.length ≤ 1048576 := by rw [hle]; exact HLB.out.2 _ (List.getElem_mem hlt)
          have HT : Hid (LvOk (ds.getD k 0) (ls.getD k []) ↔ LvOk x l) := Lib.hid (by rw [getD_of_lt _ hltd, getD_of_lt _ hlt, hx, hle])
          have HNX : Hid (LvOk x l → ∀ n, n < ls.length → n < k + 1 → LvOk (ds.getD n 0) (ls.getD n [])) := Lib.hid (fun hh j h1 hjk => by
              by_cases e : j = k
              · subst e; exact HT.out.2 hh
              · exact HD.out j h1 (by omega))
          have HNOT : Hid (¬ LvOk x l → ¬ IsFil p ds ms ls) := Lib.hid (fun hh hf => hh (HT.out.1 (hf.2.lvs k hlt)))
          have HU2 := Lib.hid hu2
          clear hx hr hcld hcll hle HT HD hu2
          have hq6 : (k : Int) < (ls.length : Int) := by omega
          have hq7 : (k : Int) < (ds.length : Int) := by omega
          have hq8 : (0 : Int) ≤ (k : Int) := by omega
          obtain ⟨al2, capl3, hv2⟩ := Sl.shape hr2
          subst hv2
          by_cases hlx : (l.length : Int) = x
          · have hq3 : ((l.length : Int) != x) = false := by rw [hlx]; simp
            have hq4 : ((l.length : Int) == x) = true := by rw [hlx]; simp
            have HLX := Lib.hid hlx
            clear hlx
            have hu2 := HU2.out
            go_wp2
            go_quiet (fail)
            clear hq6 hq7 hq8 hu2 c0 c1 c2 c3 hu
            go_wp2
            have HXQ := Lib.hid (HXR.out.next (drewN_below _ nq))
            have HU2Q : Hid ((wr.drewN nq).cell? ⟨bl, ol + k, none⟩ = some (.slice al2 l.length capl3)) := Lib.hid HU2.out
            have HR2 := Lib.hid (hr2.below (drewN_below _ nq))
            have HWQ : Hid (wr.drewN nq = w1.drewN (m + nq)) := Lib.hid (by rw [HW.out, World.drewN_drewN])
            clear hr2 HXR HU2 HW
            generalize wr.drewN nq = wo at *
            have c0 := HXQ.out.c0
            have c1 := HXQ.out.c1
            have c2 := HXQ.out.c2
            have c3 := HXQ.out.c3
            have hu2 := HU2Q.out
            go_loop [4] (fun i => ∃ (j : Nat), j ≤ l.length ∧ i = .int .i64 j ∧ Hid (∀ q (h : q < l.length), q < j → 0 ≤ l[q] ∧ l[q] ≤ 5)) (fun i => l.length - (intOf i).toNat)
            case atStart => exact ⟨0, Nat.zero_le _, rfl, Lib.hid (fun _ _ h => absurd h (Nat.not_lt_zero _))⟩
            case round =>
              obtain ⟨j, hj, rfl, HJ⟩ := hrel
              by_cases hltj : j < l.length
              · refine Sl.cases HR2.out (fun _ _ hx _ => absurd hltj (by simp [hx])) (fun b1 o1 cap1 hv _ hpos1 hc1 => ?_)
                injection hv with e1 _ e3
                subst e1 e3
                obtain ⟨u3, hu3, hr3⟩ := hc1 j hltj
                obtain ⟨y, hy⟩ : ∃ y, y = l[j] := ⟨_, rfl⟩
                rw [hr3, ← hy] at hu3
                have HY := Lib.hid hy
                clear hy hr3 hc1
                by_cases hxy : 0 ≤ y ∧ y ≤ 5
                · have HXY := Lib.hid hxy
                  clear hxy
                  go_wp2_with fail
                  refine (spin_yes HXY.out _).mono ?_
                  rintro e w' ⟨rfl, rfl⟩
                  go_wp2
                  go_round
                  case rel => exact ⟨j + 1, by omega, by go_num, Lib.hid (fun q h1 hjk => by
                    by_cases e : q = j
                    · subst e; rw [← HY.out]; exact HXY.out
                    · exact HJ.out q h1 (by omega))⟩
                  case measure => simp [intOf]; omega
                · have HXY := Lib.hid hxy
                  clear hxy
                  go_wp2_with fail
                  refine (spin_no HXY.out _).mono ?_
                  rintro e w' ⟨rfl, rfl⟩
                  go_wp2
                  go_ret
                  exact bb_false HXQ.out.below (HNOT.out (fun h => HXY.out (by rw [HY.out]; exact h.2 _ (List.getElem_mem hltj))))
              · go_wp2
                go_roundw
                case rel => exact ⟨k + 1, m + nq, by omega, by go_num, HWQ.out, Lib.hid (HNX.out ⟨HLX.out, all_of_lt (fun q hq => HJ.out q hq (by omega))⟩)⟩
                case measure => simp [intOf]; omega
          · have hq3 : ((l.length : Int) != x) = true := by simp [hlx]
            have hq4 : ((l.length : Int) == x) = false := by simp [hlx]
            have HLX := Lib.hid hlx
            clear hlx
            have hu2 := HU2.out
            go_wp2
            go_quiet (fail)
            clear hq6 hq7 hq8 hu2
            go_wp2
            go_ret
            exact bb_false (HXR.out.next (drewN_below _ nq)).below (HNOT.out (fun h => HLX.out h.1))
        · have HLV : Hid (∀ n, n < ls.length → LvOk (ds.getD n 0) (ls.getD n [])) := Lib.hid (fun n hn => HD.out n hn (by omega))
          clear HD
          go_wp2
          clear c0 c1 c2 c3
          generalize wr = wa at *
          clear HW HX1
          go_loopw [5, 6, 7, 8] (fun i _ _ _ wr => ∃ (k : Nat), k ≤ ms.length ∧ i = .int .i64 ((k : Int) + 1) ∧ Hid (Fx w wr w.heap.size p (.slice ad ds.length cap) (.slice am ms.length capm) (.slice al ls.length capl) ds ms ls) ∧ Hid (∀ j, j < ms.length → j < k → ∀ i, i < (ms.getD j []).length → BeRow ((ms.getD j []).getD i []) (ls.getD j []) ((ls.getD (j + 1) []).getD i 0))) (fun i _ _ _ _ => ms.length - (intOf i - 1).toNat)
          case atStart => exact ⟨0, Nat.zero_le _, rfl, HXR, Lib.hid (fun _ _ h => absurd h (Nat.not_lt_zero _))⟩
          case round =>
            clear HXR
            obtain ⟨k, hk, rfl, HX, HD⟩ := hrel
            have c0 := HX.out.c0
            have c1 := HX.out.c1
            have c2 := HX.out.c2
            have c3 := HX.out.c3
            by_cases hlt : k < ms.length
            · have hl0 : k < ls.length := by have := HLSD.out; omega
              have hl1 : k + 1 < ls.length := by have := HLSD.out; omega
              have htab := HCX.out.tab hlt
              have hlv0 := HLV.out k hl0
              have hlv1 := HLV.out (k + 1) hl1
              obtain ⟨t, ht⟩ : ∃ t, t = ms.getD k [] := ⟨_, rfl⟩
              obtain ⟨l0, hl0e⟩ : ∃ t, t = ls.getD k [] := ⟨_, rfl⟩
              obtain ⟨l1, hl1e⟩ : ∃ t, t = ls.getD (k + 1) [] := ⟨_, rfl⟩
              rw [← ht] at htab
              rw [← hl0e] at hlv0
              rw [← hl1e] at hlv1
              have htl1 : t.length = l1.length := by have := htab.1; have := hlv1.1; omega
              have hmap : mapZ ds ms ((k : Int) + 1) = t := by rw [mapZ, if_pos (by omega), ht]; congr 1
              have HMAP := Lib.hid hmap
              have htb : t.length ≤ 8 := by have := htab.1; have := HCX.out.1.dim (k + 1); omega
              have HTR : Hid (∀ j (hj : j < t.length), (t[j]).length = l0.length ∧ (t[j]).length ≤ 8) := Lib.hid (fun j hj => by have := (htab.2 _ (List.getElem_mem hj)).1; have := hlv0.1; have := HCX.out.1.dim k; omega)
              have HNX : Hid ((∀ i, i < t.length → BeRow (t.getD i []) l0 (l1.getD i 0)) → ∀ j, j < ms.length → j < k + 1 → ∀ i, i < (ms.getD j []).length → BeRow ((ms.getD j []).getD i []) (ls.getD j []) ((ls.getD (j + 1) []).getD i 0)) := Lib.hid (fun hall j h1 hjk => by
                by_cases e : j = k
                · subst e; rw [← ht, ← hl0e, ← hl1e]; exact hall
                · exact HD.out j h1 (by omega))
              have HNOT : Hid (∀ i, i < t.length → ¬ BeRow (t.getD i []) l0 (l1.getD i 0) → ¬ IsFil p ds ms ls) := Lib.hid (fun i hi hne hf => hne (by
                have := hf.2.bel k hlt i (by rw [← ht]; exact hi)
                rwa [← ht, ← hl0e, ← hl1e] at this))
              have HA0 : Hid (∀ W, Hid (Fx w W w.heap.size p (.slice ad ds.length cap) (.slice am ms.length capm) (.slice al ls.length capl) ds ms ls) → ∀ q : Nat, q < l0.length → Calls Try.prog 37 #[.agg #[.int .i64 p, .slice ad ds.length cap, .slice am ms.length capm, .slice al ls.length capl], .int .i64 (k : Int), .int .i64 (q : Int)] W (BR (.int .i64 (l0.getD q 0)) W)) := Lib.hid (fun W hW q hq => by
                have h := l02Level_any p (.slice ad ds.length cap) (.slice am ms.length capm) (.slice al ls.length capl) ls k q W hW.out.fi.lv hl0 (by rw [← hl0e]; exact hq)
                rwa [← hl0e] at h)
              have HA1 : Hid (∀ W, Hid (Fx w W w.heap.size p (.slice ad ds.length cap) (.slice am ms.length capm) (.slice al ls.length capl) ds ms ls) → ∀ q : Nat, q < l1.length → Calls Try.prog 37 #[.agg #[.int .i64 p, .slice ad ds.length cap, .slice am ms.length capm, .slice al ls.length capl], .int .i64 ((k : Int) + 1), .int .i64 (q : Int)] W (BR (.int .i64 (l1.getD q 0)) W)) := Lib.hid (fun W hW q hq => by
                have h := l02Level_any p (.slice ad ds.length cap) (.slice am ms.length capm) (.slice al ls.length capl) ls (k + 1) q W hW.out.fi.lv hl1 (by rw [← hl1e]; exact hq)
                rwa [← hl1e] at h)
              have HTL1 := Lib.hid htl1
              clear htab hlv0 hlv1 HD ht hl0e hl1e hmap htl1
              have hk5 : k < 6 := by omega
              have hdec : decide ((k : Int) + 1 < (ls.length : Int)) = true := by simp; omega
              go_wp2_with fail
              refine (l01Map_any p ((k : Int) + 1) _ _ ds ms _ HX.out.fi.cx HCX.out).mono ?_
              rw [HMAP.out]
              rintro e w2 ⟨v2, rfl, hv2, hb2⟩
              have HX2 := Lib.hid (HX.out.next hb2)
              obtain ⟨a2, k2, rfl⟩ := Sl.shape hv2
              have HV2 := Lib.hid hv2
              clear hb2 hv2 c0 c1 c2 c3 HX HMAP
              go_wp2
              go_loopw [7, 8] (fun i _ wr => ∃ (j : Nat), j ≤ t.length ∧ i = .int .i64 j ∧ Hid (Fx w wr w.heap.size p (.slice ad ds.length cap) (.slice am ms.length capm) (.slice al ls.length capl) ds ms ls) ∧ Hid (L2 0 wr (.slice a2 t.length k2) t) ∧ Hid (∀ i, i < t.length → i < j → BeRow (t.getD i []) l0 (l1.getD i 0))) (fun i _ _ => t.length - (intOf i).toNat)
              case atStart => exact ⟨0, Nat.zero_le _, rfl, HX2, HV2, Lib.hid (fun _ _ h => absurd h (Nat.not_lt_zero _))⟩
              case round =>
                clear HX2 HV2
                obtain ⟨j, hj, rfl, HX, HV, HJ⟩ := hrel
                by_cases hltj : j < t.length
                · have hlj1 : j < l1.length := by have := HTL1.out; omega
                  have htr := HTR.out j hltj
                  obtain ⟨r, hre⟩ : ∃ r, r = t[j] := ⟨_, rfl⟩
                  obtain ⟨y, hy⟩ : ∃ y, y = l1.getD j 0 := ⟨_, rfl⟩
                  rw [← hre] at htr
                  have hrl := htr.2
                  have HRL := Lib.hid htr.1
                  have HRE := Lib.hid hre
                  have HB1 : Hid (∀ W, Hid (Fx w W w.heap.size p (.slice ad ds.length cap) (.slice am ms.length capm) (.slice al ls.length capl) ds ms ls) → Calls Try.prog 37 #[.agg #[.int .i64 p, .slice ad ds.length cap, .slice am ms.length capm, .slice al ls.length capl], .int .i64 ((k : Int) + 1), .int .i64 (j : Int)] W (BR (.int .i64 y) W)) := Lib.hid (fun W hW => by
                    have h := HA1.out W hW j hlj1
                    rwa [← hy] at h)
                  have HNX2 : Hid ((∀ q (h : q < r.length), r[q] ≠ 0 → l0.getD q 0 ≤ y) → ∀ i, i < t.length → i < j + 1 → BeRow (t.getD i []) l0 (l1.getD i 0)) := Lib.hid (fun hall i h1 hij => by
                    by_cases e : i = j
                    · subst e; rw [getD_of_lt _ hltj, ← hre, ← hy]; exact hall
                    · exact HJ.out i h1 (by omega))
                  have HNOT2 : Hid (∀ q (h : q < r.length), r[q] ≠ 0 → ¬ l0.getD q 0 ≤ y → ¬ IsFil p ds ms ls) := Lib.hid (fun q hq h0 hn => HNOT.out j hltj (by rw [getD_of_lt _ hltj, ← hre, ← hy]; exact fun hh => hn (hh q hq h0)))
                  clear hre hy htr HJ
                  go_wp2
                  go_loopw [8] (fun i wr => ∃ (q : Nat), q ≤ r.length ∧ i = .int .i64 q ∧ Hid (Fx w wr w.heap.size p (.slice ad ds.length cap) (.slice am ms.length capm) (.slice al ls.length capl) ds ms ls) ∧ Hid (L2 0 wr (.slice a2 t.length k2) t) ∧ Hid (∀ q2 (h : q2 < r.length), q2 < q → r[q2] ≠ 0 → l0.getD q2 0 ≤ y)) (fun i _ => r.length - (intOf i).toNat)
                  case atStart => exact ⟨0, Nat.zero_le _, rfl, HX, HV, Lib.hid (fun _ _ h => absurd h (Nat.not_lt_zero _))⟩
                  case round =>
                    clear HX HV
                    obtain ⟨q, hq, rfl, HX, HV, HQ⟩ := hrel
                    have c0 := HX.out.c0
                    have c1 := HX.out.c1
                    have c2 := HX.out.c2
                    have c3 := HX.out.c3
                    refine Sl.cases HV.out (fun _ _ hx _ => absurd hltj (by simp [hx])) (fun bt ot capt hv _ hpost hct => ?_)
                    injection hv with e1 _ e3
                    subst e1 e3
                    obtain ⟨u2, hu2, hr2⟩ := hct j hltj
                    rw [← HRE.out] at hr2
                    clear hct
                    by_cases hltq : q < r.length
                    · refine Sl.cases hr2 (fun _ _ hx _ => absurd hltq (by simp [hx])) (fun b1 o1 cap1 hv1 _ hpos1 hc1 => ?_)
                      subst hv1
                      obtain ⟨u3, hu3, hr3⟩ := hc1 q hltq
                      obtain ⟨x, hx⟩ : ∃ x, x = r[q] := ⟨_, rfl⟩
                      rw [hr3, ← hx] at hu3
                      have HXE := Lib.hid hx
                      clear hx hr3 hc1 hr2
                      have hw1 : IntKind.i64.wrap ((k : Int) + 1 - 1) = (k : Int) := by rw [show (k : Int) + 1 - 1 = k by omega]; exact IntWalk.i64_in _ (by omega)
                      have hw2 : IntKind.i64.wrap (k : Int) = (k : Int) := IntWalk.i64_in _ (by omega)
                      have hq5 : (0 : Int) ≤ (j : Int) := by omega
                      have hq6 : (j : Int) < (t.length : Int) := by omega
                      have hq7 : (0 : Int) ≤ (q : Int) := by omega
                      have hq8 : (q : Int) < (r.length : Int) := by omega
                      by_cases hx0 : x = 0
                      · subst hx0
                        go_wp2
                        go_quiet (fail)
                        clear hq5 hq6 hq7 hq8 hw1 hw2
                        go_wp2
                        go_roundw
                        case rel => exact ⟨q + 1, by omega, by go_num, Lib.hid (HX.out.next (drewN_below _ nq)), Lib.hid (HV.out.below (drewN_below _ nq)), Lib.hid (fun q2 h1 hjk => by
                          by_cases e : q2 = q
                          · subst e; exact fun hn => absurd HXE.out.symm hn
                          · exact HQ.out q2 h1 (by omega))⟩
                        case measure => simp [intOf]; omega
                      · have hqx : (x != 0) = true := by simp [hx0]
                        have hqx2 : (x == 0) = false := by simp [hx0]
                        have HX0 := Lib.hid hx0
                        clear hx0
                        have HB0 := Lib.hid (fun W hW => HA0.out W hW q (by rw [← HRL.out]; exact hltq))
                        obtain ⟨a, ha⟩ : ∃ a, a = l0.getD q 0 := ⟨_, rfl⟩
                        rw [← ha] at HB0
                        have HAE := Lib.hid ha
                        clear ha
                        have HALL : Hid (∀ W, Hid (Below wr.heap.size wr W) → W.cell? ⟨w.heap.size, 0, none⟩ = some (.int .i64 p) ∧ W.cell? ⟨w.heap.size, 1, none⟩ = some (.slice ad ds.length cap) ∧ W.cell? ⟨w.heap.size, 2, none⟩ = some (.slice am ms.length capm) ∧ W.cell? ⟨w.heap.size, 3, none⟩ = some (.slice al ls.length capl) ∧
            W.cell? ⟨bt, ot + j, none⟩ = some (.slice (some ⟨b1, o1, none⟩) r.length cap1) ∧ W.cell? ⟨b1, o1 + q, none⟩ = some (.int .i64 x) ∧ Hid (Below wr.heap.size wr W)) := Lib.hid (fun W hW => ⟨later hW.out (Nat.le_refl _) c0, later hW.out (Nat.le_refl _) c1, later hW.out (Nat.le_refl _) c2, later hW.out (Nat.le_refl _) c3, later hW.out (Nat.le_refl _) hu2, later hW.out (Nat.le_refl _) hu3, hW⟩)
                        have HDREW : Hid (Below wr.heap.size wr wr.drew) := Lib.hid (Below.refl _ _).drew
                        have HN : Hid (∀ W W', Hid (Below wr.heap.size wr W) → Below W.heap.size W W' → Hid (Below wr.heap.size wr W')) := Lib.hid (fun W W' h1 h2 => Lib.hid (h1.out.trans (h2.mono h1.out.size)))
                        have HC0 : Hid (∀ W, Hid (Below wr.heap.size wr W) → Calls Try.prog 37 #[.agg #[.int .i64 p, .slice ad ds.length cap, .slice am ms.length capm, .slice al ls.length capl], .int .i64 (k : Int), .int .i64 (q : Int)] W (BR (.int .i64 a) W)) := Lib.hid (fun W hW => HB0.out W (Lib.hid (HX.out.next hW.out)))
                        have HC1 : Hid (∀ W, Hid (Below wr.heap.size wr W) → Calls Try.prog 37 #[.agg #[.int .i64 p, .slice ad ds.length cap, .slice am ms.length capm, .slice al ls.length capl], .int .i64 ((k : Int) + 1), .int .i64 (j : Int)] W (BR (.int .i64 y) W)) := Lib.hid (fun W hW => HB1.out W (Lib.hid (HX.out.next hW.out)))
                        by_cases hya : y < a
                        · have hdy : decide (y < a) = true := by simp [hya]
                          have HYA := Lib.hid hya
                          clear hya
                          go_wp2
                          go_region_held3 (fun W => W.cell? ⟨w.heap.size, 0, none⟩ = some (.int .i64 p) ∧ W.cell? ⟨w.heap.size, 1, none⟩ = some (.slice ad ds.length cap) ∧ W.cell? ⟨w.heap.size, 2, none⟩ = some (.slice am ms.length capm) ∧ W.cell? ⟨w.heap.size, 3, none⟩ = some (.slice al ls.length capl) ∧
            W.cell? ⟨bt, ot + j, none⟩ = some (.slice (some ⟨b1, o1, none⟩) r.length cap1) ∧ W.cell? ⟨b1, o1 + q, none⟩ = some (.int .i64 x) ∧ Hid (Below wr.heap.size wr W))
                            (first | exact HALL.out _ (by assumption) | exact HALL.out _ HDREW | go_keep)
                            (first
                              | (go_at_call 37; refine (HC0.out _ ?_).mono ?_; (first | assumption | exact HDREW); rintro e w3 ⟨rfl, hb3⟩; have HXA := HN.out _ _ (by first | assumption | exact HDREW) hb3; clear hb3 HC0)
                              | (go_at_call 37; refine (HC1.out _ ?_).mono ?_; (first | assumption | exact HDREW); rintro e w3 ⟨rfl, hb3⟩; have HXB := HN.out _ _ (by first | assumption | exact HDREW) hb3; clear hb3))
                          go_wp2
                          go_ret
                          exact bb_false (HX.out.next HXB.out).below (HNOT2.out q hltq (by rw [← HXE.out]; exact HX0.out) (by rw [← HAE.out]; have := HYA.out; omega))
                        · have hdy : decide (y < a) = false := by simp; omega
                          have HYA := Lib.hid hya
                          clear hya
                          go_wp2
                          go_region_held3 (fun W => W.cell? ⟨w.heap.size, 0, none⟩ = some (.int .i64 p) ∧ W.cell? ⟨w.heap.size, 1, none⟩ = some (.slice ad ds.length cap) ∧ W.cell? ⟨w.heap.size, 2, none⟩ = some (.slice am ms.length capm) ∧ W.cell? ⟨w.heap.size, 3, none⟩ = some (.slice al ls.length capl) ∧
            W.cell? ⟨bt, ot + j, none⟩ = some (.slice (some ⟨b1, o1, none⟩) r.length cap1) ∧ W.cell? ⟨b1, o1 + q, none⟩ = some (.int .i64 x) ∧ Hid (Below wr.heap.size wr W))
                            (first | exact HALL.out _ (by assumption) | exact HALL.out _ HDREW | go_keep)
                            (first
                              | (go_at_call 37; refine (HC0.out _ ?_).mono ?_; (first | assumption | exact HDREW); rintro e w3 ⟨rfl, hb3⟩; have HXA := HN.out _ _ (by first | assumption | exact HDREW) hb3; clear hb3 HC0)
                              | (go_at_call 37; refine (HC1.out _ ?_).mono ?_; (first | assumption | exact HDREW); rintro e w3 ⟨rfl, hb3⟩; have HXB := HN.out _ _ (by first | assumption | exact HDREW) hb3; clear hb3))
                          go_wp2
                          go_roundw
                          case rel => exact ⟨q + 1, by omega, by go_num, Lib.hid (HX.out.next HXB.out), Lib.hid (HV.out.below HXB.out), Lib.hid (fun q2 h1 hjk => by
                            by_cases e : q2 = q
                            · subst e; intro _; rw [← HAE.out]; have := HYA.out; omega
                            · exact HQ.out q2 h1 (by omega))⟩
                          case measure => simp [intOf]; omega
                    · obtain ⟨a3, k3, rfl⟩ := Sl.shape hr2
                      clear hr2
                      go_wp2
                      go_roundw
                      case rel => exact ⟨j + 1, by omega, by go_num, HX, HV, Lib.hid (HNX2.out (fun q2 h2 => HQ.out q2 h2 (by omega)))⟩
                      case measure => simp [intOf]; omega
                · go_wp2
                  go_roundw
                  case rel => exact ⟨k + 1, by omega, by go_num, HX, Lib.hid (HNX.out (fun i hi => HJ.out i hi (by omega)))⟩
                  case measure => simp [intOf]; omega
            · have hdec : decide ((k : Int) + 1 < (ls.length : Int)) = false := by have := HLSD.out; simp; omega
              go_wp2
              go_ret
              exact bb_true HX.out.below ⟨HCX.out, HLSD.out, HLV.out, fun j hj => HD.out j hj (by omega)⟩
    · have hq1 : ((ls.length : Int) != (ds.length : Int)) = true := by simp; omega
      have hq2 : ((ls.length : Int) == (ds.length : Int)) = false := by simp; omega
      have HLN := Lib.hid hlen
      clear hlen
      go_wp2
      go_ret
      exact bb_false HX1.out.below (fun hh => HLN.out (by rw [hh.2.len]))

set_option maxHeartbeats 800000 in
theorem spIsFiltered_any (p : Int) (dv mv lv : Value) (ds : List Int) (ms : List (List (List Int))) (ls : List (List Int)) (w : World) (h : Fi 0 w dv mv lv ds ms ls) (hd : ds.length ≤ 1048576) (hm : Bd3 1048576 ms) (hl : Bd2 1048576 ls) :
    Calls Try.prog 9 #[.agg #[.int .i64 p, dv, mv, lv]] w (BB (IsFil p ds ms ls) w) := by
  have HX0 := Lib.hid (Fx.start (p := p) 33 h)
  have H : Hid (∀ W, Fi 0 W dv mv lv ds ms ls → Calls Try.prog 29 #[.agg #[.int .i64 p, dv, mv, lv]] W (BB (IsFil p ds ms ls) W)) := Lib.hid (fun W hW => l02Is_any p dv mv lv ds ms ls W hW hd hm hl)
  clear h hm hl
  go_enter Try.func9, Try.ntmps9
  go_wp2_with fail
  refine (H.out _ HX0.out.fi).mono ?_
  rintro e w2 ⟨bb, rfl, hb2, hbb⟩
  have HBB := Lib.hid hbb
  have HB2 := Lib.hid (HX0.out.next hb2).below
  clear hbb hb2
  go_wp2
  go_ret
  exact ⟨bb, rfl, HB2.out, HBB.out⟩
end Go.Proofs.Ytobfeleoafdmpaa
