/-
  IsWhole of the model, by contracts.
-/
import Derived.Test.YtiokagnolbddlaaWim
namespace Go.Proofs.Ytiokagnolbddlaa
open Go.RowKit

set_option maxHeartbeats 1600000 in
theorem l07Matrix_any (r c : Int) (v : Value) (xs : List (List Int)) (w : World) (h : L2 0 w v xs) (hm : Bd2 1048576 xs) :
    Calls Try.prog 130 #[v, .int .i64 r, .int .i64 c] w (BW (TabIn (-9) 9 r c xs) w) := by
  have hm0 : xs.length ≤ 1048576 := hm.1
  have HM := Lib.hid hm
  clear hm
  by_cases hl : (xs.length : Int) = r
  · refine Sl.cases h (fun ad cap hx hv => ?_) (fun b o cap hv _ hpos hc => ?_)
    · subst hx hv
      subst hl
      go_enter Try.func130, Try.ntmps130
      go_wp2
      refine wp_loop_rounds 1 ?_
      rw [rounds_succ]
      go_wp2
      go_ret
      exact bw_true ⟨rfl, by simp⟩
    · subst hv
      subst hl
      clear h
      have HC := Lib.hid hc
      clear hc
      go_enter Try.func130, Try.ntmps130
      go_wp2
      go_loop [7, 8] (fun i _ => ∃ (k : Nat), k ≤ xs.length ∧ i = .int .i64 k ∧ Hid (∀ j (h1 : j < xs.length), j < k → ((xs[j]).length : Int) = c ∧ AllIn (-9) 9 xs[j])) (fun i _ => xs.length - (intOf i).toNat)
      case atStart => exact ⟨0, Nat.zero_le _, rfl, Lib.hid (fun _ _ h => absurd h (Nat.not_lt_zero _))⟩
      case round =>
        obtain ⟨k, hk, rfl, HD⟩ := hrel
        by_cases hlt2 : k < xs.length
        · obtain ⟨u, hu, hr⟩ := HC.out k hlt2
          have hml : (xs[k]).length ≤ 1048576 := HM.out.2 _ (List.getElem_mem hlt2)
          obtain ⟨ys, hy⟩ : ∃ ys, ys = xs[k] := ⟨_, rfl⟩
          rw [← hy] at hr hml
          have HY := Lib.hid hy
          clear hy
          by_cases hlc : (ys.length : Int) = c
          · refine Sl.cases hr (fun ad2 cap2 hx hv => ?_) (fun b2 o2 cap2 hv _ hpos2 hc2 => ?_)
            · subst hv
              have hc0 : ((0 : Int) != c) = false := by rw [← hlc, hx]; rfl
              have hc1 : ((0 : Int) == c) = true := by rw [← hlc, hx]; rfl
              have HX := Lib.hid hx
              have HLC := Lib.hid hlc
              clear hx hlc hr
              go_wp2
              refine wp_loop_rounds 1 ?_
              rw [rounds_succ]
              go_wp2
              go_round
              case rel => exact ⟨k + 1, by omega, by go_num, Lib.hid (fun j h1 hjk => by
                by_cases e : j = k
                · subst e; rw [← HY.out]; exact ⟨HLC.out, fun y hy => absurd hy (by simp [HX.out])⟩
                · exact HD.out j h1 (by omega))⟩
              case measure => simp [intOf]; omega
            · subst hv
              have hc0 : ((ys.length : Int) != c) = false := by rw [hlc]; simp
              have hc1 : ((ys.length : Int) == c) = true := by rw [hlc]; simp
              have HLC := Lib.hid hlc
              have HC2 := Lib.hid hc2
              clear hlc hr hc2
              go_wp2
              go_loop [8] (fun i => ∃ (q : Nat), q ≤ ys.length ∧ i = .int .i64 q ∧ Hid (∀ j (h1 : j < ys.length), j < q → -9 ≤ ys[j] ∧ ys[j] ≤ 9)) (fun i => ys.length - (intOf i).toNat)
              case atStart => exact ⟨0, Nat.zero_le _, rfl, Lib.hid (fun _ _ h => absurd h (Nat.not_lt_zero _))⟩
              case round =>
                obtain ⟨q, hq, rfl, HD2⟩ := hrel
                by_cases hlt3 : q < ys.length
                · obtain ⟨u2, hu2, hr2⟩ := HC2.out q hlt3
                  obtain ⟨x, hx⟩ : ∃ x, x = ys[q] := ⟨_, rfl⟩
                  rw [hr2, ← hx] at hu2
                  have HX := Lib.hid hx
                  clear hx hr2
                  by_cases hxy : -9 ≤ x ∧ x ≤ 9
                  · have HXY := Lib.hid hxy
                    clear hxy
                    go_wp2_with fail
                    refine (spin_yes HXY.out _).mono ?_
                    rintro e w' ⟨rfl, rfl⟩
                    go_wp2
                    go_round
                    case rel => exact ⟨q + 1, by omega, by go_num, Lib.hid (fun j h1 hjk => by
                      by_cases e : j = q
                      · subst e; rw [← HX.out]; exact HXY.out
                      · exact HD2.out j h1 (by omega))⟩
                    case measure => simp [intOf]; omega
                  · have HXY := Lib.hid hxy
                    clear hxy
                    go_wp2_with fail
                    refine (spin_no HXY.out _).mono ?_
                    rintro e w' ⟨rfl, rfl⟩
                    go_wp2
                    go_ret
                    exact bw_false (fun h => HXY.out (by
                      rw [HX.out]
                      exact (h.2 ys (by rw [HY.out]; exact List.getElem_mem hlt2)).2 _ (List.getElem_mem hlt3)))
                · go_wp2
                  go_round
                  case rel => exact ⟨k + 1, by omega, by go_num, Lib.hid (fun j h1 hjk => by
                    by_cases e : j = k
                    · subst e; rw [← HY.out]; exact ⟨HLC.out, all_of_lt (fun j2 hj2 => HD2.out j2 hj2 (by omega))⟩
                    · exact HD.out j h1 (by omega))⟩
                  case measure => simp [intOf]; omega
          · obtain ⟨ad2, cap2, rfl⟩ := Sl.shape hr
            have hc0 : ((ys.length : Int) != c) = true := by simp [hlc]
            have hc1 : ((ys.length : Int) == c) = false := by simp [hlc]
            have HLC := Lib.hid hlc
            clear hlc hr
            go_wp2
            go_ret
            exact bw_false (fun h => HLC.out (h.2 ys (by rw [HY.out]; exact List.getElem_mem hlt2)).1)
        · go_wp2
          go_ret
          exact bw_true ⟨rfl, all_of_lt (fun j hj => HD.out j hj (by omega))⟩
  · obtain ⟨ad, cap, rfl⟩ := Sl.shape h
    clear h
    have hq : ((xs.length : Int) != r) = true := by simp [hl]
    have hq2 : ((xs.length : Int) == r) = false := by simp [hl]
    have HL := Lib.hid hl
    clear hl
    go_enter Try.func130, Try.ntmps130
    go_wp2
    go_ret
    exact bw_false (fun h => HL.out h.1)

theorem l07Is_no (dv mv : Value) (ds : List Int) (ms : List (List (List Int))) (w : World) (h : Wh 0 w dv mv ds ms) (hb : WhB 1048576 ds ms) (hno : ds.length < 1 ∨ 6 < ds.length ∨ ¬ ms.length + 1 = ds.length) :
    Calls Try.prog 70 #[.agg #[dv, mv]] w (BB (WhOk ds ms) w) := by
  have hdl : ds.length ≤ 1048576 := hb.bd
  have hml : ms.length ≤ 1048576 := hb.bm.1
  have HF : Hid (¬ WhOk ds ms) := Lib.hid (fun hh => by
    have := hh.1.len0
    have := hh.1.len1
    have := hh.1.mlen
    omega)
  obtain ⟨⟨ad, cap, rfl⟩, am, capm, rfl⟩ := h.shapes
  have HB := Lib.hid (BxWh.start 25 h).below
  clear h hb
  by_cases h1 : ds.length < 1
  · clear hno
    go_enter Try.func70, Try.ntmps70
    go_wp2
    go_ret
    exact bb_false HB.out HF.out
  · by_cases h6 : 6 < ds.length
    · clear hno
      go_enter Try.func70, Try.ntmps70
      go_wp2
      go_ret
      exact bb_false HB.out HF.out
    · have hl : ¬ (ms.length : Int) = (ds.length : Int) - 1 := by omega
      have hq1 : ((ms.length : Int) != (ds.length : Int) - 1) = true := by simp [hl]
      have hq2 : ((ms.length : Int) == (ds.length : Int) - 1) = false := by simp [hl]
      clear hno hl
      go_enter Try.func70, Try.ntmps70
      go_wp2
      go_ret
      exact bb_false HB.out HF.out

set_option maxHeartbeats 6400000 in
set_option maxRecDepth 100000 in
theorem l07Is_yes (dv mv : Value) (ds : List Int) (ms : List (List (List Int))) (w : World) (h : Wh 0 w dv mv ds ms) (hb : WhB 1048576 ds ms) (hl1 : 1 ≤ ds.length) (hl6 : ds.length ≤ 6) (hl : ms.length + 1 = ds.length) :
    Calls Try.prog 70 #[.agg #[dv, mv]] w (BB (WhOk ds ms) w) := by
  have HM := Lib.hid hb.bm
  obtain ⟨⟨ad, cap, rfl⟩, am, capm, rfl⟩ := h.shapes
  have HX0 := Lib.hid (BxWh.start 25 h)
  have hq1 : ((ms.length : Int) != (ds.length : Int) - 1) = false := by simp; omega
  have hq2 : ((ms.length : Int) == (ds.length : Int) - 1) = true := by simp; omega
  have hdq1 : decide ((ds.length : Int) < 1) = false := by simp; omega
  have hdq2 : decide ((6 : Int) < (ds.length : Int)) = false := by simp; omega
  have HL := Lib.hid hl
  have hml : ms.length ≤ 5 := by omega
  clear h hb hl
  go_enter Try.func70, Try.ntmps70
  go_wp2
  obtain ⟨w1, hw1⟩ : ∃ w1, w1 = w.alloc (.cells #[.slice ad ds.length cap, .slice am ms.length capm] 25) := ⟨_, rfl⟩
  rw [← hw1]
  rw [← hw1] at HX0
  have c0 := HX0.out.c0
  have c1 := HX0.out.c1
  clear hw1
  go_loop [3] (fun i => ∃ (k : Nat), k ≤ ds.length ∧ i = .int .i64 k ∧ Hid (∀ j (h1 : j < ds.length), j < k → 0 ≤ ds[j] ∧ ds[j] ≤ 6)) (fun i => ds.length - (intOf i).toNat)
  case atStart => exact ⟨0, Nat.zero_le _, rfl, Lib.hid (fun _ _ h => absurd h (Nat.not_lt_zero _))⟩
  case round =>
    obtain ⟨k, hk, rfl, HD⟩ := hrel
    by_cases hlt : k < ds.length
    · refine Sl.cases HX0.out.cx.fd (fun _ _ hx _ => absurd hlt (by simp [hx])) (fun bd od capd hv _ hposd hcld => ?_)
      injection hv with e1 _ e3
      subst e1 e3
      obtain ⟨u, hu, hr⟩ := hcld k hlt
      obtain ⟨x, hx⟩ : ∃ x, x = ds[k] := ⟨_, rfl⟩
      rw [hr, ← hx] at hu
      have HX := Lib.hid hx
      clear hx hr hcld
      by_cases hxy : 0 ≤ x ∧ x ≤ 6
      · have HXY := Lib.hid hxy
        clear hxy
        go_wp2_with fail
        refine (spin_yes HXY.out _).mono ?_
        rintro e w' ⟨rfl, rfl⟩
        go_wp2
        go_round
        case rel => exact ⟨k + 1, by omega, by go_num, Lib.hid (fun j h1 hjk => by
          by_cases e : j = k
          · subst e; rw [← HX.out]; exact HXY.out
          · exact HD.out j h1 (by omega))⟩
        case measure => simp [intOf]; omega
      · have HXY := Lib.hid hxy
        clear hxy
        go_wp2_with fail
        refine (spin_no HXY.out _).mono ?_
        rintro e w' ⟨rfl, rfl⟩
        go_wp2
        go_ret
        exact bb_false HX0.out.below (fun h => HXY.out (by rw [HX.out]; exact h.1.dims _ (List.getElem_mem hlt)))
    · have HDIMS : Hid (AllIn 0 6 ds) := Lib.hid (all_of_lt (fun j hj => HD.out j hj (by omega)))
      clear HD
      go_wp2
      clear c0 c1
      go_loopw [4, 5, 6, 7, 8] (fun i _ _ _ _ wr => ∃ (k m : Nat), k ≤ ms.length ∧ i = .int .i64 k ∧ wr = w1.drewN m ∧ Hid (∀ j, j < ms.length → j < k → TabIn (-9) 9 (ds.getD (j + 1) 0) (ds.getD j 0) (ms.getD j [])) ∧
        Hid (∀ q, q + 1 < k → ∀ r ∈ ms.getD (q + 1) [], ∀ c, c < (ds.getD q 0).toNat → dotTo r (ms.getD q []) c r.length = 0)) (fun i _ _ _ _ _ => ms.length - (intOf i).toNat)
      case atStart => exact ⟨0, 0, Nat.zero_le _, rfl, rfl, Lib.hid (fun _ _ h => absurd h (Nat.not_lt_zero _)), Lib.hid (fun _ h => absurd h (Nat.not_lt_zero _))⟩
      case round =>
        obtain ⟨k, m, hk, rfl, hw, HD, HS⟩ := hrel
        have HXR : Hid (BxWh w wr w.heap.size (.slice ad ds.length cap) (.slice am ms.length capm) ds ms) := Lib.hid (by rw [hw]; exact HX0.out.next (drewN_below _ m))
        have HW := Lib.hid hw
        clear hw
        have c0 := HXR.out.c0
        have c1 := HXR.out.c1
        by_cases hlt : k < ms.length
        · refine Sl.cases HXR.out.cx.fd (fun _ _ hx _ => absurd hl1 (by simp [hx])) (fun bd od capd hv _ hposd hcld => ?_)
          injection hv with e1 _ e3
          subst e1 e3
          refine Sl.cases HXR.out.cx.fm (fun _ _ hx _ => absurd hlt (by simp [hx])) (fun bm om capm2 hv _ hposm hclm => ?_)
          injection hv with e1 _ e3
          subst e1 e3
          have hd1 : k + 1 < ds.length := by have := HL.out; omega
          obtain ⟨u, hu, hr⟩ := hclm k hlt
          obtain ⟨v0, hv0, hr0⟩ := hcld k (by omega)
          obtain ⟨v1, hv1, hr1⟩ := hcld (k + 1) hd1
          rw [hr0] at hv0
          rw [hr1] at hv1
          obtain ⟨d0, hd0⟩ : ∃ d, d = ds[k] := ⟨_, rfl⟩
          obtain ⟨d1, hd1'⟩ : ∃ d, d = ds[k + 1] := ⟨_, rfl⟩
          rw [← hd0] at hv0
          rw [← hd1'] at hv1
          have HE := Lib.hid (fun (m2 : Nat) => l07Matrix_any d1 d0 u ms[k] (wr.drewN m2) (hr.below (drewN_below wr m2)) (HM.out.2 _ (List.getElem_mem hlt)))
          have HT : Hid (TabIn (-9) 9 (ds.getD (k + 1) 0) (ds.getD k 0) (ms.getD k []) ↔ TabIn (-9) 9 d1 d0 ms[k]) := Lib.hid (by rw [getD_of_lt _ hd1, getD_of_lt _ (by omega : k < ds.length), getD_of_lt _ hlt, hd0, hd1'])
          have HD0 : Hid (d0 = ds.getD k 0) := Lib.hid (by rw [hd0, getD_of_lt _ (by omega : k < ds.length)])
          have HR := Lib.hid hr
          clear hr hr0 hr1 hcld hclm hd0 hd1'
          have hw1 : IntKind.i64.wrap ((k : Int) + 1) = (k : Int) + 1 := IntWalk.i64_in _ (by omega)
          have hq3 : (0 : Int) ≤ (k : Int) + 1 := by omega
          have hq4 : (k : Int) + 1 < (ds.length : Int) := by omega
          have hq5 : ((k : Int) + 1).toNat = k + 1 := by omega
          have hq6 : (k : Int) < (ds.length : Int) := by omega
          have hdec1 : decide ((k : Int) < (ms.length : Int)) = true := by simp; omega
          by_cases ht : TabIn (-9) 9 d1 d0 ms[k]
          · have HEY : Hid (∀ m2, Calls Try.prog 130 #[u, .int .i64 d1, .int .i64 d0] (wr.drewN m2) (QW (.bool true) (wr.drewN m2))) := Lib.hid (fun m2 => bw_yes (HE.out m2) ht)
            have HTY := Lib.hid ht
            clear ht HE
            go_wp2
            go_quiet ((go_at_call 130; exact qw_quiet (HEY.out _)))
            clear hw1 hq3 hq4 hq5 hq6
            go_wp2
            obtain ⟨wo, hwo⟩ : ∃ wo, wo = wr.drewN nq := ⟨_, rfl⟩
            rw [← hwo]
            have hbo : Below wr.heap.size wr wo := by rw [hwo]; exact drewN_below _ nq
            have HWO : Hid (wo = w1.drewN (m + nq)) := Lib.hid (by rw [hwo, HW.out, World.drewN_drewN])
            have HXO := Lib.hid (HXR.out.next hbo)
            have HRO := Lib.hid (HR.out.below hbo)
            have HU := Lib.hid (later hbo (Nat.le_refl _) hu)
            have HV0 := Lib.hid (later hbo (Nat.le_refl _) hv0)
            clear c0 c1 hu hv0 hv1 HXR HR hbo hwo HW
            have HNX : Hid ((1 ≤ k → ∀ r ∈ ms.getD k [], ∀ c, c < (ds.getD (k - 1) 0).toNat → dotTo r (ms.getD (k - 1) []) c r.length = 0) → (∀ j, j < ms.length → j < k + 1 → TabIn (-9) 9 (ds.getD (j + 1) 0) (ds.getD j 0) (ms.getD j [])) ∧
                ∀ q, q + 1 < k + 1 → ∀ r ∈ ms.getD (q + 1) [], ∀ c, c < (ds.getD q 0).toNat → dotTo r (ms.getD q []) c r.length = 0) := Lib.hid (fun hz => ⟨fun j h1 hjk => by
              by_cases e : j = k
              · subst e; exact HT.out.2 HTY.out
              · exact HD.out j h1 (by omega), fun q hqk => by
              by_cases e : q + 1 = k
              · subst e; exact hz (by omega)
              · exact HS.out q (by omega)⟩)
            obtain ⟨t1, ht1⟩ : ∃ t, t = ms[k] := ⟨_, rfl⟩
            have HRO' : Hid (L2 0 wo u t1) := Lib.hid (by rw [ht1]; exact HRO.out)
            have htl : t1.length ≤ 6 := by
              have h1 := HTY.out.1
              rw [← ht1] at h1
              have h2 : ds.getD (k + 1) 0 = d1 := by have := (HT.out.2 HTY.out).1; rw [getD_of_lt _ hlt, ← ht1] at this; omega
              have h3 : 0 ≤ ds.getD (k + 1) 0 ∧ ds.getD (k + 1) 0 ≤ 6 := by rw [getD_of_lt _ hd1]; exact HDIMS.out _ (List.getElem_mem _)
              omega
            have hT1 : TabIn (-9) 9 d1 d0 t1 := by rw [ht1]; exact HTY.out
            by_cases hk0 : 1 ≤ k
            · obtain ⟨t0, ht0⟩ : ∃ t, t = ms.getD (k - 1) [] := ⟨_, rfl⟩
              have hdim : 0 ≤ ds.getD (k - 1) 0 ∧ ds.getD (k - 1) 0 ≤ 6 := by rw [getD_of_lt _ (by omega)]; exact HDIMS.out _ (List.getElem_mem _)
              obtain ⟨c, hc⟩ := Int.eq_ofNat_of_zero_le hdim.1
              have hc6 : c ≤ 6 := by omega
              have HCN : Hid ((ds.getD (k - 1) 0).toNat = c) := Lib.hid (by rw [hc]; rfl)
              have hdimk : 0 ≤ ds.getD k 0 ∧ ds.getD k 0 ≤ 6 := by rw [getD_of_lt _ (by omega)]; exact HDIMS.out _ (List.getElem_mem _)
              rw [← HD0.out] at hdimk
              obtain ⟨n, hn⟩ := Int.eq_ofNat_of_zero_le hdimk.1
              have hn6 : n ≤ 6 := by omega
              have h0t := HD.out (k - 1) (by omega) (by omega)
              rw [show k - 1 + 1 = k by omega, ← HD0.out, ← ht0, hc, hn] at h0t
              have HT0 := Lib.hid h0t
              rw [hn] at hT1
              have HT1 := Lib.hid hT1
              have HAZ : Hid (∀ j (hj : j < t1.length), AzOk c t1[j] t0 ∧ (t1[j]).length = n) := Lib.hid (fun j hj => by
                have h1 := HT1.out.2 _ (List.getElem_mem hj)
                have e1 := h1.1
                have e0 := HT0.out.1
                exact ⟨⟨by omega, by omega, h1.2, fun r hr => ⟨(HT0.out.2 r hr).1, (HT0.out.2 r hr).2⟩⟩, by omega⟩)
              have HNX2 : Hid ((∀ j (hj : j < t1.length), ∀ q, q < c → dotTo t1[j] t0 q n = 0) → (∀ j, j < ms.length → j < k + 1 → TabIn (-9) 9 (ds.getD (j + 1) 0) (ds.getD j 0) (ms.getD j [])) ∧
                ∀ q, q + 1 < k + 1 → ∀ r ∈ ms.getD (q + 1) [], ∀ c, c < (ds.getD q 0).toNat → dotTo r (ms.getD q []) c r.length = 0) := Lib.hid (fun hall => HNX.out (fun _ r hr => by
                rw [getD_of_lt _ hlt, ← ht1] at hr
                obtain ⟨j, hj, rfl⟩ := List.getElem_of_mem hr
                rw [HCN.out, ← ht0, (HAZ.out j hj).2]
                exact hall j hj))
              have HNOT : Hid (∀ j (hj : j < t1.length) q, q < c → ¬ dotTo t1[j] t0 q n = 0 → ¬ WhOk ds ms) := Lib.hid (fun j hj q hq hne hs => hne (by
                have := hs.2 (k - 1) (by omega) t1[j] (by rw [show k - 1 + 1 = k by omega, getD_of_lt _ hlt, ← ht1]; exact List.getElem_mem _) q (by rw [HCN.out]; exact hq)
                rwa [← ht0, (HAZ.out j hj).2] at this))
              have hk1 : k - 1 < ms.length := by omega
              have hk2 : k - 1 < ds.length := by omega
              obtain ⟨u0, hu0, hr0⟩ := Sl.at HXO.out.cx.fm hk1
              obtain ⟨ud, hud, hrd⟩ := Sl.at HXO.out.cx.fd hk2
              have HU0 := Lib.hid hu0
              have HUD : Hid (wo.cell? ⟨bd, od + (k - 1), none⟩ = some (.int .i64 (c : Int))) := Lib.hid (by rw [hud, hrd, ← getD_of_lt 0 hk2, hc])
              have HUK : Hid (wo.cell? ⟨bd, od + k, none⟩ = some (.int .i64 (n : Int))) := Lib.hid (by rw [HV0.out, hn])
              have HR0 : Hid (L2 0 wo u0 t0) := Lib.hid (by rw [ht0, getD_of_lt _ hk1]; exact hr0)
              have ht0l : t0.length = n := by have := HT0.out.1; omega
              clear ht1 ht0 hdim hc hu0 hr0 hud hrd HNX HRO HT HTY HD HS HCN HEY hdimk hn HV0 hT1 h0t HT0 HT1
              refine Sl.cases HRO'.out (fun ad1 cap1 hx1 hv1 => ?_) (fun b1 o1 cap1 hv1 _ hpos1 hcl1 => ?_)
              · subst hv1
                have c0 := HXO.out.c0
                have c1 := HXO.out.c1
                have hu := HU.out
                have HX1 := Lib.hid hx1
                clear hx1
                refine wp_loop_rounds 1 ?_
                rw [rounds_succ]
                go_wp2
                go_roundw
                case rel =>
                  have hh := HNX2.out (fun j hj => absurd hj (by rw [HX1.out]; simp))
                  exact ⟨k + 1, m + nq, by omega, by go_num, HWO.out, Lib.hid hh.1, Lib.hid hh.2⟩
                case measure => simp [intOf]; omega
              · subst hv1
                have HC1 := Lib.hid hcl1
                have hdec2 : decide ((0 : Int) < (k : Int)) = true := by simp; omega
                clear hcl1
                go_loopw [5, 6, 7, 8] (fun i _ _ _ wr => ∃ (j m : Nat), j ≤ t1.length ∧ i = .int .i64 j ∧ wr = wo.drewN m ∧ Hid (∀ j2 (hj : j2 < t1.length), j2 < j → ∀ q, q < c → dotTo t1[j2] t0 q n = 0)) (fun i _ _ _ _ => t1.length - (intOf i).toNat)
                case atStart => exact ⟨0, 0, Nat.zero_le _, rfl, rfl, Lib.hid (fun _ _ h => absurd h (Nat.not_lt_zero _))⟩
                case round =>
                  obtain ⟨j, m1, hj, rfl, hw, HJ⟩ := hrel
                  have hbr : Below wo.heap.size wo wr := by rw [hw]; exact drewN_below _ m1
                  have HBR := Lib.hid hbr
                  have HWR := Lib.hid hw
                  have c0 := (HXO.out.next hbr).c0
                  have c1 := (HXO.out.next hbr).c1
                  have hu := later hbr (Nat.le_refl _) HU.out
                  clear hbr hw
                  by_cases hltj : j < t1.length
                  · obtain ⟨u2, hu2, hr2⟩ := HC1.out j hltj
                    obtain ⟨r1, hr1⟩ : ∃ r, r = t1[j] := ⟨_, rfl⟩
                    rw [← hr1] at hr2
                    have HAJ := Lib.hid (HAZ.out j hltj)
                    rw [← hr1] at HAJ
                    have HRJ := Lib.hid hr1
                    have hrl : r1.length = n := HAJ.out.2
                    obtain ⟨wi, hwi⟩ : ∃ wi : World, wi = wr := ⟨_, rfl⟩
                    have HWI := Lib.hid hwi
                    have HU2 := Lib.hid hu2
                    have HR2 := Lib.hid hr2
                    clear hr1 hwi hu2 hr2
                    go_wp2
                    clear c0 c1 hu
                    go_loopw [6, 7, 8] (fun i _ _ wr => ∃ (q m : Nat), q ≤ c ∧ i = .int .i64 q ∧ wr = wo.drewN m ∧ Hid (∀ q2, q2 < q → dotTo r1 t0 q2 n = 0)) (fun i _ _ _ => c - (intOf i).toNat)
                    case atStart => exact ⟨0, m1, Nat.zero_le _, rfl, HWR.out, Lib.hid (fun _ h => absurd h (Nat.not_lt_zero _))⟩
                    case round =>
                      clear HBR
                      obtain ⟨q, m2, hq, rfl, hw, HQ⟩ := hrel
                      have hbr : Below wo.heap.size wo wr := by rw [hw]; exact drewN_below _ m2
                      have HBR := Lib.hid hbr
                      have HWR2 := Lib.hid hw
                      have c0 := (HXO.out.next hbr).c0
                      have c1 := (HXO.out.next hbr).c1
                      have hu := later hbr (Nat.le_refl _) HU.out
                      have hud := later hbr (Nat.le_refl _) HUD.out
                      clear hbr hw
                      have hw1 : IntKind.i64.wrap ((k : Int) - 1) = (k : Int) - 1 := IntWalk.i64_in _ (by omega)
                      have hk3 : (0 : Int) ≤ (k : Int) - 1 := by omega
                      have hk4 : (k : Int) - 1 < (ds.length : Int) := by omega
                      have hk5 : ((k : Int) - 1).toNat = k - 1 := by omega
                      by_cases hltq : q < c
                      · go_wp2
                        clear c0 c1 hu hud hw1 hk3 hk4 hk5
                        go_loopw [7, 8] (fun sm i wr => ∃ (l m : Nat), l ≤ n ∧ i = .int .i64 l ∧ sm = .int .i64 (dotTo r1 t0 q l) ∧ wr = wo.drewN m) (fun _ i _ => n - (intOf i).toNat)
                        case atStart => exact ⟨0, m2, Nat.zero_le _, rfl, rfl, HWR2.out⟩
                        case round =>
                          clear HBR
                          obtain ⟨l, m3, hl, rfl, rfl, hw⟩ := hrel
                          have hbr : Below wo.heap.size wo wr := by rw [hw]; exact drewN_below _ m3
                          have HWR3 := Lib.hid hw
                          have c0 := (HXO.out.next hbr).c0
                          have c1 := (HXO.out.next hbr).c1
                          have hu := later hbr (Nat.le_refl _) HU.out
                          have hu0 := later hbr (Nat.le_refl _) HU0.out
                          have huk := later hbr (Nat.le_refl _) HUK.out
                          have hu2 := later hbr (Nat.le_refl _) HU2.out
                          have hbd := dotTo_bd HAJ.out.1 q (k := l) (by omega)
                          have hkd : (k : Int) < (ds.length : Int) := by omega
                          by_cases hltl : l < n
                          · have hll : l < r1.length := by omega
                            have hlt0 : l < t0.length := by omega
                            refine Sl.cases HR2.out (fun _ _ hx _ => absurd hll (by simp [hx])) (fun b2 o2 cap2 hv2 _ hpos2 hcl2 => ?_)
                            subst hv2
                            refine Sl.cases HR0.out (fun _ _ hx _ => absurd hlt0 (by simp [hx])) (fun b3 o3 cap3 hv3 _ hpos3 hcl3 => ?_)
                            subst hv3
                            obtain ⟨ux, hux, hrx⟩ := hcl2 l hll
                            obtain ⟨u3, hu3, hr3⟩ := hcl3 l hlt0
                            have hr3l : ((t0[l]).length : Int) = c := (HAJ.out.1.rows _ (List.getElem_mem hlt0)).1
                            have hq3 : q < (t0[l]).length := by omega
                            refine Sl.cases hr3 (fun _ _ hx _ => absurd hq3 (by simp [hx])) (fun b4 o4 cap4 hv4 _ hpos4 hcl4 => ?_)
                            subst hv4
                            obtain ⟨uy, huy, hry⟩ := hcl4 q hq3
                            obtain ⟨x, hx⟩ : ∃ x, x = r1[l] := ⟨_, rfl⟩
                            obtain ⟨y, hy⟩ : ∃ y, y = (t0[l])[q] := ⟨_, rfl⟩
                            rw [hrx, ← hx] at hux
                            rw [hry, ← hy] at huy
                            have hx9 : -9 ≤ x ∧ x ≤ 9 := by rw [hx]; exact HAJ.out.1.nums _ (List.getElem_mem _)
                            have hy9 : -9 ≤ y ∧ y ≤ 9 := by rw [hy]; exact (HAJ.out.1.rows _ (List.getElem_mem hlt0)).2 _ (List.getElem_mem _)
                            obtain ⟨hm0, hm1⟩ := mul81 hx9.1 hx9.2 hy9.1 hy9.2
                            have HNXT : Hid (dotTo r1 t0 q (l + 1) = dotTo r1 t0 q l + x * y) := Lib.hid (by simp only [dotTo]; rw [hx, hy, getD_of_lt _ hll, getD_of_lt _ hlt0, getD_of_lt _ hq3])
                            have hux' := later hbr (Nat.le_refl _) hux
                            have hu3' := later hbr (Nat.le_refl _) hu3
                            have huy' := later hbr (Nat.le_refl _) huy
                            obtain ⟨tl, htl'⟩ : ∃ tl, tl = (t0[l]).length := ⟨_, rfl⟩
                            rw [← htl'] at hu3' hq3
                            obtain ⟨dv, hdv⟩ : ∃ z, z = dotTo r1 t0 q l := ⟨_, rfl⟩
                            rw [← hdv] at hbd HNXT
                            have HDV := Lib.hid hdv
                            have hd0 : -486 ≤ dv := by omega
                            have hd2 : dv ≤ 486 := by omega
                            have hw1 : IntKind.i64.wrap ((k : Int) - 1) = (k : Int) - 1 := IntWalk.i64_in _ (by omega)
                            have hk3 : (0 : Int) ≤ (k : Int) - 1 := by omega
                            have hk4 : (k : Int) - 1 < (ms.length : Int) := by omega
                            have hk5 : ((k : Int) - 1).toNat = k - 1 := by omega
                            have hw2 : IntKind.i64.wrap (x * y) = x * y := IntWalk.i64_in _ (by omega)
                            have hw3 : IntKind.i64.wrap (dv + x * y) = dv + x * y := IntWalk.i64_in _ (by omega)
                            rw [← hdv]
                            clear hbr hw hux hu3 huy hcl2 hcl3 hcl4 hx hy hrx hry hr3 htl' hr3l hbd hdv hx9 hy9
                            go_wp2
                            go_quiet (fail)
                            clear hw1 hk3 hk4 hk5 hw2 hw3
                            go_wp2
                            go_roundw
                            case rel => exact ⟨l + 1, m3 + nq, by omega, by go_num, by rw [HNXT.out], by rw [HWR3.out, World.drewN_drewN]⟩
                            case measure => simp [intOf]; omega
                          · have hln : l = n := by omega
                            subst hln
                            clear hbr hw hbd
                            by_cases hz : dotTo r1 t0 q l = 0
                            · have HZ := Lib.hid hz
                              rw [hz]
                              clear hz
                              go_wp2
                              go_roundw
                              case rel => exact ⟨q + 1, m3, by omega, by go_num, HWR3.out, Lib.hid (fun q2 hq2 => by
                                by_cases e : q2 = q
                                · subst e; exact HZ.out
                                · exact HQ.out q2 (by omega))⟩
                              case measure => simp [intOf]; omega
                            · have hz2 : (dotTo r1 t0 q l != 0) = true := by simp [hz]
                              have hz3 : (dotTo r1 t0 q l == 0) = false := by simp [hz]
                              have HZ := Lib.hid hz
                              clear hz
                              go_wp2
                              go_ret
                              exact bb_false (HXO.out.next (by rw [HWR3.out]; exact drewN_below _ m3)).below (HNOT.out j hltj q hltq (by rw [← HRJ.out]; exact HZ.out))
                      · have hqc : q = c := by omega
                        subst hqc
                        go_wp2
                        go_roundw
                        case rel => exact ⟨j + 1, m2, by omega, by go_num, HWR2.out, Lib.hid (fun j2 hj2 hlt2 => by
                          by_cases e : j2 = j
                          · subst e; rw [← HRJ.out]; exact HQ.out
                          · exact HJ.out j2 hj2 (by omega))⟩
                        case measure => simp [intOf]; omega
                  · go_wp2
                    go_roundw
                    case rel =>
                      have hh := HNX2.out (fun j2 hj2 => HJ.out j2 hj2 (by omega))
                      exact ⟨k + 1, (m + nq) + m1, by omega, by go_num, by rw [HWR.out, HWO.out, World.drewN_drewN], Lib.hid hh.1, Lib.hid hh.2⟩
                    case measure => simp [intOf]; omega
            · have HNX' : Hid _ := Lib.hid (HNX.out (fun h => absurd h hk0))
              obtain ⟨a1, cap1, rfl⟩ := Sl.shape HRO'.out
              have c0 := HXO.out.c0
              have c1 := HXO.out.c1
              have hu := HU.out
              obtain ⟨n1, hn1⟩ : ∃ n, n = t1.length := ⟨_, rfl⟩
              rw [← hn1] at hu htl
              have HN1 := Lib.hid hn1
              clear hn1 hT1
              have hdec2 : decide (0 < (k : Int)) = false := by simp; omega
              refine wp_loop_rounds 1 ?_
              rw [rounds_succ]
              by_cases hn0 : 0 < n1
              all_goals
                go_wp2
                go_roundw
                case rel => exact ⟨k + 1, m + nq, by omega, by go_num, HWO.out, Lib.hid HNX'.out.1, Lib.hid HNX'.out.2⟩
                case measure => simp [intOf]; omega
          · have HEY : Hid (∀ m2, Calls Try.prog 130 #[u, .int .i64 d1, .int .i64 d0] (wr.drewN m2) (QW (.bool false) (wr.drewN m2))) := Lib.hid (fun m2 => bw_no (HE.out m2) ht)
            have HTY := Lib.hid ht
            clear ht HE
            go_wp2
            go_quiet ((go_at_call 130; exact qw_quiet (HEY.out _)))
            clear hw1 hq3 hq4 hq5 hq6
            go_wp2
            go_ret
            exact bb_false (HXR.out.next (drewN_below _ nq)).below (fun h => HTY.out (HT.out.1 (h.1.tabs k hlt)))
        · go_wp2
          go_ret
          exact bb_true HXR.out.below ⟨⟨hl1, hl6, HL.out, HDIMS.out, fun j hj => HD.out j hj (by omega)⟩, fun q hq => HS.out q (by omega)⟩

theorem l07Is_any (dv mv : Value) (ds : List Int) (ms : List (List (List Int))) (w : World) (h : Wh 0 w dv mv ds ms) (hb : WhB 1048576 ds ms) :
    Calls Try.prog 70 #[.agg #[dv, mv]] w (BB (WhOk ds ms) w) := by
  by_cases h2 : 1 ≤ ds.length ∧ ds.length ≤ 6 ∧ ms.length + 1 = ds.length
  · exact l07Is_yes dv mv ds ms w h hb h2.1 h2.2.1 h2.2.2
  · exact l07Is_no dv mv ds ms w h hb (by omega)
theorem spIsWhole_any (dv mv : Value) (ds : List Int) (ms : List (List (List Int))) (w : World) (h : Wh 0 w dv mv ds ms) (hb : WhB 1048576 ds ms) :
    Calls Try.prog 21 #[.agg #[dv, mv]] w (BB (WhOk ds ms) w) := by
  obtain ⟨⟨ad, cap, rfl⟩, am, capm, rfl⟩ := h.shapes
  have H := Lib.hid h
  have HBD := Lib.hid hb
  clear h hb
  obtain ⟨w1, hw1⟩ : ∃ w1, w1 = w.alloc (.cells #[.slice ad ds.length cap, .slice am ms.length capm] 25) := ⟨_, rfl⟩
  have HB1 : Hid (Below w.heap.size w w1) := Lib.hid (by rw [hw1]; exact (Below.refl _ _).alloc (Nat.le_refl _) _)
  have c0 : w1.cell? ⟨w.heap.size, 0, none⟩ = some (.slice ad ds.length cap) := by rw [hw1]; simp
  have c1 : w1.cell? ⟨w.heap.size, 1, none⟩ = some (.slice am ms.length capm) := by rw [hw1]; simp
  go_enter Try.func21, Try.ntmps21
  go_upto_region 1 with fail
  rw [← hw1]
  clear hw1
  go_wp2_with fail
  refine (l07Is_any _ _ ds ms _ (H.out.below HB1.out) HBD.out).mono ?_
  rintro e w' ⟨bb, rfl, hb', hbb⟩
  have HB' := Lib.hid (HB1.out.trans (hb'.mono HB1.out.size))
  have HBB := Lib.hid hbb
  clear hb' hbb c0 c1
  go_wp2
  go_ret
  exact ⟨bb, rfl, HB'.out, HBB.out⟩
theorem bbw_uniq {P : Prop} {a b : Bool} (h : a = true ↔ P) (k : b = true ↔ P) : a = b := by
  cases a <;> cases b <;> simp_all
end Go.Proofs.Ytiokagnolbddlaa
