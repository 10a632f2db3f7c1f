/-
  spec.l01Table, spec.l01Lead by their contracts; what a vector times a table is, in plain words.
-/
import Derived.Test.YtlbalcckjokeiaaBase
namespace Go.Proofs.Ytlbalcckjokeiaa
open Go.RowKit

set_option maxHeartbeats 1600000 in
theorem l01Table_any (p r c : Int) (v : Value) (xs : List (List Int)) (w : World) (hp : IsP p) (h : L2 0 w v xs) (hm : Bd2 1048576 xs) :
    Calls Try.prog 110 #[.int .i64 p, v, .int .i64 r, .int .i64 c] w (BW (TabOk p r c xs) w) := by
  have hm0 : xs.length ≤ 1048576 := hm.1
  have HM := Lib.hid hm
  have hp0 := hp.lo
  have hp1 := hp.hi
  clear hm hp
  by_cases hl : (xs.length : Int) = r
  · refine Sl.cases h (fun ad cap hx hv => ?_) (fun b o cap hv _ hpos hc => ?_)
    · subst hx hv
      subst hl
      go_enter Try.func110, Try.ntmps110
      go_wp2
      refine wp_loop_rounds 1 ?_
      rw [rounds_succ]
      go_wp2
      go_ret
      exact bw_true ⟨rfl, by simp⟩
    · subst hv
      subst hl
      clear h
      have HC := Lib.hid hc
      clear hc
      go_enter Try.func110, Try.ntmps110
      go_wp2
      go_loop [9, 10] (fun i _ => ∃ (k : Nat), k ≤ xs.length ∧ i = .int .i64 k ∧ Hid (∀ j (h1 : j < xs.length), j < k → RowOk p c xs[j])) (fun i _ => xs.length - (intOf i).toNat)
      case atStart => exact ⟨0, Nat.zero_le _, rfl, Lib.hid (fun _ _ h => absurd h (Nat.not_lt_zero _))⟩
      case round =>
        obtain ⟨k, hk, rfl, HD⟩ := hrel
        by_cases hlt2 : k < xs.length
        · obtain ⟨u, hu, hr⟩ := HC.out k hlt2
          have hml : (xs[k]).length ≤ 1048576 := HM.out.2 _ (List.getElem_mem hlt2)
          obtain ⟨ys, hy⟩ : ∃ ys, ys = xs[k] := ⟨_, rfl⟩
          rw [← hy] at hr hml
          have HY := Lib.hid hy
          clear hy
          by_cases hlc : (ys.length : Int) = c
          · refine Sl.cases hr (fun ad2 cap2 hx hv => ?_) (fun b2 o2 cap2 hv _ hpos2 hc2 => ?_)
            · subst hv
              have hc0 : ((0 : Int) != c) = false := by rw [← hlc, hx]; rfl
              have hc1 : ((0 : Int) == c) = true := by rw [← hlc, hx]; rfl
              have HX := Lib.hid hx
              have HLC := Lib.hid hlc
              clear hx hlc hr
              go_wp2
              refine wp_loop_rounds 1 ?_
              rw [rounds_succ]
              go_wp2
              go_round
              case rel => exact ⟨k + 1, by omega, by go_num, Lib.hid (fun j h1 hjk => by
                by_cases e : j = k
                · subst e; rw [← HY.out]; exact ⟨HLC.out, by simp [HX.out]⟩
                · exact HD.out j h1 (by omega))⟩
              case measure => simp [intOf]; omega
            · subst hv
              have hc0 : ((ys.length : Int) != c) = false := by rw [hlc]; simp
              have hc1 : ((ys.length : Int) == c) = true := by rw [hlc]; simp
              have HLC := Lib.hid hlc
              have HC2 := Lib.hid hc2
              clear hlc hr hc2
              go_wp2
              go_loop [10] (fun i => ∃ (q : Nat), q ≤ ys.length ∧ i = .int .i64 q ∧ Hid (∀ j (h1 : j < ys.length), j < q → 0 ≤ ys[j] ∧ ys[j] ≤ p - 1)) (fun i => ys.length - (intOf i).toNat)
              case atStart => exact ⟨0, Nat.zero_le _, rfl, Lib.hid (fun _ _ h => absurd h (Nat.not_lt_zero _))⟩
              case round =>
                obtain ⟨q, hq, rfl, HD2⟩ := hrel
                by_cases hlt3 : q < ys.length
                · obtain ⟨u2, hu2, hr2⟩ := HC2.out q hlt3
                  obtain ⟨x, hx⟩ : ∃ x, x = ys[q] := ⟨_, rfl⟩
                  rw [hr2, ← hx] at hu2
                  have HX := Lib.hid hx
                  clear hx hr2
                  by_cases hxy : 0 ≤ x ∧ x ≤ p - 1
                  · have HXY := Lib.hid hxy
                    clear hxy
                    go_wp2_with fail
                    refine (spin_yes HXY.out _).mono ?_
                    rintro e w' ⟨rfl, rfl⟩
                    go_wp2
                    go_round
                    case rel => exact ⟨q + 1, by omega, by go_num, Lib.hid (fun j h1 hjk => by
                      by_cases e : j = q
                      · subst e; rw [← HX.out]; exact HXY.out
                      · exact HD2.out j h1 (by omega))⟩
                    case measure => simp [intOf]; omega
                  · have HXY := Lib.hid hxy
                    clear hxy
                    go_wp2_with fail
                    refine (spin_no HXY.out _).mono ?_
                    rintro e w' ⟨rfl, rfl⟩
                    go_wp2
                    go_ret
                    exact bw_false (fun h => HXY.out (by
                      rw [HX.out]
                      exact (h.2 ys (by rw [HY.out]; exact List.getElem_mem hlt2)).2 _ (List.getElem_mem hlt3)))
                · go_wp2
                  go_round
                  case rel => exact ⟨k + 1, by omega, by go_num, Lib.hid (fun j h1 hjk => by
                    by_cases e : j = k
                    · subst e; rw [← HY.out]; exact ⟨HLC.out, all_of_lt (fun j2 hj2 => HD2.out j2 hj2 (by omega))⟩
                    · exact HD.out j h1 (by omega))⟩
                  case measure => simp [intOf]; omega
          · obtain ⟨ad2, cap2, rfl⟩ := Sl.shape hr
            have hc0 : ((ys.length : Int) != c) = true := by simp [hlc]
            have hc1 : ((ys.length : Int) == c) = false := by simp [hlc]
            have HLC := Lib.hid hlc
            clear hlc hr
            go_wp2
            go_ret
            exact bw_false (fun h => HLC.out (h.2 ys (by rw [HY.out]; exact List.getElem_mem hlt2)).1)
        · go_wp2
          go_ret
          exact bw_true ⟨rfl, all_of_lt (fun j hj => HD.out j hj (by omega))⟩
  · obtain ⟨ad, cap, rfl⟩ := Sl.shape h
    clear h
    have hq : ((xs.length : Int) != r) = true := by simp [hl]
    have hq2 : ((xs.length : Int) == r) = false := by simp [hl]
    have HL := Lib.hid hl
    clear hl
    go_enter Try.func110, Try.ntmps110
    go_wp2
    go_ret
    exact bw_false (fun h => HL.out h.1)

/-- Where the first number other than 0 stands, or -1. -/
def leadOf : List Int → Int
  | [] => -1
  | x :: xs => if x = 0 then (let r := leadOf xs; if r < 0 then -1 else r + 1) else 0

theorem leadOf_zero {xs : List Int} (h : ∀ j (hj : j < xs.length), xs[j] = 0) : leadOf xs = -1 := by
  induction xs with
  | nil => rfl
  | cons x xs ih =>
    have h0 : x = 0 := h 0 (by simp)
    have ih' := ih (fun j hj => h (j + 1) (by simpa using hj))
    simp [leadOf, h0, ih']
theorem leadOf_at {xs : List Int} : ∀ {k : Nat} (hk : k < xs.length), (∀ j (hj : j < xs.length), j < k → xs[j] = 0) → xs[k] ≠ 0 → leadOf xs = k := by
  induction xs with
  | nil => intro k hk; simp at hk
  | cons x xs ih =>
    intro k hk h hne
    cases k with
    | zero => simp at hne; simp [leadOf, hne]
    | succ k =>
      have h0 : x = 0 := h 0 (by simp) (by omega)
      have := ih (k := k) (by simpa using hk) (fun j hj hjk => h (j + 1) (by simpa using hj) (by omega)) (by simpa using hne)
      simp only [leadOf, h0, if_true, this]
      rw [if_neg (by omega)]
      omega

set_option maxHeartbeats 800000 in
theorem l01Lead_any (v : Value) (xs : List Int) (w : World) (h : L1 0 w v xs) (hm : xs.length ≤ 1048576) :
    Calls Try.prog 111 #[v] w (QW (.int .i64 (leadOf xs)) w) := by
  refine Sl.cases h (fun ad cap hx hv => ?_) (fun b o cap hv _ hpos hc => ?_)
  · subst hx hv
    go_enter Try.func111, Try.ntmps111
    go_wp2
    refine wp_loop_rounds 1 ?_
    rw [rounds_succ]
    go_wp2
    go_ret
    exact ⟨rfl, rfl⟩
  · subst hv
    clear h
    have HC := Lib.hid hc
    clear hc
    go_enter Try.func111, Try.ntmps111
    go_wp2
    go_loop [3] (fun i => ∃ (k : Nat), k ≤ xs.length ∧ i = .int .i64 k ∧ Hid (∀ j (h1 : j < xs.length), j < k → xs[j] = 0)) (fun i => xs.length - (intOf i).toNat)
    case atStart => exact ⟨0, Nat.zero_le _, rfl, Lib.hid (fun _ _ h => absurd h (Nat.not_lt_zero _))⟩
    case round =>
      obtain ⟨k, hk, rfl, HD⟩ := hrel
      by_cases hlt2 : k < xs.length
      · obtain ⟨u, hu, hr⟩ := HC.out k hlt2
        obtain ⟨x, hx⟩ : ∃ x, x = xs[k] := ⟨_, rfl⟩
        rw [hr, ← hx] at hu
        have HX := Lib.hid hx
        clear hx hr
        by_cases hxy : x = 0
        · subst hxy
          go_wp2
          go_round
          case rel => exact ⟨k + 1, by omega, by go_num, Lib.hid (fun j h1 hjk => by
            by_cases e : j = k
            · subst e; exact HX.out.symm
            · exact HD.out j h1 (by omega))⟩
          case measure => simp [intOf]; omega
        · have hq : (x != 0) = true := by simp [hxy]
          have hq2 : (x == 0) = false := by simp [hxy]
          have HXY := Lib.hid hxy
          clear hxy
          go_wp2
          go_ret
          exact ⟨ret_int (leadOf_at hlt2 HD.out (by rw [← HX.out]; exact HXY.out)).symm, rfl⟩
      · go_wp2
        go_ret
        exact ⟨ret_int (leadOf_zero (fun j hj => HD.out j hj (by omega))).symm, rfl⟩
end Go.Proofs.Ytlbalcckjokeiaa
