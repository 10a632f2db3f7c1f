/-
  What a complex is, in plain words; the small tests of both sides: ranges, primes, rows, tables, by their contracts.
-/
import Derived.Test.YtlbalcckjokeiaaEq
namespace Go.Proofs.Ytlbalcckjokeiaa
open Go.RowKit

def IsP (p : Int) : Prop := p = 2 ∨ p = 3 ∨ p = 5 ∨ p = 7
theorem IsP.lo {p : Int} (h : IsP p) : 2 ≤ p := by unfold IsP at h; omega
theorem IsP.hi {p : Int} (h : IsP p) : p ≤ 7 := by unfold IsP at h; omega
def RowOk (p n : Int) (xs : List Int) : Prop := (xs.length : Int) = n ∧ ∀ x ∈ xs, 0 ≤ x ∧ x ≤ p - 1
def TabOk (p r c : Int) (t : List (List Int)) : Prop := (t.length : Int) = r ∧ ∀ x ∈ t, RowOk p c x

/-- A call that answers a value and turns nothing. -/
def QW (v : Value) (w : World) (e : Ending) (w' : World) : Prop := e = .returned v ∧ w = w'
/-- .. a truth value that says whether P. -/
def BW (P : Prop) (w : World) (e : Ending) (w' : World) : Prop := ∃ b : Bool, e = .returned (.bool b) ∧ w = w' ∧ (b = true ↔ P)
theorem bw_true {P : Prop} {w : World} (h : P) : BW P w (.returned (.bool true)) w := ⟨true, rfl, rfl, by simp [h]⟩
theorem bw_false {P : Prop} {w : World} (h : ¬ P) : BW P w (.returned (.bool false)) w := ⟨false, rfl, rfl, by simp [h]⟩

theorem all_of_lt {α : Type} {xs : List α} {P : α → Prop} (h : ∀ j (hj : j < xs.length), P xs[j]) : ∀ x ∈ xs, P x := fun x hx => by
  obtain ⟨j, hj, rfl⟩ := List.getElem_of_mem hx
  exact h j hj

theorem in_any (n lo hi : Int) (w : World) : Calls Try.prog 92 #[.int .i64 n, .int .i64 lo, .int .i64 hi] w (QW (.bool (decide (lo ≤ n ∧ n ≤ hi))) w) := by
  by_cases h1 : lo ≤ n
  · by_cases h2 : n ≤ hi
    · rw [decide_eq_true ⟨h1, h2⟩]
      go_enter Try.func92, Try.ntmps92
      go_wp2
      go_ret
      exact ⟨rfl, rfl⟩
    · rw [decide_eq_false (fun h => h2 h.2)]
      go_enter Try.func92, Try.ntmps92
      go_wp2
      go_ret
      exact ⟨rfl, rfl⟩
  · rw [decide_eq_false (fun h => h1 h.1)]
    go_enter Try.func92, Try.ntmps92
    go_wp2
    go_ret
    exact ⟨rfl, rfl⟩

theorem spin_any (n lo hi : Int) (w : World) : Calls Try.prog 90 #[.int .i64 n, .int .i64 lo, .int .i64 hi] w (QW (.bool (decide (lo ≤ n ∧ n ≤ hi))) w) := by
  by_cases h1 : lo ≤ n
  · by_cases h2 : n ≤ hi
    · rw [decide_eq_true ⟨h1, h2⟩]
      go_enter Try.func90, Try.ntmps90
      go_wp2
      go_ret
      exact ⟨rfl, rfl⟩
    · rw [decide_eq_false (fun h => h2 h.2)]
      go_enter Try.func90, Try.ntmps90
      go_wp2
      go_ret
      exact ⟨rfl, rfl⟩
  · rw [decide_eq_false (fun h => h1 h.1)]
    go_enter Try.func90, Try.ntmps90
    go_wp2
    go_ret
    exact ⟨rfl, rfl⟩

theorem in_yes {n lo hi : Int} (h : lo ≤ n ∧ n ≤ hi) (w : World) : Calls Try.prog 92 #[.int .i64 n, .int .i64 lo, .int .i64 hi] w (QW (.bool true) w) := by
  have := in_any n lo hi w
  rwa [decide_eq_true h] at this
theorem in_no {n lo hi : Int} (h : ¬ (lo ≤ n ∧ n ≤ hi)) (w : World) : Calls Try.prog 92 #[.int .i64 n, .int .i64 lo, .int .i64 hi] w (QW (.bool false) w) := by
  have := in_any n lo hi w
  rwa [decide_eq_false h] at this
theorem spin_yes {n lo hi : Int} (h : lo ≤ n ∧ n ≤ hi) (w : World) : Calls Try.prog 90 #[.int .i64 n, .int .i64 lo, .int .i64 hi] w (QW (.bool true) w) := by
  have := spin_any n lo hi w
  rwa [decide_eq_true h] at this
theorem spin_no {n lo hi : Int} (h : ¬ (lo ≤ n ∧ n ≤ hi)) (w : World) : Calls Try.prog 90 #[.int .i64 n, .int .i64 lo, .int .i64 hi] w (QW (.bool false) w) := by
  have := spin_any n lo hi w
  rwa [decide_eq_false h] at this

theorem prime_yes {p : Int} (h : IsP p) (w : World) : Calls Try.prog 114 #[.int .i64 p] w (QW (.bool true) w) := by
  rcases h with rfl | rfl | rfl | rfl
  all_goals
    go_enter Try.func114, Try.ntmps114
    go_wp2
    go_ret
    exact ⟨rfl, rfl⟩
theorem prime_no {p : Int} (h : ¬ IsP p) (w : World) : Calls Try.prog 114 #[.int .i64 p] w (QW (.bool false) w) := by
  have h2 : (p == 2) = false := by simp; intro e; exact h (by simp [IsP, e])
  have h3 : (p == 3) = false := by simp; intro e; exact h (by simp [IsP, e])
  have h5 : (p == 5) = false := by simp; intro e; exact h (by simp [IsP, e])
  have h7 : (p == 7) = false := by simp; intro e; exact h (by simp [IsP, e])
  clear h
  go_enter Try.func114, Try.ntmps114
  go_wp2
  go_ret
  exact ⟨rfl, rfl⟩
theorem spprime_yes {p : Int} (h : IsP p) (w : World) : Calls Try.prog 109 #[.int .i64 p] w (QW (.bool true) w) := by
  rcases h with rfl | rfl | rfl | rfl
  all_goals
    go_enter Try.func109, Try.ntmps109
    go_wp2
    go_ret
    exact ⟨rfl, rfl⟩
theorem spprime_no {p : Int} (h : ¬ IsP p) (w : World) : Calls Try.prog 109 #[.int .i64 p] w (QW (.bool false) w) := by
  have h2 : (p == 2) = false := by simp; intro e; exact h (by simp [IsP, e])
  have h3 : (p == 3) = false := by simp; intro e; exact h (by simp [IsP, e])
  have h5 : (p == 5) = false := by simp; intro e; exact h (by simp [IsP, e])
  have h7 : (p == 7) = false := by simp; intro e; exact h (by simp [IsP, e])
  clear h
  go_enter Try.func109, Try.ntmps109
  go_wp2
  go_ret
  exact ⟨rfl, rfl⟩

set_option maxHeartbeats 800000 in
theorem isRow_any (p n : Int) (v : Value) (xs : List Int) (w : World) (hp : IsP p) (h : L1 0 w v xs) (hm : xs.length ≤ 1048576) :
    Calls Try.prog 131 #[.int .i64 p, v, .int .i64 n] w (BW (RowOk p n xs) w) := by
  have hp0 := hp.lo
  have hp1 := hp.hi
  by_cases hl : (xs.length : Int) = n
  · refine Sl.cases h (fun ad cap hx hv => ?_) (fun b o cap hv _ hpos hc => ?_)
    · subst hx hv
      subst hl
      go_enter Try.func131, Try.ntmps131
      go_wp2
      refine wp_loop_rounds 1 ?_
      rw [rounds_succ]
      go_wp2
      go_ret
      exact bw_true ⟨rfl, by simp⟩
    · subst hv
      subst hl
      clear h
      have HC := Lib.hid hc
      clear hc
      go_enter Try.func131, Try.ntmps131
      go_wp2
      go_loop [15] (fun i => ∃ (k : Nat), k ≤ xs.length ∧ i = .int .i64 k ∧ Hid (∀ j (h1 : j < xs.length), j < k → 0 ≤ xs[j] ∧ xs[j] ≤ p - 1)) (fun i => xs.length - (intOf i).toNat)
      case atStart => exact ⟨0, Nat.zero_le _, rfl, Lib.hid (fun _ _ h => absurd h (Nat.not_lt_zero _))⟩
      case round =>
        obtain ⟨k, hk, rfl, HD⟩ := hrel
        by_cases hlt2 : k < xs.length
        · obtain ⟨u, hu, hr⟩ := HC.out k hlt2
          obtain ⟨x, hx⟩ : ∃ x, x = xs[k] := ⟨_, rfl⟩
          rw [hr, ← hx] at hu
          have HX := Lib.hid hx
          clear hx hr
          by_cases hxy : 0 ≤ x ∧ x ≤ p - 1
          · have HXY := Lib.hid hxy
            clear hxy
            go_wp2_with fail
            refine (in_yes HXY.out _).mono ?_
            rintro e w' ⟨rfl, rfl⟩
            go_wp2
            go_round
            case rel => exact ⟨k + 1, by omega, by go_num, Lib.hid (fun j h1 hjk => by
              by_cases e : j = k
              · subst e; rw [← HX.out]; exact HXY.out
              · exact HD.out j h1 (by omega))⟩
            case measure => simp [intOf]; omega
          · have HXY := Lib.hid hxy
            clear hxy
            go_wp2_with fail
            refine (in_no HXY.out _).mono ?_
            rintro e w' ⟨rfl, rfl⟩
            go_wp2
            go_ret
            exact bw_false (fun h => HXY.out (by rw [HX.out]; exact h.2 _ (List.getElem_mem hlt2)))
        · go_wp2
          go_ret
          exact bw_true ⟨rfl, all_of_lt (fun j hj => HD.out j hj (by omega))⟩
  · obtain ⟨ad, cap, rfl⟩ := Sl.shape h
    clear h
    have hq : ((xs.length : Int) != n) = true := by simp [hl]
    have hq2 : ((xs.length : Int) == n) = false := by simp [hl]
    have HL := Lib.hid hl
    clear hl
    go_enter Try.func131, Try.ntmps131
    go_wp2
    go_ret
    exact bw_false (fun h => HL.out h.1)

set_option maxHeartbeats 800000 in
theorem isTable_any (p r c : Int) (v : Value) (xs : List (List Int)) (w : World) (hp : IsP p) (h : L2 0 w v xs) (hm : Bd2 1048576 xs) :
    Calls Try.prog 115 #[.int .i64 p, v, .int .i64 r, .int .i64 c] w (BW (TabOk p r c xs) w) := by
  have hm0 : xs.length ≤ 1048576 := hm.1
  have HM := Lib.hid hm
  have HP := Lib.hid hp
  clear hm hp
  by_cases hl : (xs.length : Int) = r
  · refine Sl.cases h (fun ad cap hx hv => ?_) (fun b o cap hv _ hpos hc => ?_)
    · subst hx hv
      subst hl
      go_enter Try.func115, Try.ntmps115
      go_wp2
      refine wp_loop_rounds 1 ?_
      rw [rounds_succ]
      go_wp2
      go_ret
      exact bw_true ⟨rfl, by simp⟩
    · subst hv
      subst hl
      clear h
      have HC := Lib.hid hc
      clear hc
      go_enter Try.func115, Try.ntmps115
      go_wp2
      go_loop [17] (fun i => ∃ (k : Nat), k ≤ xs.length ∧ i = .int .i64 k ∧ Hid (∀ j (h1 : j < xs.length), j < k → RowOk p c xs[j])) (fun i => xs.length - (intOf i).toNat)
      case atStart => exact ⟨0, Nat.zero_le _, rfl, Lib.hid (fun _ _ h => absurd h (Nat.not_lt_zero _))⟩
      case round =>
        obtain ⟨k, hk, rfl, HD⟩ := hrel
        by_cases hlt2 : k < xs.length
        · obtain ⟨u, hu, hr⟩ := HC.out k hlt2
          have HR := Lib.hid hr
          clear hr
          go_wp2_with fail
          refine (isRow_any p c u xs[k] _ HP.out HR.out (HM.out.2 _ (List.getElem_mem hlt2))).mono ?_
          rintro e w' ⟨bb, rfl, rfl, hbb⟩
          have HBB := Lib.hid hbb
          clear hbb
          cases bb with
          | true =>
            go_wp2
            go_round
            case rel => exact ⟨k + 1, by omega, by go_num, Lib.hid (fun j h1 hjk => by
              by_cases e : j = k
              · subst e; exact HBB.out.1 (by simp)
              · exact HD.out j h1 (by omega))⟩
            case measure => simp [intOf]; omega
          | false =>
            go_wp2
            go_ret
            exact bw_false (fun h => absurd (HBB.out.2 (h.2 _ (List.getElem_mem hlt2))) (by simp))
        · go_wp2
          go_ret
          exact bw_true ⟨rfl, all_of_lt (fun j hj => HD.out j hj (by omega))⟩
  · obtain ⟨ad, cap, rfl⟩ := Sl.shape h
    clear h
    have hq : ((xs.length : Int) != r) = true := by simp [hl]
    have hq2 : ((xs.length : Int) == r) = false := by simp [hl]
    have HL := Lib.hid hl
    clear hl
    go_enter Try.func115, Try.ntmps115
    go_wp2
    go_ret
    exact bw_false (fun h => HL.out h.1)
end Go.Proofs.Ytlbalcckjokeiaa
