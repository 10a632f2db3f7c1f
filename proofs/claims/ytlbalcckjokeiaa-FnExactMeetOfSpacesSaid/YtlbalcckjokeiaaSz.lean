/-
  The bounds on sizes: laws.szInt64S, szInt64SS, szInt64SSS, szComplex, by their contracts.
-/
import Derived.Test.YtlbalcckjokeiaaMem
import Derived.Test.YtlbalcckjokeiaaChecked
import Derived.Outline
namespace Go.Proofs.Ytlbalcckjokeiaa
open Go.RowKit

set_option maxHeartbeats 400000 in
theorem sz1_any {lo : Nat} (v : Value) (xs : List Int) (left : Int) (w : World) (h : L1 lo w v xs) (h0 : 0 ≤ left) (h1 : left ≤ 1048576) (hm : xs.length ≤ 9223372036854775807) :
    Calls Try.prog 57 #[v, .int .i64 left] w (SzR left (Bd1 1048576 xs) w) := by
  obtain ⟨ad, cap, rfl⟩ := Sl.shape h
  by_cases hlt : left - xs.length < 0
  · go_enter Try.func57, Try.ntmps57
    go_wp2
    go_ret
    exact ⟨_, rfl, rfl, Or.inl rfl⟩
  · go_enter Try.func57, Try.ntmps57
    go_wp2
    go_ret
    exact ⟨_, rfl, rfl, Or.inr ⟨by omega, by omega, by unfold Bd1; omega⟩⟩

set_option maxHeartbeats 400000 in
theorem sz2_any {lo : Nat} (v : Value) (xs : List (List Int)) (left : Int) (w : World) (h : L2 lo w v xs) (h0 : 0 ≤ left) (h1 : left ≤ 1048576) (hm : Bd2 9223372036854775807 xs) :
    Calls Try.prog 15 #[v, .int .i64 left] w (SzR left (Bd2 1048576 xs) w) := by
  have hm0 : xs.length ≤ 9223372036854775807 := hm.1
  refine Sl.cases h (fun ad cap hx hv => ?_) (fun b o cap hv _ hpos hc => ?_)
  · subst hx hv
    go_enter Try.func15, Try.ntmps15
    go_wp2
    refine wp_loop_rounds 1 ?_
    rw [rounds_succ]
    go_wp2
    go_ret
    exact ⟨_, rfl, rfl, Or.inr ⟨by omega, by omega, by simp [Bd2]⟩⟩
  · subst hv
    clear h
    by_cases hlt : left - xs.length < 0
    · go_enter Try.func15, Try.ntmps15
      go_wp2
      go_ret
      exact ⟨_, rfl, rfl, Or.inl rfl⟩
    · have HM := Lib.hid hm
      have HC := Lib.hid hc
      clear hm hc
      go_enter Try.func15, Try.ntmps15
      go_wp2
      go_loop [1, 5] (fun l i => ∃ (k : Nat) (r : Int), k ≤ xs.length ∧ i = .int .i64 k ∧ l = .int .i64 r ∧ 0 ≤ r ∧ r ≤ left ∧ Hid (∀ j (hj : j < xs.length), j < k → Bd1 1048576 xs[j])) (fun _ i => xs.length - (intOf i).toNat)
      case atStart => exact ⟨0, _, Nat.zero_le _, rfl, rfl, by omega, by omega, Lib.hid (fun _ _ h => absurd h (Nat.not_lt_zero _))⟩
      case round =>
        obtain ⟨k, r, hk, rfl, rfl, hr0, hr1, HD⟩ := hrel
        by_cases hlt2 : k < xs.length
        · obtain ⟨u, hu, hr⟩ := HC.out k hlt2
          have hmu : (xs[k]).length ≤ 9223372036854775807 := HM.out.2 _ (List.getElem_mem hlt2)
          go_wp2_with fail
          refine (sz1_any u xs[k] r _ hr hr0 (by omega) hmu).mono ?_
          rintro e w' ⟨r2, rfl, rfl, hpost⟩
          rcases hpost with rfl | ⟨hp0, hp1, hp2⟩
          · go_wp2
            go_ret
            exact ⟨_, rfl, rfl, Or.inl rfl⟩
          · go_wp2
            go_round
            case rel => exact ⟨k + 1, r2, by omega, by go_num, rfl, hp0, by omega, Lib.hid (fun j hj hjk => by
              by_cases e : j = k
              · subst e; exact hp2
              · exact HD.out j hj (by omega))⟩
            case measure => simp [intOf]; omega
        · go_wp2
          go_ret
          exact ⟨_, rfl, rfl, Or.inr ⟨hr0, hr1, by omega, fun x hx => by
            obtain ⟨j, hj, rfl⟩ := List.getElem_of_mem hx
            exact HD.out j hj (by omega)⟩⟩
set_option maxHeartbeats 400000 in
theorem sz3_any {lo : Nat} (v : Value) (xs : List (List (List Int))) (left : Int) (w : World) (h : L3 lo w v xs) (h0 : 0 ≤ left) (h1 : left ≤ 1048576) (hm : Bd3 9223372036854775807 xs) :
    Calls Try.prog 69 #[v, .int .i64 left] w (SzR left (Bd3 1048576 xs) w) := by
  have hm0 : xs.length ≤ 9223372036854775807 := hm.1
  refine Sl.cases h (fun ad cap hx hv => ?_) (fun b o cap hv _ hpos hc => ?_)
  · subst hx hv
    go_enter Try.func69, Try.ntmps69
    go_wp2
    refine wp_loop_rounds 1 ?_
    rw [rounds_succ]
    go_wp2
    go_ret
    exact ⟨_, rfl, rfl, Or.inr ⟨by omega, by omega, by simp [Bd3]⟩⟩
  · subst hv
    clear h
    by_cases hlt : left - xs.length < 0
    · go_enter Try.func69, Try.ntmps69
      go_wp2
      go_ret
      exact ⟨_, rfl, rfl, Or.inl rfl⟩
    · have HM := Lib.hid hm
      have HC := Lib.hid hc
      clear hm hc
      go_enter Try.func69, Try.ntmps69
      go_wp2
      go_loop [1, 5] (fun l i => ∃ (k : Nat) (r : Int), k ≤ xs.length ∧ i = .int .i64 k ∧ l = .int .i64 r ∧ 0 ≤ r ∧ r ≤ left ∧ Hid (∀ j (hj : j < xs.length), j < k → Bd2 1048576 xs[j])) (fun _ i => xs.length - (intOf i).toNat)
      case atStart => exact ⟨0, _, Nat.zero_le _, rfl, rfl, by omega, by omega, Lib.hid (fun _ _ h => absurd h (Nat.not_lt_zero _))⟩
      case round =>
        obtain ⟨k, r, hk, rfl, rfl, hr0, hr1, HD⟩ := hrel
        by_cases hlt2 : k < xs.length
        · obtain ⟨u, hu, hr⟩ := HC.out k hlt2
          have hmu : Bd2 9223372036854775807 xs[k] := HM.out.2 _ (List.getElem_mem hlt2)
          go_wp2_with fail
          refine (sz2_any u xs[k] r _ hr hr0 (by omega) hmu).mono ?_
          rintro e w' ⟨r2, rfl, rfl, hpost⟩
          rcases hpost with rfl | ⟨hp0, hp1, hp2⟩
          · go_wp2
            go_ret
            exact ⟨_, rfl, rfl, Or.inl rfl⟩
          · go_wp2
            go_round
            case rel => exact ⟨k + 1, r2, by omega, by go_num, rfl, hp0, by omega, Lib.hid (fun j hj hjk => by
              by_cases e : j = k
              · subst e; exact hp2
              · exact HD.out j hj (by omega))⟩
            case measure => simp [intOf]; omega
        · go_wp2
          go_ret
          exact ⟨_, rfl, rfl, Or.inr ⟨hr0, hr1, by omega, fun x hx => by
            obtain ⟨j, hj, rfl⟩ := List.getElem_of_mem hx
            exact HD.out j hj (by omega)⟩⟩

theorem L1.kept {lo : Nat} {w w' : World} {v : Value} {xs : List Int} (h : L1 lo w v xs) (hb : Below w.heap.size w w') : L1 lo w' v xs := h.below hb

set_option maxHeartbeats 400000 in
theorem szComplex_any (p : Int) (dv mv : Value) (ds : List Int) (ms : List (List (List Int))) (left : Int) (w : World) (hd : L1 0 w dv ds) (hm : L3 0 w mv ms) (h0 : 0 ≤ left) (h1 : left ≤ 1048576)
    (hdl : ds.length ≤ 9223372036854775807) (hml : Bd3 9223372036854775807 ms) :
    Calls Try.prog 26 #[.agg #[.int .i64 p, dv, mv], .int .i64 left] w (SzB left (Bd1 1048576 ds ∧ Bd3 1048576 ms) w) := by
  have HML := Lib.hid hml
  have HD := Lib.hid hd
  have HM := Lib.hid hm
  clear hml hd hm
  go_enter Try.func26, Try.ntmps26
  go_wp2_with fail
  have hb1 : Below w.heap.size w (w.alloc (.cells #[.int .i64 p, dv, mv] 34)) := (Below.refl _ _).alloc (Nat.le_refl _) _
  refine (sz1_any (lo := 0) dv ds left _ (HD.out.below hb1) h0 h1 hdl).mono ?_
  rintro e w' ⟨r, rfl, rfl, hpost⟩
  rcases hpost with rfl | ⟨hp0, hp1, hp2⟩
  · go_wp2
    go_ret
    exact ⟨_, rfl, hb1, Or.inl rfl⟩
  · go_wp2_with fail
    refine (sz3_any (lo := 0) mv ms r _ (HM.out.below hb1) hp0 (by omega) HML.out).mono ?_
    rintro e w' ⟨r2, rfl, rfl, hpost⟩
    rcases hpost with rfl | ⟨hq0, hq1, hq2⟩
    · go_wp2
      go_ret
      exact ⟨_, rfl, hb1, Or.inl rfl⟩
    · go_wp2
      go_ret
      exact ⟨_, rfl, hb1, Or.inr ⟨hq0, by omega, hp2, hq2⟩⟩
end Go.Proofs.Ytlbalcckjokeiaa
