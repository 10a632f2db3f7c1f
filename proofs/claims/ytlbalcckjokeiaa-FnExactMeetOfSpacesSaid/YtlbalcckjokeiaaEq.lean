/-
  The comparisons: laws.eqInt64S, eqInt64SS, eqInt64SSS, eqComplex, by their contracts.
-/
import Derived.Test.YtlbalcckjokeiaaTo
import Derived.Deep.QuietTactic
import Derived.BigQuiet
namespace Go.Proofs.Ytlbalcckjokeiaa
open Go.RowKit

/-- A call that only reads: its value, and a world that parts from the first in draws alone. -/
def QR (v : Value) (w : World) (e : Ending) (w' : World) : Prop := e = .returned v ∧ ∃ m, w' = w.drewN m

theorem list_eq_take {α : Type} {xs ys : List α} {k : Nat} (hl : ys.length = xs.length) (hk : k = xs.length) (h : ∀ j (h1 : j < xs.length) (h2 : j < ys.length), j < k → xs[j] = ys[j]) : xs = ys :=
  List.ext_getElem hl.symm fun j h1 h2 => h j h1 h2 (by omega)

set_option maxHeartbeats 800000 in
theorem eq1_any (va vb : Value) (xs ys : List Int) (w : World) (ha : L1 0 w va xs) (hb : L1 0 w vb ys) (hm : xs.length ≤ 1048576) (hn : ys.length ≤ 1048576) :
    Calls Try.prog 36 #[va, vb] w (QR (.bool (decide (xs = ys))) w) := by
  by_cases hl : ys.length = xs.length
  · refine Sl.cases ha (fun ad cap hx hv => ?_) (fun b o cap hv _ hpos hc => ?_)
    · subst hx hv
      obtain ⟨ad2, cap2, hv2⟩ := Sl.shape hb
      rw [hl] at hv2
      obtain rfl : ys = [] := List.eq_nil_of_length_eq_zero hl
      subst hv2
      clear ha hb hl
      go_enter Try.func36, Try.ntmps36
      go_wp2
      refine wp_loop_rounds 1 ?_
      rw [rounds_succ]
      go_wp2
      go_ret
      exact ⟨rfl, 0, rfl⟩
    · refine Sl.cases hb (fun ad cap hx hv => absurd hl (by subst hx; simp; omega)) (fun b2 o2 cap2 hv2 _ hpos2 hc2 => ?_)
      rw [hl] at hv2
      subst hv hv2
      clear ha hb
      have HL := Lib.hid hl
      have HC := Lib.hid hc
      have HC2 := Lib.hid hc2
      clear hl hc hc2
      go_enter Try.func36, Try.ntmps36
      go_wp2
      go_loopw [5] (fun i wr => ∃ (k m : Nat), k ≤ xs.length ∧ i = .int .i64 k ∧ wr = w.drewN m ∧ Hid (∀ j (h1 : j < xs.length) (h2 : j < ys.length), j < k → xs[j] = ys[j])) (fun i _ => xs.length - (intOf i).toNat)
      case atStart => exact ⟨0, 0, Nat.zero_le _, rfl, rfl, Lib.hid (fun _ _ _ h => absurd h (Nat.not_lt_zero _))⟩
      case round =>
        obtain ⟨k, m, hk, rfl, rfl, HD⟩ := hrel
        by_cases hlt2 : k < xs.length
        · have hlt3 : k < ys.length := by have := HL.out; omega
          obtain ⟨u, hu, hr⟩ := HC.out k hlt2
          obtain ⟨u2, hu2, hr2⟩ := HC2.out k hlt3
          obtain ⟨x, hx⟩ : ∃ x, x = xs[k] := ⟨_, rfl⟩
          obtain ⟨y, hy⟩ : ∃ y, y = ys[k] := ⟨_, rfl⟩
          rw [hr, ← hx] at hu
          rw [hr2, ← hy] at hu2
          have HX := Lib.hid hx
          have HY := Lib.hid hy
          clear hx hy hr hr2
          by_cases hxy : x = y
          · have HXY := Lib.hid hxy
            have hq : (x != y) = false := by simp [hxy]
            have hq2 : (x == y) = true := by simp [hxy]
            clear hxy
            go_wp2
            go_quiet (fail)
            go_wp2
            go_roundw
            case rel => exact ⟨k + 1, _, by omega, by go_num, rfl, Lib.hid (fun j h1 h2 hjk => by
              by_cases e : j = k
              · subst e; rw [← HX.out, ← HY.out, HXY.out]
              · exact HD.out j h1 h2 (by omega))⟩
            case measure => simp [intOf]; omega
          · have HXY := Lib.hid hxy
            have hq : (x != y) = true := by simp [hxy]
            have hq2 : (x == y) = false := by simp [hxy]
            clear hxy
            go_wp2
            go_quiet (fail)
            go_wp2
            go_ret
            refine ⟨ret_bool ?_, m + nq, by rw [World.drewN_drewN]⟩
            have hne : ¬ xs = ys := fun e => HXY.out (by rw [HX.out, HY.out]; subst e; rfl)
            simp [hne]
        · go_wp2
          go_ret
          refine ⟨ret_bool ?_, m, rfl⟩
          have := list_eq_take HL.out (by omega) HD.out
          simp [this]
  · obtain ⟨ad, cap, rfl⟩ := Sl.shape ha
    obtain ⟨ad2, cap2, rfl⟩ := Sl.shape hb
    clear ha hb
    have hq : ((xs.length : Int) != (ys.length : Int)) = true := by simp; omega
    have hq2 : ((xs.length : Int) == (ys.length : Int)) = false := by simp; omega
    have HL := Lib.hid hl
    clear hl
    go_enter Try.func36, Try.ntmps36
    go_wp2
    go_ret
    refine ⟨ret_bool ?_, 0, rfl⟩
    have hne : ¬ xs = ys := fun e => HL.out (by rw [e])
    simp [hne]

set_option maxHeartbeats 800000 in
theorem eq2_any (va vb : Value) (xs ys : List (List Int)) (w : World) (ha : L2 0 w va xs) (hb : L2 0 w vb ys) (hm : Bd2 1048576 xs) (hn : Bd2 1048576 ys) :
    Calls Try.prog 19 #[va, vb] w (QR (.bool (decide (xs = ys))) w) := by
  have hm0 : xs.length ≤ 1048576 := hm.1
  have hn0 : ys.length ≤ 1048576 := hn.1
  have HM := Lib.hid hm
  have HN := Lib.hid hn
  clear hm hn
  by_cases hl : ys.length = xs.length
  · refine Sl.cases ha (fun ad cap hx hv => ?_) (fun b o cap hv _ hpos hc => ?_)
    · subst hx hv
      obtain ⟨ad2, cap2, hv2⟩ := Sl.shape hb
      rw [hl] at hv2
      obtain rfl : ys = [] := List.eq_nil_of_length_eq_zero hl
      subst hv2
      clear ha hb hl
      go_enter Try.func19, Try.ntmps19
      go_wp2
      refine wp_loop_rounds 1 ?_
      rw [rounds_succ]
      go_wp2
      go_ret
      exact ⟨rfl, 0, rfl⟩
    · refine Sl.cases hb (fun ad cap hx hv => absurd hl (by subst hx; simp; omega)) (fun b2 o2 cap2 hv2 _ hpos2 hc2 => ?_)
      rw [hl] at hv2
      subst hv hv2
      clear ha hb
      have HL := Lib.hid hl
      have HC := Lib.hid hc
      have HC2 := Lib.hid hc2
      clear hl hc hc2
      go_enter Try.func19, Try.ntmps19
      go_wp2
      go_loopw [5] (fun i wr => ∃ (k m : Nat), k ≤ xs.length ∧ i = .int .i64 k ∧ wr = w.drewN m ∧ Hid (∀ j (h1 : j < xs.length) (h2 : j < ys.length), j < k → xs[j] = ys[j])) (fun i _ => xs.length - (intOf i).toNat)
      case atStart => exact ⟨0, 0, Nat.zero_le _, rfl, rfl, Lib.hid (fun _ _ _ h => absurd h (Nat.not_lt_zero _))⟩
      case round =>
        obtain ⟨k, m, hk, rfl, hw, HD⟩ := hrel
        have HW := Lib.hid hw
        clear hw
        by_cases hlt2 : k < xs.length
        · have hlt3 : k < ys.length := by have := HL.out; omega
          obtain ⟨u, hu, hr⟩ := HC.out k hlt2
          obtain ⟨u2, hu2, hr2⟩ := HC2.out k hlt3
          have hu' : wr.cell? ⟨b, o + k, none⟩ = some u := by rw [HW.out]; exact hu
          have hu2' : wr.cell? ⟨b2, o2 + k, none⟩ = some u2 := by rw [HW.out]; exact hu2
          have HE := Lib.hid (fun (m2 : Nat) => eq1_any u u2 xs[k] ys[k] (wr.drewN m2) (by rw [HW.out]; exact (hr.below (drewN_below w m)).below (drewN_below _ m2)) (by rw [HW.out]; exact (hr2.below (drewN_below w m)).below (drewN_below _ m2)) (HM.out.2 _ (List.getElem_mem hlt2)) (HN.out.2 _ (List.getElem_mem hlt3)))
          clear hr hr2 hu hu2
          by_cases hxy : xs[k] = ys[k]
          · have HXY := Lib.hid hxy
            have HE' : Hid (∀ m2 : Nat, Calls Try.prog 36 #[u, u2] (wr.drewN m2) (QR (.bool true) (wr.drewN m2))) := Lib.hid (fun m2 => by have := HE.out m2; rwa [decide_eq_true hxy] at this)
            clear hxy HE
            go_wp2
            go_quiet ((go_at_call 36; exact Calls.quiet_of (HE'.out _)))
            go_wp2
            go_roundw
            case rel => exact ⟨k + 1, m + nq, by omega, by go_num, by rw [HW.out, World.drewN_drewN], Lib.hid (fun j h1 h2 hjk => by
              by_cases e : j = k
              · subst e; exact HXY.out
              · exact HD.out j h1 h2 (by omega))⟩
            case measure => simp [intOf]; omega
          · have HXY := Lib.hid hxy
            have HE' : Hid (∀ m2 : Nat, Calls Try.prog 36 #[u, u2] (wr.drewN m2) (QR (.bool false) (wr.drewN m2))) := Lib.hid (fun m2 => by have := HE.out m2; rwa [decide_eq_false hxy] at this)
            clear hxy HE
            go_wp2
            go_quiet ((go_at_call 36; exact Calls.quiet_of (HE'.out _)))
            go_wp2
            go_ret
            refine ⟨ret_bool ?_, m + nq, by rw [HW.out, World.drewN_drewN]⟩
            have hne : ¬ xs = ys := fun e => HXY.out (by subst e; rfl)
            simp [hne]
        · go_wp2
          go_ret
          refine ⟨ret_bool ?_, m, HW.out⟩
          have := list_eq_take HL.out (by omega) HD.out
          simp [this]
  · obtain ⟨ad, cap, rfl⟩ := Sl.shape ha
    obtain ⟨ad2, cap2, rfl⟩ := Sl.shape hb
    clear ha hb
    have hq : ((xs.length : Int) != (ys.length : Int)) = true := by simp; omega
    have hq2 : ((xs.length : Int) == (ys.length : Int)) = false := by simp; omega
    have HL := Lib.hid hl
    clear hl
    go_enter Try.func19, Try.ntmps19
    go_wp2
    go_ret
    refine ⟨ret_bool ?_, 0, rfl⟩
    have hne : ¬ xs = ys := fun e => HL.out (by rw [e])
    simp [hne]

set_option maxHeartbeats 800000 in
theorem eq3_any (va vb : Value) (xs ys : List (List (List Int))) (w : World) (ha : L3 0 w va xs) (hb : L3 0 w vb ys) (hm : Bd3 1048576 xs) (hn : Bd3 1048576 ys) :
    Calls Try.prog 75 #[va, vb] w (QR (.bool (decide (xs = ys))) w) := by
  have hm0 : xs.length ≤ 1048576 := hm.1
  have hn0 : ys.length ≤ 1048576 := hn.1
  have HM := Lib.hid hm
  have HN := Lib.hid hn
  clear hm hn
  by_cases hl : ys.length = xs.length
  · refine Sl.cases ha (fun ad cap hx hv => ?_) (fun b o cap hv _ hpos hc => ?_)
    · subst hx hv
      obtain ⟨ad2, cap2, hv2⟩ := Sl.shape hb
      rw [hl] at hv2
      obtain rfl : ys = [] := List.eq_nil_of_length_eq_zero hl
      subst hv2
      clear ha hb hl
      go_enter Try.func75, Try.ntmps75
      go_wp2
      refine wp_loop_rounds 1 ?_
      rw [rounds_succ]
      go_wp2
      go_ret
      exact ⟨rfl, 0, rfl⟩
    · refine Sl.cases hb (fun ad cap hx hv => absurd hl (by subst hx; simp; omega)) (fun b2 o2 cap2 hv2 _ hpos2 hc2 => ?_)
      rw [hl] at hv2
      subst hv hv2
      clear ha hb
      have HL := Lib.hid hl
      have HC := Lib.hid hc
      have HC2 := Lib.hid hc2
      clear hl hc hc2
      go_enter Try.func75, Try.ntmps75
      go_wp2
      go_loopw [5] (fun i wr => ∃ (k m : Nat), k ≤ xs.length ∧ i = .int .i64 k ∧ wr = w.drewN m ∧ Hid (∀ j (h1 : j < xs.length) (h2 : j < ys.length), j < k → xs[j] = ys[j])) (fun i _ => xs.length - (intOf i).toNat)
      case atStart => exact ⟨0, 0, Nat.zero_le _, rfl, rfl, Lib.hid (fun _ _ _ h => absurd h (Nat.not_lt_zero _))⟩
      case round =>
        obtain ⟨k, m, hk, rfl, hw, HD⟩ := hrel
        have HW := Lib.hid hw
        clear hw
        by_cases hlt2 : k < xs.length
        · have hlt3 : k < ys.length := by have := HL.out; omega
          obtain ⟨u, hu, hr⟩ := HC.out k hlt2
          obtain ⟨u2, hu2, hr2⟩ := HC2.out k hlt3
          have hu' : wr.cell? ⟨b, o + k, none⟩ = some u := by rw [HW.out]; exact hu
          have hu2' : wr.cell? ⟨b2, o2 + k, none⟩ = some u2 := by rw [HW.out]; exact hu2
          have HE := Lib.hid (fun (m2 : Nat) => eq2_any u u2 xs[k] ys[k] (wr.drewN m2) (by rw [HW.out]; exact (hr.below (drewN_below w m)).below (drewN_below _ m2)) (by rw [HW.out]; exact (hr2.below (drewN_below w m)).below (drewN_below _ m2)) (HM.out.2 _ (List.getElem_mem hlt2)) (HN.out.2 _ (List.getElem_mem hlt3)))
          clear hr hr2 hu hu2
          by_cases hxy : xs[k] = ys[k]
          · have HXY := Lib.hid hxy
            have HE' : Hid (∀ m2 : Nat, Calls Try.prog 19 #[u, u2] (wr.drewN m2) (QR (.bool true) (wr.drewN m2))) := Lib.hid (fun m2 => by have := HE.out m2; rwa [decide_eq_true hxy] at this)
            clear hxy HE
            go_wp2
            go_quiet ((go_at_call 19; exact Calls.quiet_of (HE'.out _)))
            go_wp2
            go_roundw
            case rel => exact ⟨k + 1, m + nq, by omega, by go_num, by rw [HW.out, World.drewN_drewN], Lib.hid (fun j h1 h2 hjk => by
              by_cases e : j = k
              · subst e; exact HXY.out
              · exact HD.out j h1 h2 (by omega))⟩
            case measure => simp [intOf]; omega
          · have HXY := Lib.hid hxy
            have HE' : Hid (∀ m2 : Nat, Calls Try.prog 19 #[u, u2] (wr.drewN m2) (QR (.bool false) (wr.drewN m2))) := Lib.hid (fun m2 => by have := HE.out m2; rwa [decide_eq_false hxy] at this)
            clear hxy HE
            go_wp2
            go_quiet ((go_at_call 19; exact Calls.quiet_of (HE'.out _)))
            go_wp2
            go_ret
            refine ⟨ret_bool ?_, m + nq, by rw [HW.out, World.drewN_drewN]⟩
            have hne : ¬ xs = ys := fun e => HXY.out (by subst e; rfl)
            simp [hne]
        · go_wp2
          go_ret
          refine ⟨ret_bool ?_, m, HW.out⟩
          have := list_eq_take HL.out (by omega) HD.out
          simp [this]
  · obtain ⟨ad, cap, rfl⟩ := Sl.shape ha
    obtain ⟨ad2, cap2, rfl⟩ := Sl.shape hb
    clear ha hb
    have hq : ((xs.length : Int) != (ys.length : Int)) = true := by simp; omega
    have hq2 : ((xs.length : Int) == (ys.length : Int)) = false := by simp; omega
    have HL := Lib.hid hl
    clear hl
    go_enter Try.func75, Try.ntmps75
    go_wp2
    go_ret
    refine ⟨ret_bool ?_, 0, rfl⟩
    have hne : ¬ xs = ys := fun e => HL.out (by rw [e])
    simp [hne]

/-- A call that answers a value and leaves what was there. -/
def BR (v : Value) (w : World) (e : Ending) (w' : World) : Prop := e = .returned v ∧ Below w.heap.size w w'

set_option maxHeartbeats 800000 in
/-- Two complexes that read alike are equal (all that the laws need of the comparison, in the case of success). -/
theorem eqComplex_true (p : Int) (dv mv dv2 mv2 : Value) (ds : List Int) (ms : List (List (List Int))) (w : World) (h : Cx 0 w dv mv ds ms) (h2 : Cx 0 w dv2 mv2 ds ms) (hd : ds.length ≤ 1048576) (hm : Bd3 1048576 ms) :
    Calls Try.prog 30 #[.agg #[.int .i64 p, dv, mv], .agg #[.int .i64 p, dv2, mv2]] w (BR (.bool true) w) := by
  have HM := Lib.hid hm
  have H := Lib.hid h
  have H2 := Lib.hid h2
  clear hm h h2
  go_enter Try.func30, Try.ntmps30
  go_wp2_with fail
  have hb0 : Below w.heap.size w ((w.alloc (.cells #[.int .i64 p, dv, mv] 37)).alloc (.cells #[.int .i64 p, dv2, mv2] 37)) :=
    ((Below.refl _ _).alloc (Nat.le_refl _) _).alloc (by simp) _
  have HB0 := Lib.hid hb0
  clear hb0
  have h1 := eq1_any dv dv2 ds ds _ (H.out.dims.below HB0.out) (H2.out.dims.below HB0.out) hd hd
  rw [decide_eq_true rfl] at h1
  refine h1.mono ?_
  clear h1
  rintro e w' ⟨rfl, m, rfl⟩
  go_wp2_with fail
  have h1 := eq3_any mv mv2 ms ms _ ((H.out.maps.below HB0.out).below (drewN_below _ m)) ((H2.out.maps.below HB0.out).below (drewN_below _ m)) HM.out HM.out
  rw [decide_eq_true rfl] at h1
  refine h1.mono ?_
  clear h1
  rintro e w' ⟨rfl, m2, rfl⟩
  go_wp2
  go_ret
  exact ⟨rfl, HB0.out.trans ((drewN_below _ (m + m2)).mono HB0.out.size)⟩
end Go.Proofs.Ytlbalcckjokeiaa
