/-
  Bars as one of their kinds: kindOf and its methods, the order of bars, isBar by contract.
-/
import Derived.Test.YtchijefibiaphaaBar
import Derived.Test.YtchijefibiaphaaBrl
import Derived.Sort.Grow
namespace Go.Proofs.Ytchijefibiaphaa
open Go.RowKit Go.Sort

/-- New blocks behind all that was there, and draws. -/
def Gr (w w' : World) : Prop := ∃ q os, w' = grow (w.drewN q) os
theorem Gr.refl (w : World) : Gr w w := ⟨0, #[], by simp [grow, World.drewN]⟩
theorem Gr.trans {a b c : World} (h : Gr a b) (k : Gr b c) : Gr a c := by
  obtain ⟨q, os, rfl⟩ := h
  obtain ⟨q2, os2, rfl⟩ := k
  exact ⟨q + q2, os ++ os2, by simp [grow, World.drewN, Array.append_assoc, Nat.add_assoc]⟩
theorem Gr.alloc (w : World) (o : Obj) : Gr w (w.alloc o) := ⟨0, #[o], by rw [alloc_eq_grow]; simp [World.drewN]⟩
theorem Gr.drew (w : World) : Gr w w.drew := ⟨1, #[], by simp only [grow, Array.append_empty]; rfl⟩
theorem Gr.below {w w' : World} (h : Gr w w') : Below w.heap.size w w' := by
  obtain ⟨q, os, rfl⟩ := h
  refine ⟨rfl, rfl, rfl, by simp [grow, World.drewN], fun k hk => ?_⟩
  simp [grow, World.drewN, Array.getElem?_append, hk]
def GrR (v : Value) (w : World) (e : Ending) (w' : World) : Prop := e = .returned v ∧ Gr w w'

/-- A bar as one of its kind. -/
def kv (x : B3) : Value := if x.2.2 = -1 then .iface 128 (bvl x) else .iface 129 (bvl x)
theorem kv_lasts {x : B3} (h : x.2.2 = -1) : kv x = .iface 128 (bvl x) := if_pos h
theorem kv_ends {x : B3} (h : ¬ x.2.2 = -1) : kv x = .iface 129 (bvl x) := if_neg h

set_option maxHeartbeats 400000 in
theorem kindOf_any (x : B3) (w : World) : Calls Try.prog 79 #[bvl x] w (GrR (kv x) w) := by
  obtain ⟨a, b, d⟩ := x
  by_cases h : d = -1
  · rw [kv_lasts h]
    unfold bvl
    dsimp only
    have h1 : (d == -1) = true := by simp [h]
    clear h
    go_enter Try.func79, Try.ntmps79
    go_wp2
    go_ret
    exact ⟨rfl, Gr.alloc _ _⟩
  · rw [kv_ends h]
    unfold bvl
    dsimp only
    have h1 : (d == -1) = false := by simp [h]
    clear h
    go_enter Try.func79, Try.ntmps79
    go_wp2
    go_ret
    exact ⟨rfl, Gr.alloc _ _⟩

set_option maxHeartbeats 400000 in
theorem deathOrderL_any (x : B3) (w : World) : Calls Try.prog 202 #[bvl x] w (GrR (.int .i64 6) w) := by
  obtain ⟨a, b, d⟩ := x
  unfold bvl
  dsimp only
  go_enter Try.func202, Try.ntmps202
  go_wp2
  go_ret
  exact ⟨rfl, Gr.alloc _ _⟩
set_option maxHeartbeats 400000 in
theorem deathOrderE_any (x : B3) (w : World) : Calls Try.prog 208 #[bvl x] w (GrR (.int .i64 x.2.2) w) := by
  obtain ⟨a, b, d⟩ := x
  unfold bvl
  dsimp only
  go_enter Try.func208, Try.ntmps208
  go_wp2
  go_ret
  exact ⟨rfl, Gr.alloc _ _⟩
set_option maxHeartbeats 400000 in
theorem lengthL_any (x : B3) (w : World) : Calls Try.prog 206 #[bvl x] w (GrR (.tuple #[.int .i64 0, .bool false]) w) := by
  obtain ⟨a, b, d⟩ := x
  unfold bvl
  dsimp only
  go_enter Try.func206, Try.ntmps206
  go_wp2
  go_ret2
  exact ⟨rfl, Gr.alloc _ _⟩
set_option maxHeartbeats 400000 in
theorem lengthE_any (x : B3) (w : World) (h : -100 ≤ x.2.2 ∧ x.2.2 ≤ 100) (h2 : -100 ≤ x.2.1 ∧ x.2.1 ≤ 100) : Calls Try.prog 212 #[bvl x] w (GrR (.tuple #[.int .i64 (x.2.2 - x.2.1), .bool true]) w) := by
  obtain ⟨a, b, d⟩ := x
  dsimp only at h h2
  have hw : IntKind.i64.wrap (d - b) = d - b := IntWalk.i64_in _ (by omega)
  unfold bvl
  dsimp only
  go_enter Try.func212, Try.ntmps212
  go_wp2
  go_ret2
  exact ⟨rfl, Gr.alloc _ _⟩

set_option maxHeartbeats 400000 in
theorem nan_any (x : Int) (w : World) : Calls Try.prog 140 #[.int .i64 x] w (QW (.bool false) w) := by
  have h : (x != x) = false := by simp
  go_enter Try.func140, Try.ntmps140
  go_wp2
  go_ret
  exact ⟨rfl, rfl⟩
/-- cmp.Compare of two numbers. -/
def cmpZ (a b : Int) : Int := if a < b then -1 else if b < a then 1 else 0
set_option maxHeartbeats 800000 in
theorem compare_any (a b : Int) (w : World) : Calls Try.prog 111 #[.int .i64 a, .int .i64 b] w (QW (.int .i64 (cmpZ a b)) w) := by
  obtain ⟨r, hr⟩ : ∃ r, r = cmpZ a b := ⟨_, rfl⟩
  rw [← hr]
  unfold cmpZ at hr
  by_cases h1 : a < b
  · rw [if_pos h1] at hr
    subst hr
    go_enter Try.func111, Try.ntmps111
    go_wp2_with (go_at_call 140; refine (nan_any _ _).mono ?_; rintro e w' ⟨rfl, rfl⟩)
    go_ret
    exact ⟨rfl, rfl⟩
  · rw [if_neg h1] at hr
    by_cases h2 : b < a
    · rw [if_pos h2] at hr
      subst hr
      go_enter Try.func111, Try.ntmps111
      go_wp2_with (go_at_call 140; refine (nan_any _ _).mono ?_; rintro e w' ⟨rfl, rfl⟩)
      go_ret
      exact ⟨rfl, rfl⟩
    · rw [if_neg h2] at hr
      subst hr
      go_enter Try.func111, Try.ntmps111
      go_wp2_with (go_at_call 140; refine (nan_any _ _).mono ?_; rintro e w' ⟨rfl, rfl⟩)
      go_ret
      exact ⟨rfl, rfl⟩
/-- cmp.Or of three numbers. -/
def or3 (a b c : Int) : Int := if a = 0 then (if b = 0 then c else b) else a
set_option maxHeartbeats 1600000 in
theorem or3_any (a b c : Int) (g : Nat) (w : World) (c0 : w.cell? ⟨g, 0, none⟩ = some (.int .i64 a)) (c1 : w.cell? ⟨g, 1, none⟩ = some (.int .i64 b)) (c2 : w.cell? ⟨g, 2, none⟩ = some (.int .i64 c)) :
    Calls Try.prog 110 #[.slice (some ⟨g, 0, none⟩) 3 3] w (QW (.int .i64 (or3 a b c)) w) := by
  obtain ⟨r, hr⟩ : ∃ r, r = or3 a b c := ⟨_, rfl⟩
  rw [← hr]
  unfold or3 at hr
  by_cases h1 : a = 0
  · rw [if_pos h1] at hr
    have h1n : (a != 0) = false := by simp [h1]
    by_cases h2 : b = 0
    · rw [if_pos h2] at hr
      have h2n : (b != 0) = false := by simp [h2]
      subst hr
      by_cases h3 : r = 0
      · subst h3
        have h3n : ((0 : Int) != 0) = false := rfl
        clear h1 h2
        go_enter Try.func110, Try.ntmps110
        go_wp2
        refine wp_loop_rounds 4 ?_
        rw [rounds_succ]
        go_wp2
        rw [rounds_succ]
        go_wp2
        rw [rounds_succ]
        go_wp2
        rw [rounds_succ]
        go_wp2
        go_ret
        exact ⟨rfl, rfl⟩
      · have h3n : (r != 0) = true := by simp [h3]
        clear h1 h2 h3
        go_enter Try.func110, Try.ntmps110
        go_wp2
        refine wp_loop_rounds 4 ?_
        rw [rounds_succ]
        go_wp2
        rw [rounds_succ]
        go_wp2
        rw [rounds_succ]
        go_wp2
        go_ret
        exact ⟨rfl, rfl⟩
    · rw [if_neg h2] at hr
      have h2n : (b != 0) = true := by simp [h2]
      subst hr
      clear h1 h2
      go_enter Try.func110, Try.ntmps110
      go_wp2
      refine wp_loop_rounds 4 ?_
      rw [rounds_succ]
      go_wp2
      rw [rounds_succ]
      go_wp2
      go_ret
      exact ⟨rfl, rfl⟩
  · rw [if_neg h1] at hr
    have h1n : (a != 0) = true := by simp [h1]
    subst hr
    clear h1
    go_enter Try.func110, Try.ntmps110
    go_wp2
    refine wp_loop_rounds 4 ?_
    rw [rounds_succ]
    go_wp2
    go_ret
    exact ⟨rfl, rfl⟩
theorem or3_cmp (x y : B3) : or3 (cmpZ x.1 y.1) (cmpZ x.2.1 y.2.1) (cmpZ (bk x) (bk y)) = cmp3 x y := by
  unfold or3 cmpZ cmp3
  repeat' split
  all_goals first | rfl | omega | contradiction
end Go.Proofs.Ytchijefibiaphaa
