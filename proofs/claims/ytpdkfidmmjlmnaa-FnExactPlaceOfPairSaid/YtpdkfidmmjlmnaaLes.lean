/-
  spec.l02Less by its contract.
-/
import Derived.Test.YtpdkfidmmjlmnaaHom
namespace Go.Proofs.Ytpdkfidmmjlmnaa
open Go.RowKit

theorem Gb.put {base g n cap : Nat} {w : World} {xs : List Int} (h : Gb base w (.slice (some ⟨g, 0, none⟩) n cap) xs) {k : Nat} (_hk : k < xs.length) (x : Int) :
    Gb base (w.setCell ⟨g, k, none⟩ (.int .i64 x)) (.slice (some ⟨g, 0, none⟩) n cap) (xs.set k x) ∧ w.frozen? ⟨g, k, none⟩ = false ∧ base ≤ g := by
  obtain ⟨hl, h2⟩ := h
  rcases h2 with ⟨h0, _⟩ | ⟨g', c', cur, hv, hlo, hh, hnc, hcm, hcs, htk⟩
  · cases h0
  · injection hv with e1 e2 e3
    injection e1 with e1
    injection e1 with e1
    subst e1 e2 e3
    refine ⟨⟨by simp, Or.inr ⟨g, cap, cur.setIfInBounds k (.int .i64 x), by simp, hlo, block_setCell' hh _, by simpa using hnc, hcm, by simpa using hcs, ?_⟩⟩, by simp [World.frozen?, hh], hlo⟩
    simp only [List.length_set, Nat.mul_one] at htk ⊢
    rw [Array.toList_setIfInBounds, List.take_set, htk, List.map_set]
theorem Gb.cell {base g n cap : Nat} {w : World} {v : Lin.V} (h : Gb base w (.slice (some ⟨g, 0, none⟩) n cap) (toL n v)) {k : Nat} (hk : k < n) : w.cell? ⟨g, k, none⟩ = some (.int .i64 (v k)) := by
  obtain ⟨b, o, c, hv, hc⟩ := l1_toL h.l1 (show 0 < n by omega)
  injection hv with e1 _ _
  injection e1 with e1
  injection e1 with e1 e2
  subst e1 e2
  have := hc k hk
  rwa [Nat.zero_add] at this
theorem Gb.block {base n cap : Nat} {w : World} {xs : List Int} {ad : Option Addr} (h : Gb base w (.slice ad n cap) xs) (hx : 0 < xs.length) : ∃ g, ad = some ⟨g, 0, none⟩ ∧ base ≤ g := by
  obtain ⟨hl, h2⟩ := h
  rcases h2 with ⟨_, h0⟩ | ⟨g', c', cur, hv, hlo, _⟩
  · omega
  · injection hv with e1 _ _
    exact ⟨g', e1, hlo⟩

/-- A row whose first j numbers have been put anew. -/
def mixV (y r : Lin.V) (j : Nat) : Lin.V := fun i => if i < j then y i else r i
theorem mix_zero (y r : Lin.V) : mixV y r 0 = r := funext fun i => if_neg (Nat.not_lt_zero i)
theorem mix_at (y r : Lin.V) (j : Nat) : mixV y r j j = r j := if_neg (Nat.lt_irrefl j)
theorem mix_set (y r : Lin.V) {n j : Nat} (_hj : j < n) : (toL n (mixV y r j)).set j (y j) = toL n (mixV y r (j + 1)) := by
  refine List.ext_getElem (by simp [toL_length]) fun i h1 h2 => ?_
  rw [List.getElem_set, toL_get, toL_get]
  unfold mixV
  by_cases e : j = i
  · subst e; simp
  · rw [if_neg e]
    by_cases h : i < j
    · rw [if_pos h, if_pos (by omega)]
    · rw [if_neg h, if_neg (by omega)]
theorem mix_done (y r : Lin.V) (n : Nat) : toL n (mixV y r n) = toL n y := by
  refine List.ext_getElem (by simp [toL_length]) fun i h1 h2 => ?_
  rw [toL_get, toL_get]
  exact if_pos (by rw [toL_length] at h1; exact h1)
theorem add_zero {p : Int} {r t : Lin.V} (h : Lin.Md p r) : Lin.add p r (-0) t = r := funext fun i => by
  unfold Lin.add
  rw [Int.neg_zero, Int.zero_mul, Int.add_zero]
  exact Lin.md_mod (h i).1 (h i).2
section
variable {P : Program} {md : Region.Mode} {ops : Array Oper} {n : Nat} {Q : Exit → Act → World → Prop}
theorem lastQ_storeI {on : Oper} {a : Act} {w : World} (hn : ops[n]? = some on) (hg : on.guard = none) (hd : on.dst = none) (x y : Operand) (ho : on.op = .store 2 x y)
    (b o : Nat) (z : Int) (u : Value) (hx : a.eval x = .pointer (some ⟨b, o, none⟩)) (hy : a.eval y = .int .i64 z) (hc : w.cell? ⟨b, o, none⟩ = some u) (hf : w.frozen? ⟨b, o, none⟩ = false)
    (h : Q .normal a (w.setCell ⟨b, o, none⟩ (.int .i64 z))) : lastQ Try.prog ops n Q .normal a w :=
  lastQ_of hn hg (by
    have e : a.put on.dst undef = a := by rw [hd]; rfl
    rw [← e] at h
    unfold Oper.wp execOp
    simp only [ho, hx, hy, Sem.run_bind, Sem.run_pure, hstoreI w z hc hf, Result.andThen_ok]
    exact h)
end

/-- As RestR, the rest told exactly. -/
def RestRE (p : Int) (n : Nat) (R : List Lin.V) (v : Lin.V) (w : World) (e : Ending) (w' : World) : Prop :=
  ∃ (u : Value) (r : Lin.V), e = .returned u ∧ Gb w.heap.size w' u (toL n r) ∧ Below w.heap.size w w' ∧ Lin.RestE p R v R.length r ∧ Lin.Wd n r

end Go.Proofs.Ytpdkfidmmjlmnaa
