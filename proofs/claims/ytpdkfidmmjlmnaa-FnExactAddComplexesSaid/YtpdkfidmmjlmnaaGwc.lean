/-
  A complex that the model gathers, as an answer: it stays through a store of a whole row of another kind.
-/
import Derived.Test.YtpdkfidmmjlmnaaRc
import Derived.Test.YtpdkfidmmjlmnaaSd
import Derived.Test.YtpdkfidmmjlmnaaSrw
namespace Go.Proofs.Ytpdkfidmmjlmnaa
open Go.RowKit
theorem owns_offRowC {w : World} {base n g : Nat} {e t : TypeId} {u : Value} {xs : List Value} {cs : Array Value} {fr : Nat × Nat} (ho : w.ownsRow base e 1 u n xs) (hg : w.heap[g]? = some (.cells cs t fr)) (h : t ≠ e) (x : Array Value) : (w.setRow g x).ownsRow base e 1 u n xs := by
  refine ⟨ho.1, ?_⟩
  rcases ho.2 with h2 | ⟨g2, cap, cur, hu, hb, hh, r⟩
  · exact Or.inl h2
  · refine Or.inr ⟨g2, cap, cur, hu, hb, ?_, r⟩
    rw [setRow_other w g g2 x (fun e2 => by
      subst e2
      rw [hg] at hh
      simp at hh
      exact h hh.2.1)]
    exact hh
theorem Gb.offRowC {base g : Nat} {w : World} {u : Value} {xs : List Int} {t : TypeId} {cs : Array Value} (h : Gb base w u xs) (hg : Rz w g t cs) (ht : t ≠ 2) (x : Array Value) : Gb base (w.setRow g x) u xs := owns_offRowC h hg ht x
theorem Gs.offRowC {base g : Nat} {w : World} {u : Value} {xs : List (List Int)} {t : TypeId} {cs : Array Value} (h : Gs base w u xs) (hg : Rz w g t cs) (ht : t ≠ 2 ∧ t ≠ 22) (x : Array Value) : Gs base (w.setRow g x) u xs := by
  obtain ⟨vs, ho, h1⟩ := h
  exact ⟨vs, owns_offRowC ho hg ht.2 x, fun k a b => owns_offRowC (h1 k a b) hg ht.1 x⟩
theorem Gt.offRowC {base g : Nat} {w : World} {u : Value} {ts : List (List (List Int))} {t : TypeId} {cs : Array Value} (h : Gt base w u ts) (hg : Rz w g t cs) (ht : t ≠ 2 ∧ t ≠ 22 ∧ t ≠ 41) (x : Array Value) : Gt base (w.setRow g x) u ts := by
  obtain ⟨vs, ho, h1⟩ := h
  exact ⟨vs, owns_offRowC ho hg ht.2.2 x, fun k a b => (h1 k a b).offRowC hg ⟨ht.1, ht.2.1⟩ x⟩
/-- A complex as the model's answer. -/
def GwC (base : Nat) (W : World) (u : Value) (o : Co) : Prop := ∃ ad cd am cm, u = .agg #[.int .i64 o.1, .slice ad o.2.1.length cd, .slice am o.2.2.length cm] ∧ Gb base W (.slice ad o.2.1.length cd) o.2.1 ∧ Gt base W (.slice am o.2.2.length cm) o.2.2
theorem GwC.nil (base : Nat) (W : World) : GwC base W (.agg #[.int .i64 0, .slice none 0 0, .slice none 0 0]) (0, [], []) := ⟨none, 0, none, 0, rfl, ⟨rfl, Or.inl ⟨rfl, rfl⟩⟩, ⟨[], ⟨rfl, Or.inl ⟨rfl, rfl⟩⟩, fun _ h => absurd h (Nat.not_lt_zero _)⟩⟩
end Go.Proofs.Ytpdkfidmmjlmnaa
