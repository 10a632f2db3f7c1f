/-
  BottomOf and PageNumber of both sides by their contracts.
-/
import Derived.Test.YtchijefibiaphaaBos
namespace Go.Proofs.Ytchijefibiaphaa
open Go.RowKit

/-- The number of a page. -/
def PgNum (p : Int) (ds : List Int) (ms : List (List (List Int))) (ls : List (List Int)) (k : Nat) (r q x : Int) : Prop :=
  ∃ Z B, SpF p (dimN ds (k : Int)) (ZcD p ds ms ls k q (q - r)) Z ∧ SpF p (dimN ds (k : Int)) (BotS p ds ms ls k r q) B ∧ x = (Z.length : Int) - (B.length : Int)
theorem PgNum.unique {p : Int} {ds : List Int} {ms : List (List (List Int))} {ls : List (List Int)} {k : Nat} {r q x y : Int} (hp : 1 < p) (h : PgNum p ds ms ls k r q x) (h' : PgNum p ds ms ls k r q y) : x = y := by
  obtain ⟨A, B, a, b, rfl⟩ := h
  obtain ⟨C, D, c, d, rfl⟩ := h'
  rw [a.unique' hp c, b.unique' hp d]

end Go.Proofs.Ytchijefibiaphaa
