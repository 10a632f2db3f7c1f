/-
  Plain values as answers: contracts whose answer is the one that a condition tells.
-/
import Derived.Test.YtpdkfidmmjlmnabQb
namespace Go.Proofs.Ytpdkfidmmjlmnab
open Go.RowKit
def VrB (P : Bool → Prop) (w : World) (e : Ending) (w' : World) : Prop := ∃ b, e = .returned (.bool b) ∧ Below w.heap.size w w' ∧ P b
def VrI (P : Int → Prop) (w : World) (e : Ending) (w' : World) : Prop := ∃ b, e = .returned (.int .i64 b) ∧ Below w.heap.size w w' ∧ P b
def VrBC (P : Bool → Int → Prop) (w : World) (e : Ending) (w' : World) : Prop := ∃ b c, e = .returned (.tuple #[.bool b, .int .i64 c]) ∧ Below w.heap.size w w' ∧ P b c
def VrIC (P : Int → Int → Prop) (w : World) (e : Ending) (w' : World) : Prop := ∃ b c, e = .returned (.tuple #[.int .i64 b, .int .i64 c]) ∧ Below w.heap.size w w' ∧ P b c
end Go.Proofs.Ytpdkfidmmjlmnab
