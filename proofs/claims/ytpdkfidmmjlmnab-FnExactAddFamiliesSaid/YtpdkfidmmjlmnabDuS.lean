/-
  DualComplex of the model, by contracts.
-/
import Derived.Test.YtpdkfidmmjlmnabSd
namespace Go.Proofs.Ytpdkfidmmjlmnab
open Go.RowKit

theorem hloadSS (w : World) {b o : Nat} {x : Value} (h : w.cell? ⟨b, o, none⟩ = some x) : (Instr.loadAt 26 (.pointer (some ⟨b, o, none⟩))).run Try.prog w = .ok x w := by go_simp
theorem hloadSSS (w : World) {b o : Nat} {x : Value} (h : w.cell? ⟨b, o, none⟩ = some x) : (Instr.loadAt 23 (.pointer (some ⟨b, o, none⟩))).run Try.prog w = .ok x w := by go_simp
theorem dualD_take {ds : List Int} {k : Nat} (h : k < ds.length) : (dualD ds).take (k + 1) = (dualD ds).take k ++ [ds.getD (ds.length - 1 - k) 0] := by
  rw [List.take_succ_eq_append_getElem (by rw [dualD_length]; exact h)]
  simp [dualD]
theorem dualM_take {ds : List Int} {ms : List (List (List Int))} {k : Nat} (h : k < ms.length) : (dualM ds ms).take (k + 1) = (dualM ds ms).take k ++ [flipT (ds.getD (ms.length - 1 - k) 0).toNat (ms.getD (ms.length - 1 - k) [])] := by
  rw [List.take_succ_eq_append_getElem (by rw [dualM_length]; exact h)]
  simp only [dualM, List.getElem_map, List.getElem_range]
  rfl
end Go.Proofs.Ytpdkfidmmjlmnab
