/-
  Texts that ProofDcl needs, part 8.
-/
import Derived.Test.YtckkbojankfdfaaDoorZd7
import Derived.Test.YtckkbojankfdfaaDoorCards
import Derived.Test.YtckkbojankfdfaaDoorTie
import Derived.WalkKit
import Derived.ProofKit
import Derived.OpenShut
import Derived.Deep.DeepHandedRow
import Derived.Stop.LaidErr
import Derived.RowKitTokens
namespace Go.Proofs.YtckkbojankfdfaaDoor
open Go.ChangeShapes Go.WideShapes Go.ChangeAt Go.RowKit

theorem dor_g : Tryd.prog.globalNamed "loop.example/g01273/impl.errNotExact" = some 0 := by kernel_rfl
theorem dor_gt : (Tryd.prog.globals[0]?).map (·.type) = some 70 := by kernel_rfl
theorem dor_star : "*" ++ "errors.errorString" = "*errors.errorString" := by decide
theorem dor_row (u : TypeId) (h : Tryd.prog.typeName? 3 u = some "*errors.errorString") : u = 109 :=
  typeName_ptr_named (nm := "errors.errorString") (by rw [dor_star]; kernel_rfl) (by kernel_rfl) (by decide) u (by rw [dor_star]; exact h)
theorem dor_ce : Tryd.prog.cellsOf 127 = 1 := by kernel_rfl
theorem dor_cs : Tryd.prog.cellsOf 9 = 1 := by kernel_rfl
abbrev dorLaid : List (String × DataW Unit) := [("loop.example/g01273/impl.errNotExact", .iface "*errors.errorString" (.ptr (.agg [.lit (.string [97, 32, 99, 111, 117, 112, 108, 101, 32, 105, 115, 32, 110, 111, 116, 32, 101, 120, 97, 99, 116])])))]
theorem dor_open {W : World} (h : laidMet Tryd.prog dorLaid W) : ∃ a : Addr, W.var? Tryd.prog "loop.example/g01273/impl.errNotExact" = some #[.iface 109 (.pointer (some a))] := by
  obtain ⟨a, s, hv, _⟩ := laid_sentinel h dor_g dor_gt Tryd.underlying70 dor_row Tryd.underlying109 Tryd.underlying127 rfl rfl Tryd.underlying9 dor_ce dor_cs
  exact ⟨a, hv⟩
theorem dor_cell {W : World} {x : Value} (h : W.var? Tryd.prog "loop.example/g01273/impl.errNotExact" = some #[x]) : W.cell? ⟨0, 0, none⟩ = some x := by simpa using World.var?_cell dor_g h 0
theorem dor_below {W W' : World} {n : String} {cs : Array Value} (hb : Below W.heap.size W W') (h : W.var? Tryd.prog n = some cs) : W'.var? Tryd.prog n = some cs := by
  unfold World.var? at h ⊢
  cases hg : Tryd.prog.globalNamed n with
  | none => simp [hg] at h
  | some g =>
    simp only [hg, Option.bind_some] at h ⊢
    have hlt : g < W.heap.size := by
      rcases Nat.lt_or_ge g W.heap.size with h' | h'
      · exact h'
      · simp [Array.getElem?_eq_none h'] at h
    rw [hb.block g hlt]
    exact h
theorem dor_vars {H : Type} (enc : TypeId × Value → H) {W : World} {x : Value} (h : W.var? Tryd.prog "loop.example/g01273/impl.errNotExact" = some #[x]) (ix : IsIface x) (sp : Nat → Bool) :
    DataW.TrodVars enc Tryd.prog W sp ["loop.example/g01273/impl.errNotExact"] [tok enc x] [.cell 0 0] :=
  vars_read1 enc dor_g dor_gt Tryd.underlying70 h ix sp

abbrev dorText : ByteArray := { data := #[97, 32, 99, 111, 117, 112, 108, 101, 32, 105, 115, 32, 110, 111, 116, 32, 101, 120, 97, 99, 116] }
noncomputable def dorLow : Nat := (World.holding Tryd.prog default ⟨#[], #[], []⟩).heap.size
noncomputable def dorWorld (os : Os) : World :=
  let w0 := World.holding Tryd.prog os ⟨#[.cells #[.string dorText] 127], #[], []⟩
  { w0 with heap := w0.heap.modify 0 fun
      | .cells _ t frozen => .cells #[.iface 109 (.pointer (some ⟨dorLow, 0, none⟩))] t frozen
      | o => o }
theorem dor_met (os : Os) (args : Array Value) : laidMet Tryd.prog dorLaid ((dorWorld os).forCall (fun _ _ => 0) ⟨#[], args, []⟩).memory :=
  laidMet_of_run (ps := [.cell 0 0, .cell dorLow 0]) 8 (by kernel_rfl) (by kernel_rfl) (by kernel_rfl)
end Go.Proofs.YtckkbojankfdfaaDoor

