/-
  Loads and sums as the run of a drawn region tells them.
-/
import Derived.Test.YtpdkfidmmjlmnabEnd
import Derived.Test.YtpdkfidmmjlmnabSd
import Derived.Test.YtpdkfidmmjlmnabStx
namespace Go.Proofs.Ytpdkfidmmjlmnab
open Go.RowKit
theorem hload3 (w : World) {b : Nat} {x y z : Value} (c0 : w.cell? ⟨b, 0, none⟩ = some x) (c1 : w.cell? ⟨b, 1, none⟩ = some y) (c2 : w.cell? ⟨b, 2, none⟩ = some z) : (Instr.loadAt 31 (.pointer (some ⟨b, 0, none⟩))).run Try.prog w = .ok (.agg #[x, y, z]) w := by go_simp
theorem hload3x {w0 w : World} {b : Nat} {p : Int} {dv mv : Value} {ds : List Int} {ms : List (List (List Int))} (h : Bx w0 w b p dv mv ds ms) : (Instr.loadAt 31 (.pointer (some ⟨b, 0, none⟩))).run Try.prog w = .ok (.agg #[.int .i64 p, dv, mv]) w := hload3 w h.c0 h.c1 h.c2
theorem haddA {a b s : Int} (h : IntKind.i64.wrap (a + b) = s) (w : World) : (binOp .add 2 (.int .i64 a) (.int .i64 b)).run Try.prog w = .ok (.int .i64 s) w := by go_simp
theorem hloadD (w : World) {b o : Nat} {x : Value} (h : w.cell? ⟨b, o, none⟩ = some x) : (Instr.loadAt 22 (.pointer (some ⟨b, o, none⟩))).run Try.prog w = .ok x w := by go_simp
theorem hloadM (w : World) {b o : Nat} {x : Value} (h : w.cell? ⟨b, o, none⟩ = some x) : (Instr.loadAt 23 (.pointer (some ⟨b, o, none⟩))).run Try.prog w = .ok x w := by go_simp
theorem hsubA {a b s : Int} (h : IntKind.i64.wrap (a - b) = s) (w : World) : (binOp .sub 2 (.int .i64 a) (.int .i64 b)).run Try.prog w = .ok (.int .i64 s) w := by go_simp
theorem hmulA {a b s : Int} (h : IntKind.i64.wrap (a * b) = s) (w : World) : (binOp .mul 2 (.int .i64 a) (.int .i64 b)).run Try.prog w = .ok (.int .i64 s) w := by go_simp
section
variable {P : Program} {ops : Array Oper} {Q : Exit → Act → World → Prop} {md : Region.Mode} {S : World → Prop}
/-- A make, alone to come up. -/
theorem held_make {i : Nat} {oi : Oper} {fuel : Nat} {listed : Array Bool} {a : Act} {w w' : World} {v x y : Value} (d : Option Tmp) (t : TypeId) (l c : Operand) (hr : Region.ready md ops listed = [i]) (hi : ops[i]? = some oi) (hg : oi.guard = none) (hd : oi.dst = d)
    (ho : oi.op = .makeSlice t l c) (hl : a.eval l = x) (hc : a.eval c = y) (h : (Instr.makeSlice t x y).run P w = .ok v w') (hS : S w') (hh : wpAnyH P md ops Q S fuel (listed.setIfInBounds i true) (a.put d v) w') : wpAnyH P md ops Q S (fuel + 1) listed a w :=
  held_mem d hr hi hg hd (by simp [execOp, ho, hl, hc, h, Result.andThen]) hS hh
/-- A copy, alone to come up. -/
theorem held_copy {i : Nat} {oi : Oper} {fuel : Nat} {listed : Array Bool} {a : Act} {w w' : World} {v x y : Value} (d : Option Tmp) (ta : Array TypeId) (l c : Operand) (hr : Region.ready md ops listed = [i]) (hi : ops[i]? = some oi) (hg : oi.guard = none) (hd : oi.dst = d)
    (ho : oi.op = .call { callee := .builtin .copy, args := #[l, c], argTypes := ta }) (hl : a.eval l = x) (hc : a.eval c = y) (h : ∀ ty, (Builtin.copy_ ta ty #[x, y]).run P w = .ok v w') (hS : S w') (hh : wpAnyH P md ops Q S fuel (listed.setIfInBounds i true) (a.put d v) w') : wpAnyH P md ops Q S (fuel + 1) listed a w :=
  held_mem d hr hi hg hd (by simp [execOp, ho, resolve, invoke, builtin, hl, hc, h, Result.andThen]) hS hh
theorem op_make {i : Nat} {oi : Oper} {K : Act → World → Prop} {a : Act} {w w' : World} {v x y : Value} (d : Option Tmp) (t : TypeId) (l c : Operand) (hi : ops[i]? = some oi) (hg : oi.guard = none) (hd : oi.dst = d) (ho : oi.op = .makeSlice t l c) (hl : a.eval l = x) (hc : a.eval c = y)
    (h : (Instr.makeSlice t x y).run P w = .ok v w') (hK : K (a.put d v) w') : wpOp P ops Q i K a w :=
  op_mem d hi hg hd (by simp [execOp, ho, hl, hc, h, Result.andThen]) hK
end
theorem infoCo (y0 y1 y2 : Value) : (Try.prog.info? 31).map (·.size) = some (#[y0, y1, y2] : Array Value).size := by kernel_rfl
end Go.Proofs.Ytpdkfidmmjlmnab
