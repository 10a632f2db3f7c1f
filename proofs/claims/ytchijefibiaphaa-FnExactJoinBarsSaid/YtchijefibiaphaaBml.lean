/-
  The marks of a result of bars.
-/
import Derived.Test.YtchijefibiaphaaBmk
namespace Go.Proofs.Ytchijefibiaphaa
open Go.RowKit
def HwB (lo hi : Nat) (W : World) (u : Value) (m : Int) : Prop := ∃ l : Nat, l ≤ 1048576 ∧ m = 1 + 3 * (l : Int) ∧ MkB lo hi W u 1 l
theorem HwB.same {lo hi : Nat} {W W' : World} {u : Value} {m : Int} (h : HwB lo hi W u m) (s : Same lo hi W W') : HwB lo hi W' u m := by
  obtain ⟨l, h1, h2, h3⟩ := h
  exact ⟨l, h1, h2, h3.same s⟩
def MkRB (lo hi : Nat) (u : Value) (w : World) (e : Ending) (w' : World) : Prop := ∃ m : Int, e = .returned (.int .i64 m) ∧ 1 ≤ m ∧ m ≤ 4611686018427387904 ∧ Only lo hi w w' ∧ HwB lo hi w' u m
theorem markRB_any {lo hi : Nat} {u : Value} {out : List B3} {w : World} (h : RwB lo hi w u out) (hl : out.length ≤ 1048576) : Calls Try.prog 43 #[u, .int .i64 1] w (MkRB lo hi u w) :=
  (markBar_any u out 1 w h hl (by omega) (by omega)).mono fun e w' ⟨he, ho, hm⟩ => ⟨_, he, by omega, by omega, ho, _, hl, rfl, hm⟩
theorem heldRB_any {lo hi : Nat} {u : Value} {m : Int} {w : World} (h : HwB lo hi w u m) : Calls Try.prog 44 #[u, .int .i64 1] w (QW (.int .i64 m) w) := by
  obtain ⟨l, h1, rfl, h3⟩ := h
  exact heldBar_any u l 1 w h3 h1 (by omega) (by omega)
end Go.Proofs.Ytchijefibiaphaa
