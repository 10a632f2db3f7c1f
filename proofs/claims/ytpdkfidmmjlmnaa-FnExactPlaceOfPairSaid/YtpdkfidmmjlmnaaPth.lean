/-
  impl.path's addTo by contract: a list of maps leads an element, and what arises is added to a row that is there.
-/
import Derived.Test.YtpdkfidmmjlmnaaIdm
import Derived.Test.YtpdkfidmmjlmnaaApg
import Derived.Test.YtpdkfidmmjlmnaaLes
import Derived.Test.YtpdkfidmmjlmnaaHld
import Derived.BigRegion
import Derived.Deep.Cut
import Derived.Deep.CutRange
namespace Go.Proofs.Ytpdkfidmmjlmnaa
open Go.RowKit

/-- Nothing that was there has changed, but the block b. -/
structure But (b : Nat) (w w' : World) : Prop where
  os : w'.os = w.os
  tape : w'.tape = w.tape
  output : w'.output = w.output
  size : w.heap.size ≤ w'.heap.size
  block : ∀ k, k < w.heap.size → k ≠ b → w'.heap[k]? = w.heap[k]?
theorem But.refl (b : Nat) (w : World) : But b w w := ⟨rfl, rfl, rfl, Nat.le_refl _, fun _ _ _ => rfl⟩
theorem But.trans {b : Nat} {x y z : World} (h : But b x y) (k : But b y z) : But b x z :=
  ⟨k.os.trans h.os, k.tape.trans h.tape, k.output.trans h.output, Nat.le_trans h.size k.size, fun i hi hb => (k.block i (Nat.lt_of_lt_of_le hi h.size) hb).trans (h.block i hi hb)⟩
theorem But.of_below {b : Nat} {w w' : World} (h : Below w.heap.size w w') : But b w w' := ⟨h.os, h.tape, h.output, h.size, fun k hk _ => h.block k hk⟩
theorem But.set {b : Nat} (w : World) (i : Nat) (v : Value) : But b w (w.setCell ⟨b, i, none⟩ v) :=
  ⟨rfl, rfl, rfl, by simp, fun k _ hb => Below.heap_setCell w ⟨b, i, none⟩ v k hb⟩
theorem But.drew {b : Nat} {w w' : World} (h : But b w w') : But b w w'.drew := ⟨h.os, (Below.refl 0 w').drew.tape.trans h.tape, h.output, h.size, h.block⟩
theorem But.below {b B : Nat} {w w' : World} (h : But b w w') (hB : B ≤ w.heap.size) (hb : B ≤ b) : Below B w w' := ⟨h.os, h.tape, h.output, h.size, fun k hk => h.block k (by omega) (by omega)⟩

theorem But.cell {b : Nat} {w w' : World} (h : But b w w') {k o : Nat} (hk : k < w.heap.size) (hb : k ≠ b) : w'.cell? ⟨k, o, none⟩ = w.cell? ⟨k, o, none⟩ := World.cell?_of_block (w := w) (h.block k hk hb)

/-- The map with the graded g leads the element (x, us) to (y, vs), in all worlds that hold what w holds. -/
def Led (w : World) (g : Value) (x : Int) (us : List Int) (y : Int) (vs : List Int) : Prop :=
  ∀ W vv, Below w.heap.size w W → L1 0 W vv us → Calls Try.prog 188 #[g, .agg #[.int .i64 x, vv]] W (LeadR y vs W)
inductive Chain (w : World) : List Value → Int → List Int → Int → List Int → Prop
  | nil (x : Int) (us : List Int) : Chain w [] x us x us
  | cons {g : Value} {gs : List Value} {x y z : Int} {us vs ts : List Int} : Led w g x us y vs → Chain w gs y vs z ts → Chain w (g :: gs) x us z ts

/-- A path's list of maps, read in w. -/
def MapsAt (w : World) (v : Value) (gs : List Value) : Prop := ∃ b o c, v = .slice (some ⟨b, o, none⟩) gs.length c ∧ ∀ k (h : k < gs.length), w.cell? ⟨b, o + k, none⟩ = some (.func (.func 188) #[gs[k]] #[])

/-- A number of a row with a factor's share of another one. -/
def addMod (p f a x : Int) : Int := (a + f * x) % p

theorem chain_cons {w : World} {gs : List Value} {x z : Int} {us ts : List Int} {k : Nat} (h : Chain w (gs.drop k) x us z ts) (hk : k < gs.length) : ∃ y vs, Led w gs[k] x us y vs ∧ Chain w (gs.drop (k + 1)) y vs z ts := by
  rw [List.drop_eq_getElem_cons hk] at h
  cases h with
  | cons h1 h2 => exact ⟨_, _, h1, h2⟩
theorem chain_end {w : World} {gs : List Value} {x z : Int} {us ts : List Int} {k : Nat} (h : Chain w (gs.drop k) x us z ts) (hk : ¬ k < gs.length) : us = ts := by
  rw [List.drop_eq_nil_of_le (Nat.le_of_not_lt hk)] at h
  cases h with
  | nil => rfl
/-- The path's box at block S, the element's box behind it. -/
structure ElB (W : World) (S : Nat) (f : Int) (mv : Value) (x : Int) (uv : Value) (us : List Int) : Prop where
  a0 : W.cell? ⟨S, 0, none⟩ = some (.int .i64 f)
  a1 : W.cell? ⟨S, 1, none⟩ = some mv
  c0 : W.cell? ⟨S + 1, 0, none⟩ = some (.int .i64 x)
  c1 : W.cell? ⟨S + 1, 1, none⟩ = some uv
  th : W.there (S + 1) 0 2
  l : L1 0 W uv us
theorem ElB.lt {W : World} {S : Nat} {f : Int} {mv : Value} {x : Int} {uv : Value} {us : List Int} (h : ElB W S f mv x uv us) : S + 1 < W.heap.size := cell_lt h.c0
theorem ElB.step {W W' : World} {S : Nat} {f : Int} {mv : Value} {x : Int} {uv : Value} {us : List Int} (h : ElB W S f mv x uv us) (hb : Below W.heap.size W W') {x2 : Int} {u2 : Value} {vs : List Int} (hu : W1 W.heap.size W'.heap.size W' u2 vs) :
    ElB ((W'.setCell ⟨S + 1, 0, none⟩ (.int .i64 x2)).setCell ⟨S + 1, 1, none⟩ u2) S f mv x2 u2 vs := by
  have hl := h.lt
  have d0 := later hb (Nat.le_refl _) h.c0
  have d1 := later hb (Nat.le_refl _) h.c1
  refine ⟨?_, ?_, ?_, ?_, there_set (there_set (there_below h.th hb hl) _ _) _ _, ?_⟩
  · rw [World.cell?_setCell_other _ _ _ _ (by simp), World.cell?_setCell_other _ _ _ _ (by simp)]
    exact later hb (Nat.le_refl _) h.a0
  · rw [World.cell?_setCell_other _ _ _ _ (by simp), World.cell?_setCell_other _ _ _ _ (by simp)]
    exact later hb (Nat.le_refl _) h.a1
  · rw [World.cell?_setCell_other _ _ _ _ (by simp)]
    exact World.cell?_setCell_same _ _ _ d0
  · exact World.cell?_setCell_same _ _ _ (by rw [World.cell?_setCell_other _ _ _ _ (by simp)]; exact d1)
  · exact (stable1 W.heap.size _ _ _ _ ((Keep.set _ hl).trans (Keep.set _ hl)) hu.l1).lower (Nat.zero_le _)
theorem ElB.step1 {W W' : World} {S : Nat} {f : Int} {mv : Value} {x : Int} {uv : Value} {us : List Int} (h : ElB W S f mv x uv us) {x2 : Int} {u2 : Value} {vs : List Int} (hu : W1 W.heap.size W'.heap.size W' u2 vs) :
    L1 S ((W'.setCell ⟨S + 1, 0, none⟩ (.int .i64 x2)).setCell ⟨S + 1, 1, none⟩ u2) u2 vs := by
  have hl := h.lt
  exact (stable1 W.heap.size _ _ _ _ ((Keep.set _ hl).trans (Keep.set _ hl)) hu.l1).lower (by omega)

def AddR (b c : Nat) (Z : Nat → Int) (w : World) (e : Ending) (w' : World) : Prop := e = .returned (.tuple #[]) ∧ But b w w' ∧ w'.rowIs b 2 c (fun i => .int .i64 (Z i))

end Go.Proofs.Ytpdkfidmmjlmnaa
