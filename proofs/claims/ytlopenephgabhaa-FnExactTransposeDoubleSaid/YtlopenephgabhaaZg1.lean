/-
  Texts that ProofTzl needs, part 1.
-/

namespace Go.Proofs.Ytlopenephgabhaa.Lin

abbrev V := Nat → Int
def zv : V := fun _ => 0
def Md (p : Int) (v : V) : Prop := ∀ i, 0 ≤ v i ∧ v i < p
/-- v, and c times w. -/
def add (p : Int) (v : V) (c : Int) (w : V) : V := fun i => (v i + c * w i) % p

/-- The space of a list. -/
inductive Sp (p : Int) (L : List V) : V → Prop
  | zero : Sp p L zv
  | step {v w : V} (c : Int) : Sp p L v → w ∈ L → Sp p L (add p v c w)

open Classical in
/-- The place of the first number other than 0. -/
noncomputable def ld (v : V) : Nat := if h : ∃ k, v k ≠ 0 ∧ ∀ j, j < k → v j = 0 then h.choose else 0
end Go.Proofs.Ytlopenephgabhaa.Lin

namespace Go.Proofs.Ytlopenephgabhaa.Lin

/-- u is a multiple of r, its first number 1. -/
structure Unit (p : Int) (r u : V) : Prop where
  md : Md p u
  lead : ld u = ld r
  one : u (ld u) = 1
  at0 : ∀ i, r i = 0 → u i = 0
  to : Sp p [r] u
  of : Sp p [u] r
/-- A reduced list with one row more: put at the place k, its multiples taken away from the others. -/
noncomputable def put (p : Int) (L : List V) (k : Nat) (u : V) : List V := (L.take k).map (fun w => add p w (-(w (ld u))) u) ++ u :: (L.drop k).map (fun w => add p w (-(w (ld u))) u)
end Go.Proofs.Ytlopenephgabhaa.Lin

namespace Go.Proofs.Ytlopenephgabhaa.Lin

end Go.Proofs.Ytlopenephgabhaa.Lin

namespace Go.Proofs.Ytlopenephgabhaa.Lin

def long (m : Nat) (r : V) (i : Nat) : V := fun j => if j < m then r j else if j = m + i then 1 else 0
def col (rows : Nat → V) (j : Nat) : V := fun i => rows i j
section
variable {p : Int} (hp : 1 < p) {m n : Nat} {rows : Nat → V} {Lg : List V}
include hp in
include hp in
end
end Go.Proofs.Ytlopenephgabhaa.Lin

namespace Go.Proofs.Ytlopenephgabhaa.Lin

end Go.Proofs.Ytlopenephgabhaa.Lin

