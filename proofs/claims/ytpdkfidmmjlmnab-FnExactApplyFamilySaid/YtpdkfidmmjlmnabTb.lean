/-
  A table in blocks of its own among others, while it is being filled.
-/
import Derived.Test.YtpdkfidmmjlmnabP1
namespace Go.Proofs.Ytpdkfidmmjlmnab
open Go.RowKit

/-- The table at block g: its row of rows there, row j at block g + 1 + j, number i of it Z j i. -/
structure Tb (W : World) (g r c : Nat) (Z : Nat → Nat → Int) : Prop where
  top : W.rowIs g 22 r (fun j => .slice (some ⟨g + 1 + j, 0, none⟩) c c)
  rows : ∀ j, j < r → W.rowIs (g + 1 + j) 2 c (fun i => .int .i64 (Z j i))
  lt : g + 1 + r ≤ W.heap.size
theorem Mat.tb {w w' : World} {r c : Nat} {Z : Nat → Nat → Int} (h : Mat w w' r c Z) : Tb w' w.heap.size r c Z := ⟨h.top, h.rows, by rw [h.size]; omega⟩
theorem Tb.below {W W' : World} {g r c : Nat} {Z : Nat → Nat → Int} (h : Tb W g r c Z) (hb : Below W.heap.size W W') : Tb W' g r c Z :=
  ⟨h.top.of_block (hb.block _ h.top.lt), fun j hj => (h.rows j hj).of_block (hb.block _ (h.rows j hj).lt), Nat.le_trans h.lt hb.size⟩
theorem Tb.out {W : World} {g r c : Nat} {Z : Nat → Nat → Int} (h : Tb W g r c Z) {a : Addr} (ha : a.block < g ∨ g + 1 + r ≤ a.block) (v : Value) : Tb (W.setCell a v) g r c Z :=
  ⟨h.top.setOther (by omega) v, fun j hj => (h.rows j hj).setOther (by omega) v, by simpa using h.lt⟩
theorem Tb.put {W : World} {g r c : Nat} {Z : Nat → Nat → Int} (h : Tb W g r c Z) {j i : Nat} (hj : j < r) (x : Int) :
    Tb (W.setCell ⟨g + 1 + j, i, none⟩ (.int .i64 x)) g r c (fun j2 i2 => if j2 = j ∧ i2 = i then x else Z j2 i2) := by
  refine ⟨h.top.setOther (by show g ≠ g + 1 + j; omega) _, fun j2 hj2 => ?_, by simpa using h.lt⟩
  by_cases e : j2 = j
  · subst e
    exact ((h.rows j2 hj2).set i _).congr (fun i2 _ => by by_cases e2 : i2 = i <;> simp [e2])
  · exact ((h.rows j2 hj2).setOther (by show g + 1 + j2 ≠ g + 1 + j; omega) _).congr (fun i2 _ => by simp [e])
theorem Tb.congr {W : World} {g r c : Nat} {Z Z' : Nat → Nat → Int} (h : Tb W g r c Z) (e : ∀ j, j < r → ∀ i, i < c → Z j i = Z' j i) : Tb W g r c Z' :=
  ⟨h.top, fun j hj => (h.rows j hj).congr (fun i hi => by rw [e j hj i hi]), h.lt⟩
theorem Tb.tab {W : World} {g r c : Nat} {Z : Nat → Nat → Int} (h : Tb W g r c Z) : TabW W g r c Z := by
  refine ⟨fun j hj => h.top.cell hj, fun j hj => ?_⟩
  by_cases hc : c = 0
  · subst hc
    exact Or.inl ⟨rfl, _, _, rfl⟩
  · refine Or.inr ⟨g + 1 + j, 0, c, by rw [rowZ_length], Nat.le_refl _, by omega, by rw [rowZ_length]; omega, fun i hi => ?_, fun i _ => (h.rows j hj).frozen _⟩
    have hi' : i < c := by rwa [rowZ_length] at hi
    refine ⟨_, by rw [Nat.zero_add]; exact (h.rows j hj).cell hi', ?_⟩
    simp only [IsI, rowZ, List.getElem_map, List.getElem_range]
theorem Tb.tw {lo : Nat} {W : World} {g r c : Nat} {Z : Nat → Nat → Int} (h : Tb W g r c Z) (hl : lo ≤ g) (hr : r ≤ 1048576) (hc : c ≤ 1048576) : TW lo W.heap.size W (.slice (some ⟨g, 0, none⟩) r r) (tableOf r c Z) :=
  Or.inr ⟨g, r, c, Z, hl, h.lt, hr, hc, rfl, rfl, h.tab⟩
end Go.Proofs.Ytpdkfidmmjlmnab
