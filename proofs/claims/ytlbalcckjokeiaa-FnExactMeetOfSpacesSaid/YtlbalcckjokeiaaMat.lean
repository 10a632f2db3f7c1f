/-
  Tables in blocks of their own: impl.zeroTable and impl.transposedTable, by their contracts.
-/
import Derived.Test.YtlbalcckjokeiaaMark
namespace Go.Proofs.Ytlbalcckjokeiaa
open Go.RowKit

/-- A table that a call has made: its own row of rows at block g, row j at block g + 1 + j, number i of it Z j i. -/
structure Mat (w w' : World) (r c : Nat) (Z : Nat → Nat → Int) : Prop where
  below : Below w.heap.size w w'
  size : w'.heap.size = w.heap.size + 1 + r
  top : w'.rowIs w.heap.size 31 r (fun j => .slice (some ⟨w.heap.size + 1 + j, 0, none⟩) c c)
  rows : ∀ j, j < r → w'.rowIs (w.heap.size + 1 + j) 2 c (fun i => .int .i64 (Z j i))
def tableOf (r c : Nat) (Z : Nat → Nat → Int) : List (List Int) := (List.range r).map fun j => (List.range c).map fun i => Z j i
theorem Mat.w2 {w w' : World} {r c : Nat} {Z : Nat → Nat → Int} (h : Mat w w' r c Z) : W2 w.heap.size w'.heap.size w' (.slice (some ⟨w.heap.size, 0, none⟩) r r) (tableOf r c Z) := by
  by_cases h0 : r = 0
  · subst h0
    exact Or.inl ⟨rfl, _, _, rfl⟩
  · refine Or.inr ⟨w.heap.size, 0, r, by simp [tableOf], Nat.le_refl _, h.top.lt, by simp [tableOf]; omega, fun k hk => ?_, fun k _ => h.top.frozen _⟩
    have hk' : k < r := by simpa [tableOf] using hk
    refine ⟨_, by rw [Nat.zero_add]; exact h.top.cell hk', ?_⟩
    simp only [tableOf, List.getElem_map, List.getElem_range]
    by_cases hc : c = 0
    · subst hc
      exact Or.inl ⟨rfl, _, _, rfl⟩
    · refine Or.inr ⟨w.heap.size + 1 + k, 0, c, by simp, by omega, (h.rows k hk').lt, by simp; omega, fun i hi => ?_, fun i _ => (h.rows k hk').frozen _⟩
      have hi' : i < c := by simpa using hi
      refine ⟨_, by rw [Nat.zero_add]; exact (h.rows k hk').cell hi', ?_⟩
      simp only [IsI, List.getElem_map, List.getElem_range]
theorem Mat.set {w w' : World} {r c : Nat} {Z : Nat → Nat → Int} (h : Mat w w' r c Z) {j i : Nat} (hj : j < r) (x : Int) :
    Mat w (w'.setCell ⟨w.heap.size + 1 + j, i, none⟩ (.int .i64 x)) r c (fun j2 i2 => if j2 = j ∧ i2 = i then x else Z j2 i2) := by
  refine ⟨h.below.setCell (by show w.heap.size ≤ w.heap.size + 1 + j; omega) _, by simp [h.size], h.top.setOther (by show w.heap.size ≠ w.heap.size + 1 + j; omega) _, fun j2 hj2 => ?_⟩
  by_cases e : j2 = j
  · subst e
    exact ((h.rows j2 hj2).set i _).congr (fun i2 _ => by by_cases e2 : i2 = i <;> simp [e2])
  · exact ((h.rows j2 hj2).setOther (by show w.heap.size + 1 + j2 ≠ w.heap.size + 1 + j; omega) _).congr (fun i2 _ => by simp [e])
theorem Mat.congr {w w' : World} {r c : Nat} {Z Z' : Nat → Nat → Int} (h : Mat w w' r c Z) (e : ∀ j, j < r → ∀ i, i < c → Z j i = Z' j i) : Mat w w' r c Z' :=
  ⟨h.below, h.size, h.top, fun j hj => (h.rows j hj).congr (fun i hi => by rw [e j hj i hi])⟩

/-- While the rows are being made: k of them are there. -/
structure MatTo (w w' : World) (r c k : Nat) : Prop where
  below : Below w.heap.size w w'
  size : w'.heap.size = w.heap.size + 1 + k
  top : w'.rowIs w.heap.size 31 r (fun j => if j < k then .slice (some ⟨w.heap.size + 1 + j, 0, none⟩) c c else .slice none 0 0)
  rows : ∀ j, j < k → w'.rowIs (w.heap.size + 1 + j) 2 c (fun _ => .int .i64 0)
theorem MatTo.start (w : World) (r c : Nat) : MatTo w (w.alloc (.cells (madeCells #[.slice none 0 0] r) 31)) r c 0 :=
  ⟨(Below.refl _ _).alloc (Nat.le_refl _) _, by simp, (World.rowIs_made w _ r _).congr (fun j _ => by simp), fun j hj => absurd hj (Nat.not_lt_zero _)⟩
theorem MatTo.step {w w' : World} {r c k : Nat} (h : MatTo w w' r c k) : MatTo w ((w'.alloc (.cells (madeCells #[.int .i64 0] c) 2)).setCell ⟨w.heap.size, k, none⟩ (.slice (some ⟨w'.heap.size, 0, none⟩) c c)) r c (k + 1) := by
  have hnew := World.rowIs_made w' (.int .i64 0) c 2
  have hs := h.size
  refine ⟨(h.below.alloc (by omega) _).setCell (Nat.le_refl _) _, by simp [h.size]; omega, ((h.top.alloc _).set k _).congr (fun j _ => ?_), fun j hj => ?_⟩
  · by_cases e : j = k
    · subst e
      rw [if_pos rfl, if_pos (Nat.lt_succ_self _), hs]
    · rw [if_neg e]
      by_cases h2 : j < k
      · rw [if_pos h2, if_pos (by omega)]
      · rw [if_neg h2, if_neg (by omega)]
  · by_cases e : j = k
    · subst e
      rw [← hs]
      exact hnew.setOther (by show w'.heap.size ≠ w.heap.size; omega) _
    · exact ((h.rows j (by omega)).alloc _).setOther (by show w.heap.size + 1 + j ≠ w.heap.size; omega) _
theorem MatTo.done {w w' : World} {r c : Nat} (h : MatTo w w' r c r) : Mat w w' r c (fun _ _ => 0) :=
  ⟨h.below, h.size, h.top.congr (fun j hj => by rw [if_pos hj]), h.rows⟩

def MatR (r c : Nat) (Z : Nat → Nat → Int) (w : World) (e : Ending) (w' : World) : Prop := e = .returned (.slice (some ⟨w.heap.size, 0, none⟩) r r) ∧ Mat w w' r c Z

set_option maxHeartbeats 800000 in
theorem zeroTable_any (r c : Nat) (w : World) (hr : r ≤ 1048576) (hc : c ≤ 1048576) : Calls Try.prog 93 #[.int .i64 r, .int .i64 c] w (MatR r c (fun _ _ => 0) w) := by
  have hmk := run_make_row' (P := Try.prog) 22 31 (.slice none 0 0) 24 Try.underlying22 Try.infoS rfl .i64 .i64 r (by omega) (by omega)
  have hmk2 := run_make_row' (P := Try.prog) 31 2 (.int .i64 0) 8 Try.underlying31 Try.infoI rfl .i64 .i64 c (by omega) (by omega)
  go_enter Try.func93, Try.ntmps93
  go_wp2
  clear hmk
  go_loopw [6, 11] (fun _ i wr => ∃ (k : Nat), k ≤ r ∧ i = .int .i64 k ∧ MatTo w wr r c k) (fun _ i _ => r - (intOf i).toNat)
  case atStart => exact ⟨0, Nat.zero_le _, rfl, MatTo.start _ _ _⟩
  case round =>
    obtain ⟨k, hk, rfl, HM⟩ := hrel
    by_cases hlt : k < r
    · have hc1 : ∀ o, (wr.alloc o).cell? ⟨w.heap.size, k, none⟩ = some (if k < k then .slice (some ⟨w.heap.size + 1 + k, 0, none⟩) c c else .slice none 0 0) := fun o => (HM.top.alloc o).cell hlt
      have hc2 : ∀ o, (wr.alloc o).cell? ⟨w.heap.size, k, none⟩ = some (.slice none 0 0) := fun o => by rw [hc1 o, if_neg (Nat.lt_irrefl _)]
      have hf : ∀ o, (wr.alloc o).frozen? ⟨w.heap.size, k, none⟩ = false := fun o => (HM.top.alloc o).frozen k
      have HS := Lib.hid HM.step
      clear hc1 HM
      go_wp2
      go_roundw
      case rel => exact ⟨k + 1, by omega, by go_num, HS.out⟩
      case measure => simp [intOf]; omega
    · have hkk : k = r := by omega
      subst hkk
      have HM' := Lib.hid HM
      clear HM
      go_wp2
      go_ret
      exact ⟨rfl, HM'.out.done⟩
end Go.Proofs.Ytlbalcckjokeiaa
