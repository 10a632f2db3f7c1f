/-
  Families of tables in blocks of their own whose rows may still be changed; impl.zeroFamily once more, with its blocks named.
-/
import Derived.Test.YtiokagnolbddlaaZfm
import Derived.Test.YtiokagnolbddlaaPth
import Derived.Test.YtiokagnolbddlaaRc
namespace Go.Proofs.Ytiokagnolbddlaa
open Go.RowKit

/-- The first k tables of m, in order, each in blocks of its own. -/
structure FamT (W : World) (G m k : Nat) (f : Nat → Value) (gs rs cs : Nat → Nat) (Z : Nat → Nat → Nat → Int) : Prop where
  row : W.rowIs G 44 m f
  val : ∀ j, j < k → f j = .slice (some ⟨gs j, 0, none⟩) (rs j) (rs j)
  lo : ∀ j, j < k → G < gs j
  inc : ∀ j, j + 1 < k → gs j + 1 + rs j ≤ gs (j + 1)
  tb : ∀ j, j < k → Tb W (gs j) (rs j) (cs j) (Z j)
theorem FamT.start {W : World} {G m : Nat} {f : Nat → Value} {gs rs cs : Nat → Nat} {Z : Nat → Nat → Nat → Int} (h : W.rowIs G 44 m f) : FamT W G m 0 f gs rs cs Z :=
  ⟨h, fun _ h => absurd h (Nat.not_lt_zero _), fun _ h => absurd h (Nat.not_lt_zero _), fun _ h => absurd h (Nat.not_lt_zero _), fun _ h => absurd h (Nat.not_lt_zero _)⟩
theorem FamT.below {W W' : World} {G m k : Nat} {f : Nat → Value} {gs rs cs : Nat → Nat} {Z : Nat → Nat → Nat → Int} (h : FamT W G m k f gs rs cs Z) (hb : Below W.heap.size W W') : FamT W' G m k f gs rs cs Z :=
  ⟨h.row.of_block (hb.block _ h.row.lt), h.val, h.lo, h.inc, fun j hj => (h.tb j hj).below hb⟩
theorem FamT.step {W w1 : World} {G m k r c : Nat} {f : Nat → Value} {gs rs cs : Nat → Nat} {Z : Nat → Nat → Nat → Int} (h : FamT W G m k f gs rs cs Z) (_hk : k < m) (hr : r = rs k) (hc : c = cs k) (hm : Mat W w1 r c (Z k)) :
    FamT (w1.setCell ⟨G, k, none⟩ (.slice (some ⟨W.heap.size, 0, none⟩) r r)) G m (k + 1) (fun j => if j = k then .slice (some ⟨W.heap.size, 0, none⟩) r r else f j) (fun j => if j = k then W.heap.size else gs j) rs cs Z := by
  subst hr hc
  have hlt := h.row.lt
  have hb := hm.below
  refine ⟨(h.row.of_block (hb.block _ hlt)).set k _, fun j hj => ?_, fun j hj => ?_, fun j hj => ?_, fun j hj => ?_⟩
  · by_cases e : j = k
    · subst e; simp
    · simp only [if_neg e]; exact h.val j (by omega)
  · by_cases e : j = k
    · simp only [if_pos e]; exact hlt
    · simp only [if_neg e]; exact h.lo j (by omega)
  · have hjk : ¬ j = k := by omega
    simp only [if_neg hjk]
    by_cases e : j + 1 = k
    · simp only [if_pos e]; exact (h.tb j (by omega)).lt
    · simp only [if_neg e]; exact h.inc j (by omega)
  · by_cases e : j = k
    · subst e
      simp only [if_true]
      exact hm.tb.out (Or.inl hlt) _
    · simp only [if_neg e]
      exact ((h.tb j (by omega)).below hb).out (Or.inl (h.lo j (by omega))) _
theorem FamT.ord {W : World} {G m k : Nat} {f : Nat → Value} {gs rs cs : Nat → Nat} {Z : Nat → Nat → Nat → Int} (h : FamT W G m k f gs rs cs Z) {i j : Nat} (hij : i < j) (hj : j < k) : gs i + 1 + rs i ≤ gs j := by
  induction j with
  | zero => exact absurd hij (Nat.not_lt_zero _)
  | succ j ih =>
    have h1 := h.inc j hj
    by_cases e : i = j
    · subst e; exact h1
    · have := ih (by omega) (by omega)
      omega
theorem FamT.congr {W : World} {G m k : Nat} {f : Nat → Value} {gs rs cs : Nat → Nat} {Z Z' : Nat → Nat → Nat → Int} (h : FamT W G m k f gs rs cs Z) (e : ∀ n, n < k → ∀ j, j < rs n → ∀ i, i < cs n → Z n j i = Z' n j i) : FamT W G m k f gs rs cs Z' :=
  ⟨h.row, h.val, h.lo, h.inc, fun j hj => (h.tb j hj).congr (e j hj)⟩
/-- One row is laid anew. -/
theorem FamT.put {W W' : World} {G m k : Nat} {f : Nat → Value} {gs rs cs : Nat → Nat} {Z : Nat → Nat → Nat → Int} (h : FamT W G m k f gs rs cs Z) {n i : Nat} (hn : n < k) (hi : i < rs n) {y : Nat → Int} (hb : But (gs n + 1 + i) W W') (hr : W'.rowIs (gs n + 1 + i) 2 (cs n) (fun q => .int .i64 (y q))) :
    FamT W' G m k f gs rs cs (fun n2 i2 q => if n2 = n ∧ i2 = i then y q else Z n2 i2 q) := by
  have hl := h.lo n hn
  refine ⟨h.row.of_block (hb.block _ h.row.lt (by omega)), h.val, h.lo, h.inc, fun j hj => ?_⟩
  have hT := h.tb j hj
  by_cases e : j = n
  · subst e
    refine ⟨hT.top.of_block (hb.block _ hT.top.lt (by omega)), fun i2 hi2 => ?_, Nat.le_trans hT.lt hb.size⟩
    by_cases e2 : i2 = i
    · subst e2
      exact hr.congr (fun q _ => by simp)
    · exact ((hT.rows i2 hi2).of_block (hb.block _ (hT.rows i2 hi2).lt (by omega))).congr (fun q _ => by simp [e2])
  · have hd : gs j + 1 + rs j ≤ gs n ∨ gs n + 1 + rs n ≤ gs j := by
      by_cases e3 : j < n
      · exact Or.inl (h.ord e3 hn)
      · exact Or.inr (h.ord (by omega) hj)
    refine ⟨hT.top.of_block (hb.block _ hT.top.lt (by omega)), fun i2 hi2 => ?_, Nat.le_trans hT.lt hb.size⟩
    exact ((hT.rows i2 hi2).of_block (hb.block _ (hT.rows i2 hi2).lt (by omega))).congr (fun q _ => by simp [e])
/-- The tables as lists. -/
def famL (m : Nat) (rs cs : Nat → Nat) (Z : Nat → Nat → Nat → Int) : List (List (List Int)) := (List.range m).map fun n => tableOf (rs n) (cs n) (Z n)
theorem famL_length (m : Nat) (rs cs : Nat → Nat) (Z : Nat → Nat → Nat → Int) : (famL m rs cs Z).length = m := by simp [famL]
theorem FamT.rw3 {lo : Nat} {W : World} {G m : Nat} {f : Nat → Value} {gs rs cs : Nat → Nat} {Z : Nat → Nat → Nat → Int} (h : FamT W G m m f gs rs cs Z) (hl : lo ≤ G) (hm : m ≤ 1048576) (hrs : ∀ j, j < m → rs j ≤ 1048576 ∧ cs j ≤ 1048576) :
    Rw3 lo W.heap.size W (.slice (some ⟨G, 0, none⟩) m m) (famL m rs cs Z) := by
  have hF : Fill3 W G m m f (fun j => if j < m then gs j else W.heap.size) (famL m rs cs Z) := by
    refine ⟨h.row, ?_, fun j hj => ?_, ?_, fun j hj hjm => ?_⟩
    · by_cases e : 0 < m
      · simp only [if_pos e]; exact h.lo 0 e
      · simp only [if_neg e]; exact h.row.lt
    · simp only [if_pos hj]
      by_cases e : j + 1 < m
      · simp only [if_pos e]; have := h.inc j e; omega
      · simp only [if_neg e]; have := (h.tb j hj).lt; omega
    · simp only [if_neg (Nat.lt_irrefl _)]; exact Nat.le_refl _
    · simp only [if_pos hjm]
      rw [h.val j hjm]
      have e1 : (famL m rs cs Z)[j] = tableOf (rs j) (cs j) (Z j) := by simp [famL]
      rw [e1]
      refine (h.tb j hjm).rw2h (Nat.le_refl _) ?_ (hrs j hjm).1 (hrs j hjm).2
      by_cases e : j + 1 < m
      · simp only [if_pos e]; exact h.inc j e
      · simp only [if_neg e]; exact (h.tb j hjm).lt
  exact (hF.rw3 (by rw [famL_length]) hm).wider hl (Nat.le_refl _)

def rsF (ds : List Int) (n : Nat) : Nat := (ds.getD n 0).toNat
def csF (ds2 : List Int) (s : Int) (n : Nat) : Nat := (dimZ ds2 ((n : Int) + s)).toNat
def FamTR (m : Nat) (rs cs : Nat → Nat) (Z : Nat → Nat → Nat → Int) (w : World) (e : Ending) (w' : World) : Prop :=
  ∃ G f gs, e = .returned (.slice (some ⟨G, 0, none⟩) m m) ∧ w.heap.size ≤ G ∧ FamT w' G m m f gs rs cs Z ∧ Below w.heap.size w w'

end Go.Proofs.Ytiokagnolbddlaa
