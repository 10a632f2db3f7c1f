/-
  Texts that ProofFtl needs, part 3.
-/
import Derived.Test.YtlopenephgabhaaZh2
import Derived.Great.BuildSlice
import Derived.Laws.AppendOwn
import Derived.Deep.AppendLies
import Derived.Lib.AppendZeros
import Derived.Deep.QuietTactic
import Derived.BigQuiet
import Derived.Deep.RegionHeld3
import Derived.BigRegion
import Derived.Deep.Cut
import Derived.Deep.CutRange
import Derived.StillTailTactics
import Derived.RangeFuncNested
import Derived.RangeFuncBound
import Derived.RangeFuncCalls
import Derived.RangeFuncLeaves
import Derived.Shelf.Abstract
import Derived.WalkKit
import Derived.OwnWalkIn
import Derived.TacticsInMore
import Derived.LoopNIn
import Derived.LoopIn
import Derived.OrdersIn
import Derived.OrdersHeld
namespace Go.Proofs.Ytlopenephgabhaa
open Go.RowKit

theorem S1.wider {lo hi lo' hi' : Nat} {W : World} {u : Value} {I : List Iv} (h : S1 lo hi W u I) (h1 : lo' ≤ lo) (h2 : hi ≤ hi') : S1 lo' hi' W u I := by
  rcases h with h | ⟨b, o, n, cap, e, a, b1, c, d, f⟩
  · exact Or.inl h
  · exact Or.inr ⟨b, o, n, cap, e, a, b1, by omega, by omega, f⟩
theorem SS.wider {S S' : World → Value → List Iv → Prop} {lo hi lo' hi' : Nat} {W : World} {u : Value} {I : List Iv} (h : SS S lo hi W u I) (hS : ∀ v I, S W v I → S' W v I) (h1 : lo' ≤ lo) (h2 : hi ≤ hi') : SS S' lo' hi' W u I := by
  obtain ⟨ad, m, cap, f, J, a, b, c, d, e⟩ := h
  refine ⟨ad, m, cap, f, J, a, b, c, fun j hj => hS _ _ (d j hj), fun hm => ?_⟩
  obtain ⟨b, o, x1, x2, x3, x4⟩ := e hm
  exact ⟨b, o, x1, by omega, by omega, x4⟩
theorem S2.wider {lo hi lo' hi' : Nat} {W : World} {u : Value} {I : List Iv} (h : S2 lo hi W u I) (h1 : lo' ≤ lo) (h2 : hi ≤ hi') : S2 lo' hi' W u I := SS.wider h (fun _ _ k => S1.wider k h1 h2) h1 h2
theorem S3.wider {lo hi lo' hi' : Nat} {W : World} {u : Value} {I : List Iv} (h : S3 lo hi W u I) (h1 : lo' ≤ lo) (h2 : hi ≤ hi') : S3 lo' hi' W u I := SS.wider h (fun _ _ k => S2.wider k h1 h2) h1 h2

/-- A result of 1 level(s) in blocks from lo up to hi, its numbers apart from each other. -/
def Rw1 (lo hi : Nat) (W : World) (u : Value) (out : List Int) : Prop := W1 lo hi W u out ∧ ∃ I, S1 lo hi W u I ∧ Nums lo hi W I ∧ Disj I ∧ ivSize I ≤ 1048576
theorem Rw1.same {lo hi : Nat} {W W' : World} {u : Value} {out : List Int} (h : Rw1 lo hi W u out) (s : Same lo hi W W') : Rw1 lo hi W' u out := by
  obtain ⟨h1, I, h2, h3, h4, h5⟩ := h
  exact ⟨h1.same s, I, h2, h3.same s, h4, h5⟩
theorem Rw1.next {lo hi : Nat} {W W' : World} {u : Value} {out : List Int} (h : Rw1 lo hi W u out) (hb : Below W.heap.size W W') (hh : hi ≤ W.heap.size) : Rw1 lo hi W' u out := h.same (Same.of_below hb hh)
theorem Rw1.wider {lo hi lo' hi' : Nat} {W : World} {u : Value} {out : List Int} (h : Rw1 lo hi W u out) (h1 : lo' ≤ lo) (h2 : hi ≤ hi') : Rw1 lo' hi' W u out := by
  obtain ⟨a, I, b, c, d, e⟩ := h
  exact ⟨a.wider h1 h2, I, b.wider h1 h2, c.wider h1 h2, d, e⟩
theorem Rw1.l {lo hi : Nat} {W : World} {u : Value} {out : List Int} (h : Rw1 lo hi W u out) : L1 0 W u out := h.1.l1.lower (Nat.zero_le _)
theorem Rw1.nil (lo hi : Nat) (W : World) : Rw1 lo hi W (.slice none 0 0) [] := ⟨Or.inl ⟨rfl, _, _, rfl⟩, [], Or.inl ⟨rfl, _, _, rfl⟩, fun _ h => absurd h (by simp), List.Pairwise.nil, by simp [ivSize]⟩
/-- The same with the marks from 1 on in it. -/
def Hw1 (lo hi : Nat) (W : World) (u : Value) (m : Int) : Prop := ∃ I, S1 lo hi W u I ∧ Marked W I 1 ∧ (∀ x ∈ I, lo ≤ x.1 ∧ x.1 < hi) ∧ m = 1 + (ivSize I : Int) ∧ ivSize I ≤ 1048576
theorem Hw1.same {lo hi : Nat} {W W' : World} {u : Value} {m : Int} (h : Hw1 lo hi W u m) (s : Same lo hi W W') : Hw1 lo hi W' u m := by
  obtain ⟨I, h2, h3, h4, h5⟩ := h
  exact ⟨I, h2, h3.same h4 s, h4, h5⟩
theorem Hw1.next {lo hi : Nat} {W W' : World} {u : Value} {m : Int} (h : Hw1 lo hi W u m) (hb : Below W.heap.size W W') (hh : hi ≤ W.heap.size) : Hw1 lo hi W' u m := h.same (Same.of_below hb hh)
/-- A result of 2 level(s) in blocks from lo up to hi, its numbers apart from each other. -/
def Rw2 (lo hi : Nat) (W : World) (u : Value) (out : List (List Int)) : Prop := W2 lo hi W u out ∧ ∃ I, S2 lo hi W u I ∧ Nums lo hi W I ∧ Disj I ∧ ivSize I ≤ 1099511627776
theorem Rw2.same {lo hi : Nat} {W W' : World} {u : Value} {out : List (List Int)} (h : Rw2 lo hi W u out) (s : Same lo hi W W') : Rw2 lo hi W' u out := by
  obtain ⟨h1, I, h2, h3, h4, h5⟩ := h
  exact ⟨h1.same s, I, h2.same s, h3.same s, h4, h5⟩
theorem Rw2.next {lo hi : Nat} {W W' : World} {u : Value} {out : List (List Int)} (h : Rw2 lo hi W u out) (hb : Below W.heap.size W W') (hh : hi ≤ W.heap.size) : Rw2 lo hi W' u out := h.same (Same.of_below hb hh)
theorem Rw2.wider {lo hi lo' hi' : Nat} {W : World} {u : Value} {out : List (List Int)} (h : Rw2 lo hi W u out) (h1 : lo' ≤ lo) (h2 : hi ≤ hi') : Rw2 lo' hi' W u out := by
  obtain ⟨a, I, b, c, d, e⟩ := h
  exact ⟨a.wider h1 h2, I, b.wider h1 h2, c.wider h1 h2, d, e⟩
theorem Rw2.l {lo hi : Nat} {W : World} {u : Value} {out : List (List Int)} (h : Rw2 lo hi W u out) : L2 0 W u out := h.1.l2.lower (Nat.zero_le _)
theorem Rw2.shape {lo hi : Nat} {W : World} {u : Value} {out : List (List Int)} (h : Rw2 lo hi W u out) : ∃ ad cap, u = .slice ad out.length cap := Sw.shape h.1
theorem Rw2.nil (lo hi : Nat) (W : World) : Rw2 lo hi W (.slice none 0 0) [] := ⟨Or.inl ⟨rfl, _, _, rfl⟩, [], ⟨none, 0, 0, fun _ => .slice none 0 0, fun _ => [], rfl, by omega, rfl, fun _ h => absurd h (Nat.not_lt_zero _), fun h => absurd h (Nat.lt_irrefl _)⟩, fun _ h => absurd h (by simp), List.Pairwise.nil, by simp [ivSize]⟩
/-- The same with the marks from 1 on in it. -/
def Hw2 (lo hi : Nat) (W : World) (u : Value) (m : Int) : Prop := ∃ I, S2 lo hi W u I ∧ Marked W I 1 ∧ (∀ x ∈ I, lo ≤ x.1 ∧ x.1 < hi) ∧ m = 1 + (ivSize I : Int) ∧ ivSize I ≤ 1099511627776
theorem Hw2.same {lo hi : Nat} {W W' : World} {u : Value} {m : Int} (h : Hw2 lo hi W u m) (s : Same lo hi W W') : Hw2 lo hi W' u m := by
  obtain ⟨I, h2, h3, h4, h5⟩ := h
  exact ⟨I, h2.same s, h3.same h4 s, h4, h5⟩
theorem Hw2.next {lo hi : Nat} {W W' : World} {u : Value} {m : Int} (h : Hw2 lo hi W u m) (hb : Below W.heap.size W W') (hh : hi ≤ W.heap.size) : Hw2 lo hi W' u m := h.same (Same.of_below hb hh)
/-- A result of 3 level(s) in blocks from lo up to hi, its numbers apart from each other. -/
def Rw3 (lo hi : Nat) (W : World) (u : Value) (out : List (List (List Int))) : Prop := W3 lo hi W u out ∧ ∃ I, S3 lo hi W u I ∧ Nums lo hi W I ∧ Disj I ∧ ivSize I ≤ 1152921504606846976
theorem Rw3.same {lo hi : Nat} {W W' : World} {u : Value} {out : List (List (List Int))} (h : Rw3 lo hi W u out) (s : Same lo hi W W') : Rw3 lo hi W' u out := by
  obtain ⟨h1, I, h2, h3, h4, h5⟩ := h
  exact ⟨h1.same s, I, h2.same s, h3.same s, h4, h5⟩
theorem Rw3.next {lo hi : Nat} {W W' : World} {u : Value} {out : List (List (List Int))} (h : Rw3 lo hi W u out) (hb : Below W.heap.size W W') (hh : hi ≤ W.heap.size) : Rw3 lo hi W' u out := h.same (Same.of_below hb hh)
theorem Rw3.wider {lo hi lo' hi' : Nat} {W : World} {u : Value} {out : List (List (List Int))} (h : Rw3 lo hi W u out) (h1 : lo' ≤ lo) (h2 : hi ≤ hi') : Rw3 lo' hi' W u out := by
  obtain ⟨a, I, b, c, d, e⟩ := h
  exact ⟨a.wider h1 h2, I, b.wider h1 h2, c.wider h1 h2, d, e⟩
theorem Rw3.l {lo hi : Nat} {W : World} {u : Value} {out : List (List (List Int))} (h : Rw3 lo hi W u out) : L3 0 W u out := h.1.l3.lower (Nat.zero_le _)
theorem Rw3.nil (lo hi : Nat) (W : World) : Rw3 lo hi W (.slice none 0 0) [] := ⟨Or.inl ⟨rfl, _, _, rfl⟩, [], ⟨none, 0, 0, fun _ => .slice none 0 0, fun _ => [], rfl, by omega, rfl, fun _ h => absurd h (Nat.not_lt_zero _), fun h => absurd h (Nat.lt_irrefl _)⟩, fun _ h => absurd h (by simp), List.Pairwise.nil, by simp [ivSize]⟩
/-- The same with the marks from 1 on in it. -/
def Hw3 (lo hi : Nat) (W : World) (u : Value) (m : Int) : Prop := ∃ I, S3 lo hi W u I ∧ Marked W I 1 ∧ (∀ x ∈ I, lo ≤ x.1 ∧ x.1 < hi) ∧ m = 1 + (ivSize I : Int) ∧ ivSize I ≤ 1152921504606846976
theorem Hw3.same {lo hi : Nat} {W W' : World} {u : Value} {m : Int} (h : Hw3 lo hi W u m) (s : Same lo hi W W') : Hw3 lo hi W' u m := by
  obtain ⟨I, h2, h3, h4, h5⟩ := h
  exact ⟨I, h2.same s, h3.same h4 s, h4, h5⟩
theorem Hw3.next {lo hi : Nat} {W W' : World} {u : Value} {m : Int} (h : Hw3 lo hi W u m) (hb : Below W.heap.size W W') (hh : hi ≤ W.heap.size) : Hw3 lo hi W' u m := h.same (Same.of_below hb hh)
/-- Lists of intervals in spans of blocks one behind the other are apart. -/
theorem disj_spans {J : Nat → List Iv} {b : Nat → Nat} {n : Nat} (hi : ∀ j, j < n → b j ≤ b (j + 1)) (hJ : ∀ j, j < n → ∀ x ∈ J j, b j ≤ x.1 ∧ x.1 < b (j + 1)) (hd : ∀ j, j < n → Disj (J j)) : Disj (flat J n) ∧ ∀ x ∈ flat J n, x.1 < b n := by
  induction n with
  | zero => exact ⟨List.Pairwise.nil, fun x hx => absurd hx (by simp [flat])⟩
  | succ n ih =>
    obtain ⟨h1, h2⟩ := ih (fun j hj => hi j (by omega)) (fun j hj => hJ j (by omega)) (fun j hj => hd j (by omega))
    rw [flat_succ]
    refine ⟨List.pairwise_append.2 ⟨h1, hd n (by omega), fun x hx y hy => Or.inl ?_⟩, fun x hx => ?_⟩
    · have a := h2 x hx
      have c := (hJ n (by omega) y hy).1
      omega
    · rcases List.mem_append.1 hx with h | h
      · have a := h2 x h
        have c := hi n (by omega)
        omega
      · exact (hJ n (by omega) x h).2
theorem size_spans {J : Nat → List Iv} {n B : Nat} (h : ∀ j, j < n → ivSize (J j) ≤ B) : ivSize (flat J n) ≤ B * n := by
  induction n with
  | zero => simp [flat, ivSize]
  | succ n ih =>
    have h1 := ih (fun j hj => h j (by omega))
    have h2 := h n (by omega)
    rw [flat_succ, ivSize_append, Nat.mul_succ]
    omega
theorem nums_flat {lo hi : Nat} {W : World} {J : Nat → List Iv} {n : Nat} (h : ∀ j, j < n → Nums lo hi W (J j)) : Nums lo hi W (flat J n) := fun x hx => by
  obtain ⟨j, hj, hx⟩ := List.mem_flatMap.1 hx
  exact h j (List.mem_range.1 hj) x hx
theorem choose2 {α : Type} [Inhabited α] {P : Nat → α → Prop} {n : Nat} (h : ∀ j, j < n → ∃ a, P j a) : ∃ f : Nat → α, ∀ j, j < n → P j (f j) :=
  ⟨fun j => if hj : j < n then Classical.choose (h j hj) else default, fun j hj => by simp only [dif_pos hj]; exact Classical.choose_spec (h j hj)⟩

/-- Tables while they are laid into a row of tables at block g: k of them are there. -/
structure Fill3 (wr : World) (g n k : Nat) (f : Nat → Value) (b : Nat → Nat) (ts : List (List (List Int))) : Prop where
  row : wr.rowIs g 22 n f
  lo : g < b 0
  inc : ∀ j, j < k → b j ≤ b (j + 1)
  hi : b k ≤ wr.heap.size
  at' : ∀ j (h : j < ts.length), j < k → Rw2 (b j) (b (j + 1)) wr (f j) ts[j]
theorem Fill3.next {wr w' : World} {g n k : Nat} {f : Nat → Value} {b : Nat → Nat} {ts : List (List (List Int))} (h : Fill3 wr g n k f b ts) (hb : Below wr.heap.size wr w') (hm : ∀ j, j < k → b (j + 1) ≤ b k) : Fill3 w' g n k f b ts :=
  ⟨h.row.of_block (hb.block _ h.row.lt), h.lo, h.inc, Nat.le_trans h.hi hb.size, fun j hj hk => (h.at' j hj hk).next hb (Nat.le_trans (hm j hk) h.hi)⟩
theorem inc_le {b : Nat → Nat} {k : Nat} (h : ∀ j, j < k → b j ≤ b (j + 1)) : ∀ j, j ≤ k → b j ≤ b k := by
  intro j hj
  induction k with
  | zero => rw [show j = 0 by omega]; exact Nat.le_refl _
  | succ k ih =>
    by_cases e : j = k + 1
    · rw [e]; exact Nat.le_refl _
    · exact Nat.le_trans (ih (fun i hi => h i (by omega)) (by omega)) (h k (by omega))
theorem Fill3.below {wr w' : World} {g n k : Nat} {f : Nat → Value} {b : Nat → Nat} {ts : List (List (List Int))} (h : Fill3 wr g n k f b ts) (hb : Below wr.heap.size wr w') : Fill3 w' g n k f b ts := h.next hb (fun j hj => inc_le h.inc (j + 1) hj)
theorem Fill3.out {wr : World} {g n k : Nat} {f : Nat → Value} {b : Nat → Nat} {ts : List (List (List Int))} (h : Fill3 wr g n k f b ts) {a : Addr} (ha : a.block < g) (v : Value) : Fill3 (wr.setCell a v) g n k f b ts :=
  ⟨h.row.setOther (by omega) v, h.lo, h.inc, by simpa using h.hi, fun j hj hk => (h.at' j hj hk).same (fun x hx _ => Below.heap_setCell wr a v x (by have := h.lo; have := inc_le (b := b) (k := j) (fun i hi => h.inc i (by omega)) 0 (Nat.zero_le _); omega))⟩
theorem Fill3.step {wr w1 : World} {g n k : Nat} {f : Nat → Value} {b : Nat → Nat} {ts : List (List (List Int))} {u : Value} (h : Fill3 wr g n k f b ts) (hb : Below wr.heap.size wr w1) (hk : k < ts.length) (hu : Rw2 wr.heap.size w1.heap.size w1 u ts[k]) :
    Fill3 (w1.setCell ⟨g, k, none⟩ u) g n (k + 1) (fun j => if j = k then u else f j) (fun j => if j < k then b j else if j = k then wr.heap.size else w1.heap.size) ts := by
  have hlt := h.row.lt
  have hr : w1.rowIs g 22 n f := h.row.of_block (hb.block _ hlt)
  have hsm : ∀ lo hi, g < lo → Same lo hi w1 (w1.setCell ⟨g, k, none⟩ u) := fun lo hi hl => Same.set u (Or.inl hl)
  refine ⟨hr.set k u, ?_, fun j hj => ?_, ?_, fun j hj hjk => ?_⟩
  · by_cases e : 0 < k
    · simp only [if_pos e]; exact h.lo
    · simp only [if_neg e, if_pos (show 0 = k by omega)]; exact hlt
  · by_cases e : j < k
    · simp only [if_pos e]
      by_cases e2 : j + 1 < k
      · simp only [if_pos e2]; exact h.inc j e
      · simp only [if_neg e2, if_pos (show j + 1 = k by omega)]
        have := inc_le h.inc j (by omega)
        have := h.hi
        omega
    · simp only [if_neg e, if_pos (show j = k by omega), if_neg (show ¬ j + 1 < k by omega), if_neg (show ¬ j + 1 = k by omega)]
      exact hb.size
  · simp only [if_neg (show ¬ k + 1 < k by omega), if_neg (show ¬ k + 1 = k by omega)]
    simp
  · by_cases e : j = k
    · subst e
      simp only [if_neg (show ¬ j < j by omega), if_neg (show ¬ j + 1 < j by omega), if_neg (show ¬ j + 1 = j by omega), if_true]
      exact hu.same (hsm _ _ hlt)
    · have hj' : j < k := by omega
      have hh := inc_le h.inc (j + 1) hj'
      have h0 := inc_le (b := b) (k := j) (fun i hi => h.inc i (by omega)) 0 (Nat.zero_le _)
      have hl0 := h.lo
      have ht := ((h.at' j hj hj').next hb (Nat.le_trans hh h.hi)).same (hsm _ _ (by omega))
      simp only [if_neg e, if_pos hj']
      by_cases e2 : j + 1 < k
      · simp only [if_pos e2]; exact ht
      · simp only [if_neg e2, if_pos (show j + 1 = k by omega)]
        exact ht.wider (Nat.le_refl _) (Nat.le_trans hh h.hi)
/-- What a function answers beside a code. -/
structure RsOut {α : Type} (P : α → Prop) (z : α) (c0 : Int) (out : α) (c : Int) : Prop where
  good : c0 = 0 → P out
  bad : c0 ≠ 0 → out = z
  code : c = c0
theorem RsOut.unique {α : Type} {P : α → Prop} {z : α} {c0 : Int} {o1 o2 : α} {c1 c2 : Int} (hu : c0 = 0 → ∀ a b, P a → P b → a = b) (h1 : RsOut P z c0 o1 c1) (h2 : RsOut P z c0 o2 c2) : o1 = o2 ∧ c1 = c2 := by
  refine ⟨?_, h1.code.trans h2.code.symm⟩
  by_cases h0 : c0 = 0
  · exact hu h0 _ _ (h1.good h0) (h2.good h0)
  · rw [h1.bad h0, h2.bad h0]
theorem RsOut.all {α : Type} {P : α → Prop} {z : α} {c0 : Int} {o : α} {c : Int} (h : RsOut P z c0 o c) {Q : α → Prop} (hz : Q z) (hb : c0 = 0 → ∀ a, P a → Q a) : Q o := by
  by_cases h0 : c0 = 0
  · exact hb h0 _ (h.good h0)
  · rw [h.bad h0]
    exact hz
theorem RsOut.of_no {α : Type} {P : α → Prop} {z : α} {c0 : Int} (h : c0 ≠ 0) : RsOut P z c0 z c0 := ⟨fun h0 => absurd h0 h, fun _ => rfl, rfl⟩
theorem RsOut.of_yes {α : Type} {P : α → Prop} {z : α} {c0 : Int} {o : α} (h : c0 = 0) (hp : P o) : RsOut P z c0 o 0 := ⟨fun _ => hp, fun hh => absurd h hh, h.symm⟩
/-- The answer of the program: a result in memory of its own, and a code; and that of the model. -/
def AnsW {α : Type} (R : Nat → Nat → World → Value → α → Prop) (P : α → Prop) (z : α) (c0 : Int) (w : World) (e : Ending) (w' : World) : Prop :=
  ∃ (u : Value) (out : α) (c : Int), e = .returned (.tuple #[u, .int .i64 c]) ∧ R w.heap.size w'.heap.size w' u out ∧ Below w.heap.size w w' ∧ RsOut P z c0 out c
def AnsS {α : Type} (R : World → Value → α → Prop) (P : α → Prop) (z : α) (c0 : Int) (w : World) (e : Ending) (w' : World) : Prop :=
  ∃ (u : Value) (out : α) (c : Int), e = .returned (.tuple #[u, .int .i64 c]) ∧ R w' u out ∧ Below w.heap.size w w' ∧ RsOut P z c0 out c
end Go.Proofs.Ytlopenephgabhaa


namespace Go.Proofs.Ytlopenephgabhaa
open Go.RowKit

section
variable {P : Program} {md : Region.Mode} {ops : Array Oper} {Q : Exit → Act → World → Prop} {S : World → Prop}
theorem yieldsIf_bin {o : Oper} {a : Act} {x y : Operand} {v u i : Value} {b : BinOp} {t t' : TypeId} (hg : o.guard = none) (ho : o.op = .binOp b t x y t') (hx : a.eval x = u) (hy : a.eval y = i) (hge : ∀ w, (eqGuard b t x y u i).run P w = .ok () w) (hrun : ∀ w, (binOp b t u i).run P w = .ok v w) : YieldsIf P ops S o v a :=
  Or.inl ⟨by unfold Region.wanted; rw [hg], fun w _ => by
    unfold execOp
    simp only [ho, hx, hy, Sem.run_bind, hge w, hrun w, Result.andThen_ok]
    rfl⟩
theorem yieldsIf_run {o : Oper} {a : Act} {v : Value} (hg : o.guard = none) (hrun : ∀ w, S w → (execOp a.eval o).run P w = .ok (.value v) w) : YieldsIf P ops S o v a :=
  Or.inl ⟨by unfold Region.wanted; rw [hg], hrun⟩
theorem yieldsIf_assign {o : Oper} {a : Act} {x : Operand} {v : Value} (hg : o.guard = none) (ho : o.op = .assign x) (hx : a.eval x = v) : YieldsIf P ops S o v a :=
  Or.inl ⟨by unfold Region.wanted; rw [hg], fun w _ => by
    unfold execOp
    simp only [ho, hx]
    rfl⟩
end
section
variable {md : Region.Mode} {ops : Array Oper} {Q : Exit → Act → World → Prop} {S : World → Prop}
/-- A slice of one new number. -/
theorem held_buildI {i : Nat} {oi : Oper} {fuel : Nat} {listed : Array Bool} {a : Act} {w : World} (d : Option Tmp) (hr : Region.ready md ops listed = [i]) (hi : ops[i]? = some oi) (hg : oi.guard = none) (hd : oi.dst = d)
    (x : Operand) (n : Int) (ho : oi.op = .buildSlice 35 1 #[(0, x)]) (hx : a.eval x = .int .i64 n)
    (h : S (w.alloc (.cells #[.int .i64 n] 2)) ∧ wpAnyH Try.prog md ops Q S fuel (listed.setIfInBounds i true) (a.put d (.slice (some ⟨w.heap.size, 0, none⟩) 1 1)) (w.alloc (.cells #[.int .i64 n] 2))) : wpAnyH Try.prog md ops Q S (fuel + 1) listed a w := by
  obtain ⟨ie, hie, hz, h1, _⟩ := info_parts Try.infoI
  subst hd
  refine held_call hr hi hg (wp_buildSlice 35 2 1 #[(0, x)] ho #[.int .i64 n] ie _ Try.underlying35 hie hz (by rw [h1]; decide) (by rw [h1]; decide) ?_ h)
  simp only [h1, List.map_toArray, List.map_cons, List.map_nil, hx]
  first | kernel_rfl | simp [Instr.fill]
/-- append of one number. -/
theorem held_appendI {i : Nat} {oi : Oper} {fuel : Nat} {listed : Array Bool} {a : Act} {w : World} (d : Option Tmp) (hr : Region.ready md ops listed = [i]) (hi : ops[i]? = some oi) (hg : oi.guard = none) (hd : oi.dst = d)
    (s x : Operand) (ho : oi.op = .call { callee := .builtin .append, args := #[s, x], argTypes := #[35, 35] }) (base : Nat) (v : Value) (n : Nat) (xs : List Value) (hs : a.eval s = v) (hown : w.ownsRow base 2 1 v n xs)
    (b : Nat) (y : Int) (hx : a.eval x = .slice (some ⟨b, 0, none⟩) 1 1) (hc : w.cell? ⟨b, 0, none⟩ = some (.int .i64 y)) (hn : n ≤ 2097152) (hb : base ≤ w.heap.size)
    (h : ∀ v' w', w'.ownsRow base 2 1 v' (n + 1) (xs ++ [.int .i64 y]) → w.grownBy w' v.ownBlock → S w' ∧ wpAnyH Try.prog md ops Q S fuel (listed.setIfInBounds i true) (a.put d v') w') : wpAnyH Try.prog md ops Q S (fuel + 1) listed a w := by
  obtain ⟨ie, hie, hz, h1, h2⟩ := info_parts Try.infoI
  subst hd
  refine held_call hr hi hg (wp_append_own w s x 35 ho base 2 ie _ 1 8 Try.underlying35 hie hz h1 h2 rfl (by decide) v n xs hs hown ⟨b, 0, none⟩ 1 1 [.int .i64 y] hx rfl ?_ ?_ (by unfold maxLen; omega) (by omega) hb (fun v' w' h2 h3 _ => h v' w' h2 h3))
  · intro j u hj
    match j, hj with
    | 0, hj =>
      simp at hj
      subst hj
      exact hc
  · intro u hu
    simp at hu
    subst hu
    rfl
end
theorem hmulI {a b : Int} (h0 : -1000 ≤ a * b) (h1 : a * b ≤ 1000) (w : World) : (binOp .mul 2 (.int .i64 a) (.int .i64 b)).run Try.prog w = .ok (.int .i64 (a * b)) w := by
  have hw : IntKind.i64.wrap (a * b) = a * b := IntWalk.i64_in _ (by omega)
  go_simp
theorem hsubI {a b : Int} (h0 : -1000 ≤ a - b) (h1 : a - b ≤ 1000) (w : World) : (binOp .sub 2 (.int .i64 a) (.int .i64 b)).run Try.prog w = .ok (.int .i64 (a - b)) w := by
  have hw : IntKind.i64.wrap (a - b) = a - b := IntWalk.i64_in _ (by omega)
  go_simp
theorem cell_alloc1 (w : World) (v : Value) (t : TypeId) : (w.alloc (.cells #[v] t)).cell? ⟨w.heap.size, 0, none⟩ = some v := by
  unfold World.cell?
  rw [heap_alloc_new w (.cells #[v] t)]
  rfl
theorem hidxI (b o : Nat) {k n : Nat} (cap : Nat) (hk : k < n) (w : World) : (Instr.indexAt 35 (.slice (some ⟨b, o, none⟩) n cap) (.int .i64 k)).run Try.prog w = .ok (.pointer (some ⟨b, o + k, none⟩)) w := by
  have h2 : (0 : Int) ≤ (k : Int) := by omega
  have h3 : (k : Int) < (n : Int) := by omega
  go_simp
theorem hidxS (b o : Nat) {k n : Nat} (cap : Nat) (hk : k < n) (w : World) : (Instr.indexAt 22 (.slice (some ⟨b, o, none⟩) n cap) (.int .i64 k)).run Try.prog w = .ok (.pointer (some ⟨b, o + k, none⟩)) w := by
  have h2 : (0 : Int) ≤ (k : Int) := by omega
  have h3 : (k : Int) < (n : Int) := by omega
  go_simp
end Go.Proofs.Ytlopenephgabhaa

namespace Go.Proofs.Ytlopenephgabhaa
open Go.RowKit

theorem ld_ltn {n : Nat} {v : Lin.V} (hw : Lin.Wd n v) (hne : v ≠ Lin.zv) : Lin.ld v < n ∧ v (Lin.ld v) ≠ 0 ∧ ∀ j, j < Lin.ld v → v j = 0 := by
  obtain ⟨i, hi⟩ := Lin.ne_zv hne
  obtain ⟨h1, h2⟩ := Lin.ld_spec hi
  refine ⟨Classical.byContradiction fun hn => h1 (hw _ (by omega)), h1, h2⟩
/-- What a reduced list of rows of n numbers has to do with a list. -/
structure RedN (p : Int) (n : Nat) (R T : List Lin.V) : Prop where
  red : Lin.Red p R
  wd : ∀ u ∈ R, Lin.Wd n u
  eqv : Lin.Eqv p R T
theorem RedN.nil (p : Int) (n : Nat) : RedN p n [] [] := ⟨Lin.Red.nil p, by simp, Lin.Eqv.refl _ _⟩
theorem RedN.put {p : Int} (hp : 1 < p) {n : Nat} {R T : List Lin.V} (h : RedN p n R T) {v r u : Lin.V} {k : Nat} (hT : ∀ w ∈ T, Lin.Md p w) (hv : Lin.Md p v) (hr : Lin.Rest p R v R.length r) (hne : r ≠ Lin.zv) (hu : Lin.Unit p r u) (huw : Lin.Wd n u) (hk : k ≤ R.length)
    (hlo : ∀ w ∈ R.take k, Lin.ld w < Lin.ld u) (hhi : ∀ w ∈ R.drop k, ¬ Lin.ld w < Lin.ld u) : RedN p n (Lin.put p R k u) (T ++ [v]) := by
  have hf := Lin.fits_of hr hne hu hk hlo hhi
  refine ⟨hf.red hp h.red, fun x hx => ?_, Lin.put_eqv hp h.red hT hv h.eqv hr hu hf⟩
  rcases Lin.put_mem.1 hx with rfl | ⟨y, hy, rfl⟩
  · exact huw
  · exact Lin.add_wd _ (h.wd y hy) huw
theorem RedN.same {p : Int} (hp : 1 < p) {n : Nat} {R R' T : List Lin.V} (h : RedN p n R T) (k : RedOf p R' T) : R' = R :=
  Lin.Red.unique hp k.red h.red (fun v => (k.eqv v).trans (h.eqv v).symm)
theorem RedN.unique {p : Int} (hp : 1 < p) {n n' : Nat} {R R' T T' : List Lin.V} (h : RedN p n R T) (k : RedN p n' R' T') (e : Lin.Eqv p T T') : R' = R :=
  Lin.Red.unique hp k.red h.red (fun v => ((k.eqv v).trans (e v).symm).trans (h.eqv v).symm)

/-- A row less its multiple of u. -/
noncomputable def less1 (p : Int) (u w : Lin.V) : Lin.V := Lin.add p w (-(w (Lin.ld u))) u
/-- The next list while it is gathered: j rows have been seen; pt: the new row is in. -/
def Nx (p : Int) (R : List Lin.V) (u : Lin.V) (j : Nat) (pt : Bool) (N : List Lin.V) : Prop :=
  if pt then ∃ K, K ≤ j ∧ (∃ h : K < R.length, Lin.ld u < Lin.ld R[K]) ∧ (∀ w ∈ R.take K, Lin.ld w < Lin.ld u) ∧ N = Lin.put p (R.take j) K u
  else (∀ w ∈ R.take j, Lin.ld w < Lin.ld u) ∧ N = (R.take j).map (less1 p u)
theorem put_more {p : Int} {R : List Lin.V} {u : Lin.V} {j K : Nat} (hK : K ≤ j) (hj : j < R.length) : Lin.put p (R.take j) K u ++ [less1 p u R[j]] = Lin.put p (R.take (j + 1)) K u := by
  have hl : (R.take j).length = j := by simp; omega
  rw [List.take_succ_eq_append_getElem hj]
  unfold Lin.put
  rw [List.take_append_of_le_length (by omega), List.drop_append_of_le_length (by omega), List.map_append, List.append_assoc]
  rfl
theorem Nx.keep {p : Int} {R : List Lin.V} {u : Lin.V} {j : Nat} {N : List Lin.V} (h : Nx p R u j true N) (hj : j < R.length) : Nx p R u (j + 1) true (N ++ [less1 p u R[j]]) := by
  obtain ⟨K, hK, hx, hlo, rfl⟩ := h
  exact ⟨K, by omega, hx, hlo, put_more hK hj⟩
theorem Nx.done {p : Int} {R : List Lin.V} {u : Lin.V} {N : List Lin.V} (hR : Lin.Red p R) (h : Nx p R u R.length true N) : ∃ K, K ≤ R.length ∧ N = Lin.put p R K u ∧ (∀ w ∈ R.take K, Lin.ld w < Lin.ld u) ∧ ∀ w ∈ R.drop K, ¬ Lin.ld w < Lin.ld u := by
  obtain ⟨K, hK, ⟨hk, hx⟩, hlo, rfl⟩ := h
  refine ⟨K, hK, by rw [List.take_of_length_le (Nat.le_refl _)], hlo, fun w hw => ?_⟩
  rw [List.drop_eq_getElem_cons hk] at hw
  have hp := hR.inc
  rw [← List.take_append_drop K R, List.drop_eq_getElem_cons hk] at hp
  have h2 := (List.pairwise_append.1 hp).2.1
  rcases List.mem_cons.1 hw with rfl | hw
  · omega
  · have := (List.pairwise_cons.1 h2).1 w hw
    omega
theorem Nx.length {p : Int} {R : List Lin.V} {u : Lin.V} {j : Nat} {pt : Bool} {N : List Lin.V} (h : Nx p R u j pt N) (hj : j ≤ R.length) : N.length ≤ j + 1 := by
  have hl : (R.take j).length = j := by simp; omega
  cases pt with
  | true =>
    obtain ⟨K, hK, _, _, rfl⟩ := h
    rw [put_length p _ K u (by omega)]
    omega
  | false =>
    obtain ⟨_, rfl⟩ := h
    rw [List.length_map]
    omega
/-- The remainder as the reference model takes it. -/
theorem mod_twice {p x : Int} (hp : 0 < p) : (x.tmod p + p).tmod p = x % p := by
  have h1 : 0 ≤ x.tmod p + p := by
    have := Int.lt_tmod_of_pos x hp
    omega
  rw [Int.tmod_eq_emod_of_nonneg h1, Int.add_emod_right]
  rcases Int.le_total 0 x with h | h
  · rw [Int.tmod_eq_emod_of_nonneg h, Int.emod_emod_of_dvd x (Int.dvd_refl p)]
  · have e := Int.mul_tdiv_add_tmod x p
    have : x.tmod p = x + p * (-(x.tdiv p)) := by rw [Int.mul_neg]; omega
    rw [this, Int.add_mul_emod_self_left]
end Go.Proofs.Ytlopenephgabhaa

namespace Go.Proofs.Ytlopenephgabhaa
open Go.RowKit

/-- A row of numbers that a call has gathered above a base. -/
def Gb (base : Nat) (w : World) (u : Value) (xs : List Int) : Prop := w.ownsRow base 2 1 u xs.length (xs.map (Value.int .i64))
theorem Gb.g1 {base : Nat} {w : World} {u : Value} {xs : List Int} (h : Gb base w u xs) : G1 w u xs := owns_mono h (Nat.zero_le _)
theorem Gb.l1 {base : Nat} {w : World} {u : Value} {xs : List Int} (h : Gb base w u xs) : L1 0 w u xs := h.g1.l1
theorem Gb.below {base : Nat} {w w' : World} {u : Value} {xs : List Int} (h : Gb base w u xs) (hb : Below w.heap.size w w') : Gb base w' u xs := owns_below h hb
theorem Gb.mono {base base' : Nat} {w : World} {u : Value} {xs : List Int} (h : Gb base w u xs) (hb : base' ≤ base) : Gb base' w u xs := owns_mono h hb

theorem toL_succ (q : Nat) (v : Lin.V) : toL (q + 1) v = toL q v ++ [v q] := by simp [toL, List.range_succ]

def GbR (xs : List Int) (w : World) (e : Ending) (w' : World) : Prop := ∃ u, e = .returned u ∧ Gb w.heap.size w' u xs ∧ Below w.heap.size w w'

theorem tmod_bd {p x : Int} (hp : IsP p) : -7 < x.tmod p ∧ x.tmod p < 7 := by
  have h1 := Int.lt_tmod_of_pos x (show 0 < p by have := hp.lo; omega)
  have h2 := Int.tmod_lt_of_pos x (show 0 < p by have := hp.lo; omega)
  have := hp.hi
  omega
set_option maxHeartbeats 400000 in
theorem l01Mod_any (p x : Int) (w : World) (hp : IsP p) : Calls Try.prog 128 #[.int .i64 p, .int .i64 x] w (QW (.int .i64 (x % p)) w) := by
  have HM := Lib.hid (mod_twice (x := x) (show 0 < p by have := hp.lo; omega))
  obtain ⟨hb0, hb1⟩ := tmod_bd (x := x) hp
  have hp0 := hp.lo
  have hp1 := hp.hi
  obtain ⟨r, hr⟩ : ∃ r, r = x.tmod p := ⟨_, rfl⟩
  rw [← hr] at hb0 hb1
  have HR := Lib.hid hr
  clear hr
  go_enter Try.func128, Try.ntmps128
  go_wp2
  rw [← HR.out]
  have hw : wrap64 (r + p) = r + p := by unfold wrap64; omega
  go_ret
  exact ⟨ret_int (by rw [← HM.out, ← HR.out, hw]), rfl⟩

/-- What l01Less computes, number by number, stays small. -/
theorem less_bd {p k a b : Int} (hp : IsP p) (hb : 0 ≤ b ∧ b < p) (hk : 0 ≤ k ∧ k < p) : 0 ≤ k * b ∧ k * b ≤ 42 ∧ (a - k * b) % p = (a + -k * b) % p := by
  obtain ⟨h1, h2⟩ := mul_bd hp hk.1 hk.2 hb.1 (Int.le_of_lt hb.2)
  exact ⟨h1, h2, by rw [Int.neg_mul, Int.sub_eq_add_neg]⟩

end Go.Proofs.Ytlopenephgabhaa

namespace Go.Proofs.Ytlopenephgabhaa
open Go.RowKit

/-- A row of n numbers lies somewhere, if there are any. -/
theorem l1_toL {lo : Nat} {w : World} {u : Value} {n : Nat} {v : Lin.V} (h : L1 lo w u (toL n v)) (hn : 0 < n) : ∃ b o cap, u = .slice (some ⟨b, o, none⟩) n cap ∧ ∀ k, k < n → w.cell? ⟨b, o + k, none⟩ = some (.int .i64 (v k)) := by
  refine Sl.cases h (fun _ _ hx _ => by have := congrArg List.length hx; rw [toL_length] at this; simp at this; omega) (fun b o cap hv _ _ hc => ⟨b, o, cap, by rw [hv, toL_length], fun k hk => ?_⟩)
  obtain ⟨x, hx, hr⟩ := hc k (by rw [toL_length]; exact hk)
  rw [toL_get] at hr
  rw [hx, hr]
end Go.Proofs.Ytlopenephgabhaa

namespace Go.Proofs.Ytlopenephgabhaa
open Go.RowKit

/-- A table gathered row by row, above a base. -/
def Gs (base : Nat) (w : World) (u : Value) (t : List (List Int)) : Prop := ∃ vs, w.ownsRow base 35 1 u t.length vs ∧ ∀ k (h1 : k < vs.length) (h2 : k < t.length), G1 w vs[k] t[k]
theorem Gs.below {base : Nat} {w w' : World} {u : Value} {t : List (List Int)} (h : Gs base w u t) (hb : Below w.heap.size w w') : Gs base w' u t := by
  obtain ⟨vs, ho, hr⟩ := h
  exact ⟨vs, owns_below ho hb, fun k h1 h2 => (hr k h1 h2).below hb⟩
theorem Gs.mono {base base' : Nat} {w : World} {u : Value} {t : List (List Int)} (h : Gs base w u t) (hb : base' ≤ base) : Gs base' w u t := by
  obtain ⟨vs, ho, hr⟩ := h
  exact ⟨vs, owns_mono ho hb, hr⟩
theorem Gs.l2 {base : Nat} {w : World} {u : Value} {t : List (List Int)} (h : Gs base w u t) : L2 0 w u t := by
  obtain ⟨vs, ho, hr⟩ := h
  exact sl_of_owns ho (Nat.zero_le _) rfl (fun k h1 h2 => (hr k h2 h1).l1)
theorem Gs.push {base : Nat} {w w3 : World} {v v' row : Value} {t : List (List Int)} {vs : List Value} {x : List Int} (ho : w.ownsRow base 35 1 v t.length vs) (hr : ∀ k (h1 : k < vs.length) (h2 : k < t.length), G1 w vs[k] t[k]) (hx : G1 w row x)
    (ho3 : w3.ownsRow base 35 1 v' (t.length + 1) (vs ++ [row])) (hg : w.grownBy w3 v.ownBlock) : Gs base w3 v' (t ++ [x]) := by
  have hvl : vs.length = t.length := by have := ho.1; omega
  have keep : ∀ u xs, G1 w u xs → G1 w3 u xs := fun u xs h => owns_grown h ho (by decide) hg
  refine ⟨vs ++ [row], by simpa using ho3, fun k h1 h2 => ?_⟩
  by_cases e : k < vs.length
  · rw [List.getElem_append_left e, List.getElem_append_left (by omega)]
    exact keep _ _ (hr k e (by omega))
  · have e2 : k = vs.length := by simp at h1; omega
    subst e2
    rw [List.getElem_append_right (by omega), List.getElem_append_right (by omega)]
    simp only [hvl, Nat.sub_self, List.getElem_cons_zero]
    exact keep _ _ hx

end Go.Proofs.Ytlopenephgabhaa


namespace Go.Proofs.Ytlopenephgabhaa
open Go.RowKit

/-- What the functions on spaces take. -/
def SpOk (p n : Int) (rows : List (List Int)) : Prop := IsP p ∧ (0 ≤ n ∧ n ≤ 40) ∧ rows.length ≤ 40 ∧ TabOk p (rows.length : Int) n rows
theorem SpOk.row {p n : Int} {rows : List (List Int)} (h : SpOk p n rows) {r : List Int} (hr : r ∈ rows) : RowOk p n r := h.2.2.2.2 r hr
theorem SpOk.md {p n : Int} {rows : List (List Int)} (h : SpOk p n rows) : ∀ u ∈ rows.map ofL, Lin.Md p u := fun u hu => by
  obtain ⟨r, hr, rfl⟩ := List.mem_map.1 hu
  exact ofL_md (by have := h.1.lo; omega) (h.row hr)
theorem SpOk.wd {p n : Int} {rows : List (List Int)} (h : SpOk p n rows) : ∀ u ∈ rows.map ofL, Lin.Wd n.toNat u := fun u hu => by
  obtain ⟨r, hr, rfl⟩ := List.mem_map.1 hu
  exact ofL_wd (by have := (h.row hr).1; omega)
theorem SpOk.short {p n : Int} {rows : List (List Int)} (h : SpOk p n rows) : ∀ r ∈ rows, r.length ≤ 40 := fun r hr => by
  have := (h.row hr).1
  have := h.2.1
  omega
theorem led_length {n : Nat} : ∀ (L : List Lin.V) (k : Nat), L.Pairwise (fun v w => Lin.ld v < Lin.ld w) → (∀ u ∈ L, k ≤ Lin.ld u ∧ Lin.ld u < n) → L.length ≤ n - k
  | [], _, _, _ => by simp
  | v :: L, k, hp, h => by
    have h1 := List.pairwise_cons.1 hp
    have h0 := h v (by simp)
    have := led_length L (Lin.ld v + 1) h1.2 (fun u hu => ⟨h1.1 u hu, (h u (by simp [hu])).2⟩)
    simp only [List.length_cons]
    omega
theorem red_length {p : Int} {n : Nat} {R : List Lin.V} (h : Lin.Red p R) (hw : ∀ u ∈ R, Lin.Wd n u) : R.length ≤ n := by
  have := led_length (n := n) R 0 h.inc (fun u hu => ⟨Nat.zero_le _, (ld_ltn (hw u hu) (h.ne hu)).1⟩)
  omega

/-- What such a function answers: the reduced list of a space, or a code. -/
structure SpOut (p : Int) (n : Nat) (S : Lin.V → Prop) (c0 : Int) (out : List (List Int)) (c : Int) : Prop where
  good : c0 = 0 → ∃ R, Lin.Red p R ∧ (∀ u ∈ R, Lin.Wd n u) ∧ (∀ v, Lin.Sp p R v ↔ S v) ∧ out = R.map (toL n)
  bad : c0 ≠ 0 → out = []
  code : c = c0
theorem SpOut.unique {p : Int} {n : Nat} {S : Lin.V → Prop} {c0 : Int} {o1 o2 : List (List Int)} {c1 c2 : Int} (hp : c0 = 0 → 1 < p) (h1 : SpOut p n S c0 o1 c1) (h2 : SpOut p n S c0 o2 c2) : o1 = o2 ∧ c1 = c2 := by
  refine ⟨?_, h1.code.trans h2.code.symm⟩
  by_cases h0 : c0 = 0
  · obtain ⟨R1, a1, _, b1, rfl⟩ := h1.good h0
    obtain ⟨R2, a2, _, b2, rfl⟩ := h2.good h0
    rw [Lin.Red.unique (hp h0) a1 a2 (fun v => (b1 v).trans (b2 v).symm)]
  · rw [h1.bad h0, h2.bad h0]
theorem SpOut.bd {p : Int} {n : Nat} {S : Lin.V → Prop} {c0 : Int} {o : List (List Int)} {c : Int} (h : SpOut p n S c0 o c) (hn : c0 = 0 → n ≤ 1048576) : Bd2 1048576 o := by
  by_cases h0 : c0 = 0
  · obtain ⟨R, a, b, _, rfl⟩ := h.good h0
    have := red_length a b
    have hn := hn h0
    refine ⟨by rw [List.length_map]; omega, fun r hr => ?_⟩
    obtain ⟨u, _, rfl⟩ := List.mem_map.1 hr
    unfold Bd1
    rw [toL_length]
    exact hn
  · rw [h.bad h0]
    exact ⟨by simp, by simp⟩
theorem TW.wider {lo lo' hi : Nat} {W : World} {u : Value} {R : List (List Int)} (h : TW lo hi W u R) (hl : lo' ≤ lo) : TW lo' hi W u R := by
  rcases h with h | ⟨g, r, c, Z, h1, h2, h3, h4, h5, h6, h7⟩
  · exact Or.inl h
  · exact Or.inr ⟨g, r, c, Z, by omega, h2, h3, h4, h5, h6, h7⟩
end Go.Proofs.Ytlopenephgabhaa

namespace Go.Proofs.Ytlopenephgabhaa
open Go.RowKit

end Go.Proofs.Ytlopenephgabhaa

namespace Go.Proofs.Ytlopenephgabhaa
open Go.RowKit

/-- append of no elements. -/
theorem run_append_none' {P : Program} (w : World) (t ty e : TypeId) (i : TypeInfo) (ht : P.underlying t = some (.slice e)) (hi : P.info? e = some i) {base size n : Nat} {v : Value} {xs : List Value} (hown : w.ownsRow base e size v n xs) (ad : Option Addr) (cap : Nat) :
    (Builtin.append_ #[t, t] ty #[v, .slice ad 0 cap]).run P w = .ok v w := by
  cases ad with
  | none =>
    rcases hown.2 with ⟨rfl, rfl⟩ | ⟨g, cap, cur, rfl, _, _, hnc, _⟩
    · simp [Builtin.append_, run_underlying ht, sizeOf, typeInfo, hi, Builtin.lenOf, Builtin.firstCells]
    · simp [Builtin.append_, run_underlying ht, sizeOf, typeInfo, hi, Builtin.lenOf, Builtin.firstCells, hnc, storeCells]
  | some a =>
    have hl := run_loadCells_list (P := P) w a [] (by simp)
    simp at hl
    rcases hown.2 with ⟨rfl, rfl⟩ | ⟨g, cap, cur, rfl, _, _, hnc, _⟩
    · simp [Builtin.append_, run_underlying ht, sizeOf, typeInfo, hi, Builtin.lenOf, Builtin.firstCells, hl]
    · simp [Builtin.append_, run_underlying ht, sizeOf, typeInfo, hi, Builtin.lenOf, Builtin.firstCells, hnc, storeCells, hl]

end Go.Proofs.Ytlopenephgabhaa

namespace Go.Proofs.Ytlopenephgabhaa
open Go.RowKit

/-- The rows' values of a table. -/
structure RowsAt (w : World) (v : Value) (tb : List (List Int)) (vs : List Value) : Prop where
  len : vs.length = tb.length
  row : ∀ k (h1 : k < vs.length) (h2 : k < tb.length), L1 0 w vs[k] tb[k]
  one : ∀ u ∈ vs, u.oneCell' = true
  at' : ∃ ad cap, v = .slice ad tb.length cap ∧ (0 < tb.length → ∃ a, ad = some a ∧ ∀ j u, vs[j]? = some u → w.cell? (a.add j) = some u)
theorem RowsAt.below {w w' : World} {v : Value} {tb : List (List Int)} {vs : List Value} (h : RowsAt w v tb vs) (hb : Below w.heap.size w w') : RowsAt w' v tb vs := by
  obtain ⟨ad, cap, hv, hc⟩ := h.at'
  refine ⟨h.len, fun k h1 h2 => (h.row k h1 h2).below hb, h.one, ad, cap, hv, fun h0 => ?_⟩
  obtain ⟨a, ha, hc⟩ := hc h0
  exact ⟨a, ha, fun j u hj => by rw [hb.cell (World.block_lt_of_cell? _ _ (hc j u hj)), hc j u hj]⟩
end Go.Proofs.Ytlopenephgabhaa


namespace Go.Proofs.Ytlopenephgabhaa
open Go.RowKit

open Classical in
/-- The code of two complexes. -/
noncomputable def endCode (p p2 : Int) (ds : List Int) (ms : List (List (List Int))) (ds2 : List Int) (ms2 : List (List (List Int))) : Int :=
  if ¬ (IsCx p ds ms ∧ IsCx p2 ds2 ms2) then 1 else if p = p2 ∧ ds.length = ds2.length then 0 else 2
structure EndOk (p p2 : Int) (ds : List Int) (ms : List (List (List Int))) (ds2 : List Int) (ms2 : List (List (List Int))) : Prop where
  x : IsCx p ds ms
  y : IsCx p2 ds2 ms2
  prime : p = p2
  len : ds.length = ds2.length
theorem EndOk.code {p p2 : Int} {ds : List Int} {ms : List (List (List Int))} {ds2 : List Int} {ms2 : List (List (List Int))} (h : EndOk p p2 ds ms ds2 ms2) : endCode p p2 ds ms ds2 ms2 = 0 := by
  unfold endCode
  rw [if_neg (fun k => k ⟨h.x, h.y⟩), if_pos ⟨h.prime, h.len⟩]
/-- The cells of two complexes in a row. -/
structure Row2 (w : World) (b : Nat) (p p2 : Int) (dv mv dv2 mv2 : Value) : Prop where
  c0 : w.cell? ⟨b, 0, none⟩ = some (.int .i64 p)
  c1 : w.cell? ⟨b, 1, none⟩ = some dv
  c2 : w.cell? ⟨b, 2, none⟩ = some mv
  d0 : w.cell? ⟨b, 3, none⟩ = some (.int .i64 p2)
  d1 : w.cell? ⟨b, 4, none⟩ = some dv2
  d2 : w.cell? ⟨b, 5, none⟩ = some mv2
theorem Row2.next {w w' : World} {b : Nat} {p p2 : Int} {dv mv dv2 mv2 : Value} (h : Row2 w b p p2 dv mv dv2 mv2) (hb : Below w.heap.size w w') : Row2 w' b p p2 dv mv dv2 mv2 :=
  ⟨later hb (Nat.le_refl _) h.c0, later hb (Nat.le_refl _) h.c1, later hb (Nat.le_refl _) h.c2, later hb (Nat.le_refl _) h.d0, later hb (Nat.le_refl _) h.d1, later hb (Nat.le_refl _) h.d2⟩

open Classical in
/-- The code of two complexes with the same prime. -/
noncomputable def prCode (p p2 : Int) (ds : List Int) (ms : List (List (List Int))) (ds2 : List Int) (ms2 : List (List (List Int))) : Int :=
  if ¬ (IsCx p ds ms ∧ IsCx p2 ds2 ms2) then 1 else if p = p2 then 0 else 2
structure PrOk (p p2 : Int) (ds : List Int) (ms : List (List (List Int))) (ds2 : List Int) (ms2 : List (List (List Int))) : Prop where
  x : IsCx p ds ms
  y : IsCx p2 ds2 ms2
  prime : p = p2
theorem PrOk.code {p p2 : Int} {ds : List Int} {ms : List (List (List Int))} {ds2 : List Int} {ms2 : List (List (List Int))} (h : PrOk p p2 ds ms ds2 ms2) : prCode p p2 ds ms ds2 ms2 = 0 := by
  unfold prCode
  rw [if_neg (fun k => k ⟨h.x, h.y⟩), if_pos h.prime]
/-- The cells of a box of a complex, whatever stood there when it was made. -/
structure Bq (wr : World) (b : Nat) (p : Int) (dv mv : Value) (ds : List Int) (ms : List (List (List Int))) : Prop where
  c0 : wr.cell? ⟨b, 0, none⟩ = some (.int .i64 p)
  c1 : wr.cell? ⟨b, 1, none⟩ = some dv
  c2 : wr.cell? ⟨b, 2, none⟩ = some mv
  lt : b < wr.heap.size
  cx : Cx 0 wr dv mv ds ms
theorem Bq.next {wr w' : World} {b : Nat} {p : Int} {dv mv : Value} {ds : List Int} {ms : List (List (List Int))} (h : Bq wr b p dv mv ds ms) (hb : Below wr.heap.size wr w') : Bq w' b p dv mv ds ms :=
  ⟨later hb (Nat.le_refl _) h.c0, later hb (Nat.le_refl _) h.c1, later hb (Nat.le_refl _) h.c2, Nat.lt_of_lt_of_le h.lt hb.size, h.cx.below hb⟩
theorem Bq.only {wr w' : World} {b lo hi : Nat} {p : Int} {dv mv : Value} {ds : List Int} {ms : List (List (List Int))} (h : Bq wr b p dv mv ds ms) (ho : Only lo hi wr w') (hc : Cx 0 w' dv mv ds ms) (hb : b < lo ∨ hi ≤ b) : Bq w' b p dv mv ds ms :=
  ⟨(ho.cell hb).trans h.c0, (ho.cell hb).trans h.c1, (ho.cell hb).trans h.c2, by have := ho.size; have := h.lt; omega, hc⟩
end Go.Proofs.Ytlopenephgabhaa


namespace Go.Proofs.Ytlopenephgabhaa
open Go.RowKit

open Classical in
/-- The code of a complex and a degree. -/
noncomputable def cxCode (p : Int) (ds : List Int) (ms : List (List (List Int))) (n : Int) : Int := if IsCx p ds ms then (if 0 ≤ n ∧ n ≤ (ds.length : Int) - 1 then 0 else 2) else 1
theorem cxCode_zero {p : Int} {ds : List Int} {ms : List (List (List Int))} {n : Int} (h : cxCode p ds ms n = 0) : IsCx p ds ms ∧ 0 ≤ n ∧ n ≤ (ds.length : Int) - 1 := by
  unfold cxCode at h
  by_cases a : IsCx p ds ms
  · rw [if_pos a] at h
    by_cases b : 0 ≤ n ∧ n ≤ (ds.length : Int) - 1
    · exact ⟨a, b⟩
    · rw [if_neg b] at h; exact absurd h (by decide)
  · rw [if_neg a] at h; exact absurd h (by decide)
/-- The dimension of a degree. -/
def dimN (ds : List Int) (n : Int) : Nat := (ds.getD n.toNat 0).toNat

/-- What a function on a complex and a degree answers as a list of vectors. -/
def SpF (p : Int) (n : Nat) (S : Lin.V → Prop) (R : List Lin.V) : Prop := Lin.Red p R ∧ (∀ u ∈ R, Lin.Wd n u) ∧ (∀ v, Lin.Sp p R v ↔ S v)
theorem SpF.short {p : Int} {n : Nat} {S : Lin.V → Prop} {R : List Lin.V} (h : SpF p n S R) : R.length ≤ n := red_length h.1 h.2.1

end Go.Proofs.Ytlopenephgabhaa

namespace Go.Proofs.Ytlopenephgabhaa
open Go.RowKit

/-- The table from the degree k + 1 to k, none beyond the degrees. -/
def tabN (ms : List (List (List Int))) (k : Nat) : List (List Int) := ms.getD k []
end Go.Proofs.Ytlopenephgabhaa

namespace Go.Proofs.Ytlopenephgabhaa
open Go.RowKit

theorem Gs.lt {base : Nat} {w : World} {v : Value} {tb : List (List Int)} (h : Gs base w v tb) : ∀ k, v.ownBlock = some k → base ≤ k ∧ k < w.heap.size := by
  obtain ⟨vs, ho, _⟩ := h
  exact World.ownsRow.lt ho
theorem Gs.row {base : Nat} {w : World} {u : Value} {tb : List (List Int)} (h : Gs base w u tb) {k : Nat} (hk : k < tb.length) (hpos : 0 < (tb[k]).length) :
    ∃ b c, u = .slice (some ⟨b, 0, none⟩) tb.length c ∧ ∃ g cap, w.cell? ⟨b, k, none⟩ = some (.slice (some ⟨g, 0, none⟩) (tb[k]).length cap) ∧ (tb[k]).length ≤ cap ∧ G1 w (.slice (some ⟨g, 0, none⟩) (tb[k]).length cap) tb[k] := by
  obtain ⟨vs, ho, hr⟩ := h
  obtain ⟨b, c, rfl, _, _⟩ := World.ownsRow.form ho (by omega)
  have hvl : vs.length = tb.length := by have := ho.1; omega
  have hg := hr k (by omega) hk
  obtain ⟨g, cap, hv, _, _⟩ := World.ownsRow.form hg hpos
  refine ⟨b, c, rfl, g, cap, ?_, ?_, by rw [← hv]; exact hg⟩
  · rw [World.ownsRow.cellAt ho k (by omega), List.getElem?_eq_getElem (by omega), hv]
  · rw [hv] at hg
    rcases hg.2 with ⟨h0, _⟩ | ⟨g', cap', cur, h0, _, _, hnc, _⟩
    · cases h0
    · injection h0 with _ _ e3
      omega
/-- The vectors of n numbers that all columns of a table annihilate. -/
def CycS (p : Int) (n m : Nat) (t : List (List Int)) (v : Lin.V) : Prop := Lin.Md p v ∧ Lin.Wd n v ∧ ∀ j, j < m → Lin.dot n (Lin.col (fun i => ofL (t.getD i [])) j) v % p = 0
end Go.Proofs.Ytlopenephgabhaa

namespace Go.Proofs.Ytlopenephgabhaa
open Go.RowKit

section
variable {md : Region.Mode} {ops : Array Oper} {Q : Exit → Act → World → Prop} {S : World → Prop}
end

/-- The solutions gathered from the places before f. -/
structure Sols (p : Int) (R : List Lin.V) (f : Nat) (L : List Lin.V) : Prop where
  all : ∀ g, g < f → Lin.Free R g → ∃ s ∈ L, Lin.Sol p R g s
  only : ∀ s ∈ L, ∃ g, g < f ∧ Lin.Free R g ∧ Lin.Sol p R g s
  len : L.length ≤ f
theorem Sols.nil (p : Int) (R : List Lin.V) : Sols p R 0 [] := ⟨fun g h => absurd h (Nat.not_lt_zero _), by simp, by simp⟩
theorem Sols.add {p : Int} {R : List Lin.V} {f : Nat} {L : List Lin.V} (h : Sols p R f L) (hf : Lin.Free R f) {s : Lin.V} (hs : Lin.Sol p R f s) : Sols p R (f + 1) (L ++ [s]) :=
  ⟨fun g hg hfr => by
    by_cases e : g = f
    · subst e; exact ⟨s, by simp, hs⟩
    · obtain ⟨t, ht, h2⟩ := h.all g (by omega) hfr
      exact ⟨t, by simp [ht], h2⟩, fun t ht => by
    rcases List.mem_append.1 ht with h1 | h1
    · obtain ⟨g, h2, h3⟩ := h.only t h1; exact ⟨g, by omega, h3⟩
    · rw [List.mem_singleton.1 h1]; exact ⟨f, by omega, hf, hs⟩, by have := h.len; simp; omega⟩
/-- A solution while it is made: k rows have been seen. -/
structure SolTo (p : Int) (R : List Lin.V) (f k : Nat) (s : Lin.V) : Prop where
  at1 : s f = 1
  lead : ∀ w ∈ R.take k, s (Lin.ld w) = (p - w f) % p
  rest : ∀ i, i ≠ f → (∀ w ∈ R.take k, Lin.ld w ≠ i) → s i = 0
theorem SolTo.step {p : Int} {R : List Lin.V} {f k : Nat} {s : Lin.V} (hR : Lin.Red p R) (hf : Lin.Free R f) (h : SolTo p R f k s) (hk : k < R.length) : SolTo p R f (k + 1) (fun i => if i = Lin.ld R[k] then (p - R[k] f) % p else s i) := by
  have hne : ∀ w ∈ R.take k, Lin.ld w ≠ Lin.ld R[k] := fun w hw e => by
    obtain ⟨j, hj, rfl⟩ := List.getElem_of_mem hw
    have hjk : j < k := by simp at hj; omega
    have := List.pairwise_iff_getElem.1 hR.inc j k (by omega) hk hjk
    rw [List.getElem_take] at e
    omega
  refine ⟨?_, fun w hw => ?_, fun i hi hn => ?_⟩
  · rw [if_neg (fun e => hf _ (List.getElem_mem hk) e.symm)]
    exact h.at1
  · rw [List.take_succ_eq_append_getElem hk] at hw
    rcases List.mem_append.1 hw with h1 | h1
    · rw [if_neg (hne w h1)]
      exact h.lead w h1
    · rw [List.mem_singleton.1 h1, if_pos rfl]
  · have hn2 := hn R[k] (by rw [List.take_succ_eq_append_getElem hk]; exact List.mem_append_right _ (List.mem_singleton.2 rfl))
    rw [if_neg (fun e => hn2 e.symm)]
    exact h.rest i hi (fun w hw => hn w (by rw [List.take_succ_eq_append_getElem hk]; exact List.mem_append_left _ hw))
theorem SolTo.done {p : Int} {R : List Lin.V} {f : Nat} {s : Lin.V} (h : SolTo p R f R.length s) : Lin.Sol p R f s := by
  have e : R.take R.length = R := List.take_of_length_le (Nat.le_refl _)
  exact ⟨h.at1, fun w hw => h.lead w (by rw [e]; exact hw), fun i hi hn => h.rest i hi (fun w hw => hn w (by rw [e] at hw; exact hw))⟩

end Go.Proofs.Ytlopenephgabhaa

namespace Go.Proofs.Ytlopenephgabhaa
open Go.RowKit

/-- The table whose columns the cycles of a degree annihilate, and its width. -/
def cycT (ds : List Int) (ms : List (List (List Int))) (q : Nat) : List (List Int) := mapZ ds ms (q : Int)
def cycM (ds : List Int) (q : Nat) : Nat := if q = 0 then 0 else dimN ds ((q - 1 : Nat) : Int)
theorem dimN_le8 {p : Int} {ds : List Int} {ms : List (List (List Int))} (h : IsCx p ds ms) (q : Nat) : dimN ds (q : Int) ≤ 8 ∧ ds.getD q 0 = (dimN ds (q : Int) : Int) := by
  have := h.1.dim q
  unfold dimN
  rw [Int.toNat_natCast]
  omega
theorem SpF.congr {p : Int} {n : Nat} {S S' : Lin.V → Prop} {R : List Lin.V} (h : SpF p n S R) (e : ∀ v, S v ↔ S' v) : SpF p n S' R := ⟨h.1, h.2.1, fun v => (h.2.2 v).trans (e v)⟩
end Go.Proofs.Ytlopenephgabhaa


namespace Go.Proofs.Ytlopenephgabhaa
open Go.RowKit

/-- The slice u holds tables, in a row of its own. -/
def Gt (base : Nat) (w : World) (u : Value) (ts : List (List (List Int))) : Prop := ∃ vs, w.ownsRow base 22 1 u ts.length vs ∧ ∀ k (h1 : k < vs.length) (h2 : k < ts.length), Gs 0 w vs[k] ts[k]
theorem Gt.below {base : Nat} {w w' : World} {u : Value} {ts : List (List (List Int))} (h : Gt base w u ts) (hb : Below w.heap.size w w') : Gt base w' u ts := by
  obtain ⟨vs, ho, hr⟩ := h
  exact ⟨vs, owns_below ho hb, fun k h1 h2 => (hr k h1 h2).below hb⟩
theorem Gt.l3 {base : Nat} {w : World} {u : Value} {ts : List (List (List Int))} (h : Gt base w u ts) : L3 0 w u ts := by
  obtain ⟨vs, ho, hr⟩ := h
  exact sl_of_owns ho (Nat.zero_le _) rfl (fun k h1 h2 => (hr k h2 h1).l2)
theorem Gt.lt {base : Nat} {w : World} {v : Value} {ts : List (List (List Int))} (h : Gt base w v ts) : ∀ k, v.ownBlock = some k → base ≤ k ∧ k < w.heap.size := by
  obtain ⟨vs, ho, _⟩ := h
  exact World.ownsRow.lt ho
theorem Gt.new {base : Nat} (w : World) (hb : base ≤ w.heap.size) : Gt base (w.alloc (.cells #[] 22)) (.slice (some ⟨w.heap.size, 0, none⟩) 0 0) [] :=
  ⟨[], by simpa using World.ownsRow_made (base := base) (e := 22) (size := 1) w #[] 0 hb (by unfold maxLen; omega) (by simp), fun k h1 _ => absurd h1 (Nat.not_lt_zero _)⟩
theorem Gs.new {base : Nat} (w : World) (hb : base ≤ w.heap.size) : Gs base (w.alloc (.cells #[] 35)) (.slice (some ⟨w.heap.size, 0, none⟩) 0 0) [] :=
  ⟨[], by simpa using World.ownsRow_made (base := base) (e := 35) (size := 1) w #[] 0 hb (by unfold maxLen; omega) (by simp), fun k h1 _ => absurd h1 (Nat.not_lt_zero _)⟩
theorem Gb.new {base : Nat} (w : World) (hb : base ≤ w.heap.size) : Gb base (w.alloc (.cells #[] 2)) (.slice (some ⟨w.heap.size, 0, none⟩) 0 0) [] := by
  have := World.ownsRow_made (base := base) (e := 2) (size := 1) w #[] 0 hb (by unfold maxLen; omega) (by simp)
  simpa [Gb] using this
theorem Gs.grown {w w3 : World} {base base' n : Nat} {u v : Value} {t : List (List Int)} {vs : List Value} (h : Gs base' w u t) (ho : w.ownsRow base 22 1 v n vs) (hg : w.grownBy w3 v.ownBlock) : Gs base' w3 u t := by
  obtain ⟨us, hu, hr⟩ := h
  exact ⟨us, owns_grown hu ho (by decide) hg, fun k h1 h2 => owns_grown (hr k h1 h2) ho (by decide) hg⟩
theorem Gt.push {base : Nat} {w w3 : World} {v v' row : Value} {ts : List (List (List Int))} {vs : List Value} {x : List (List Int)} (ho : w.ownsRow base 22 1 v ts.length vs) (hr : ∀ k (h1 : k < vs.length) (h2 : k < ts.length), Gs 0 w vs[k] ts[k]) (hx : Gs 0 w row x)
    (ho3 : w3.ownsRow base 22 1 v' (ts.length + 1) (vs ++ [row])) (hg : w.grownBy w3 v.ownBlock) : Gt base w3 v' (ts ++ [x]) := by
  have hvl : vs.length = ts.length := by have := ho.1; omega
  refine ⟨vs ++ [row], by simpa using ho3, fun k h1 h2 => ?_⟩
  by_cases e : k < vs.length
  · rw [List.getElem_append_left e, List.getElem_append_left (by omega)]
    exact (hr k e (by omega)).grown ho hg
  · have e2 : k = vs.length := by simp at h1; omega
    subst e2
    rw [List.getElem_append_right (by omega), List.getElem_append_right (by omega)]
    simp only [hvl, Nat.sub_self, List.getElem_cons_zero]
    exact hx.grown ho hg
section
variable {ops : Array Oper} {rest : List Oper} {Q : Exit → Act → World → Prop}
end
end Go.Proofs.Ytlopenephgabhaa


namespace Go.Proofs.Ytlopenephgabhaa
open Go.RowKit

theorem Fill3.parts {wr : World} {g n : Nat} {f : Nat → Value} {b : Nat → Nat} {ts : List (List (List Int))} (h : Fill3 wr g n n f b ts) (hn : n = ts.length) (hs : n ≤ 1048576) : W3 g wr.heap.size wr (.slice (some ⟨g, 0, none⟩) n n) ts ∧ ∃ J, S3 g wr.heap.size wr (.slice (some ⟨g, 0, none⟩) n n) J ∧ Nums (b 0) wr.heap.size wr J ∧ Disj J ∧ ivSize J ≤ 1152921504606846976 := by
  have hlt := h.row.lt
  have h1 : ∀ j, j < n → Rw2 g wr.heap.size wr (f j) (ts.getD j []) := fun j hj => by
    rw [getD_of_lt _ (by omega)]
    have a1 := inc_le h.inc (j + 1) hj
    have a2 := inc_le (b := b) (k := j) (fun i hi => h.inc i (by omega)) 0 (Nat.zero_le _)
    have a3 := h.lo
    exact (h.at' j (by omega) hj).wider (by omega) (Nat.le_trans a1 h.hi)
  refine ⟨?_, ?_⟩
  · by_cases h0 : n = 0
    · exact Or.inl ⟨List.eq_nil_of_length_eq_zero (by omega), _, _, by rw [h0]⟩
    · refine Or.inr ⟨g, 0, n, by rw [hn], Nat.le_refl _, hlt, by omega, fun k hk => ?_, fun k _ => h.row.frozen _⟩
      refine ⟨f k, by rw [Nat.zero_add]; exact h.row.cell (by omega), ?_⟩
      have := (h1 k (by omega)).1
      rwa [getD_of_lt _ hk] at this
  · have hex : ∀ j, j < n → ∃ I, S2 (b j) (b (j + 1)) wr (f j) I ∧ Nums (b j) (b (j + 1)) wr I ∧ Disj I ∧ ivSize I ≤ 1099511627776 := fun j hj => (h.at' j (by omega) hj).2
    obtain ⟨J, hJ⟩ := choose2 hex
    have hw : ∀ j, j < n → g ≤ b j ∧ b (j + 1) ≤ wr.heap.size := fun j hj => by
      have a1 := inc_le h.inc (j + 1) hj
      have a2 := inc_le (b := b) (k := j) (fun i hi => h.inc i (by omega)) 0 (Nat.zero_le _)
      have a3 := h.lo
      have a4 := h.hi
      omega
    refine ⟨flat J n, ⟨some ⟨g, 0, none⟩, n, n, f, J, rfl, hs, rfl, fun j hj => (hJ j hj).1.wider (hw j hj).1 (hw j hj).2, fun _ => ⟨g, 0, rfl, Nat.le_refl _, hlt, fun j hj => by rw [Nat.zero_add]; exact h.row.cell hj⟩⟩, nums_flat (fun j hj => (hJ j hj).2.1.wider (inc_le (b := b) (k := j) (fun i hi => h.inc i (by omega)) 0 (Nat.zero_le _)) (hw j hj).2), (disj_spans h.inc (fun j hj x hx => ⟨((hJ j hj).2.1 x hx).1, ((hJ j hj).2.1 x hx).2.1⟩) (fun j hj => (hJ j hj).2.2.1)).1, ?_⟩
    have h2 := size_spans (J := J) (n := n) (B := 1099511627776) (fun j hj => (hJ j hj).2.2.2)
    have h3 : 1099511627776 * n ≤ 1099511627776 * 1048576 := Nat.mul_le_mul (Nat.le_refl _) hs
    omega


/-- A complex that a function answers: numbers in blocks from lo up to hi, apart from each other. -/
def RcW (lo hi : Nat) (W : World) (dv mv : Value) (ds : List Int) (ms : List (List (List Int))) : Prop :=
  CxW lo hi W dv mv ds ms ∧ ∃ I J, S1 lo hi W dv I ∧ S3 lo hi W mv J ∧ Nums lo hi W I ∧ Nums lo hi W J ∧ Disj J ∧ (∀ x ∈ I, ∀ y ∈ J, Apart x y) ∧ ivSize I ≤ 1048576 ∧ ivSize J ≤ 1152921504606846976
theorem RcW.same {lo hi : Nat} {W W' : World} {dv mv : Value} {ds : List Int} {ms : List (List (List Int))} (h : RcW lo hi W dv mv ds ms) (s : Same lo hi W W') : RcW lo hi W' dv mv ds ms := by
  obtain ⟨h0, I, J, h1, h2, h3, h4, h5⟩ := h
  exact ⟨h0.same s, I, J, h1, h2.same s, h3.same s, h4.same s, h5⟩
theorem RcW.cx {lo hi : Nat} {W : World} {dv mv : Value} {ds : List Int} {ms : List (List (List Int))} (h : RcW lo hi W dv mv ds ms) : Cx 0 W dv mv ds ms := h.1.cx.lower (Nat.zero_le _)
theorem RcW.wider {lo hi lo' hi' : Nat} {W : World} {dv mv : Value} {ds : List Int} {ms : List (List (List Int))} (h : RcW lo hi W dv mv ds ms) (h1 : lo' ≤ lo) (h2 : hi ≤ hi') : RcW lo' hi' W dv mv ds ms := by
  obtain ⟨h0, I, J, a, b, c, d, e⟩ := h
  exact ⟨⟨h0.dims.wider h1 h2, h0.maps.wider h1 h2⟩, I, J, a.wider h1 h2, b.wider h1 h2, c.wider h1 h2, d.wider h1 h2, e⟩
theorem RcW.nil (lo hi : Nat) (W : World) : RcW lo hi W (.slice none 0 0) (.slice none 0 0) [] [] :=
  ⟨⟨Or.inl ⟨rfl, _, _, rfl⟩, Or.inl ⟨rfl, _, _, rfl⟩⟩, [], [], Or.inl ⟨rfl, _, _, rfl⟩, ⟨none, 0, 0, fun _ => .slice none 0 0, fun _ => [], rfl, by omega, rfl, fun _ h => absurd h (Nat.not_lt_zero _), fun h => absurd h (Nat.lt_irrefl _)⟩, fun _ h => absurd h (by simp), fun _ h => absurd h (by simp), List.Pairwise.nil, fun _ h => absurd h (by simp), by simp [ivSize], by simp [ivSize]⟩
/-- Prime, dimensions and tables of a complex. -/
abbrev Co := Int × List Int × List (List (List Int))
def RwC (lo hi : Nat) (W : World) (u : Value) (o : Co) : Prop := ∃ ad cd am cm, u = .agg #[.int .i64 o.1, .slice ad o.2.1.length cd, .slice am o.2.2.length cm] ∧ RcW lo hi W (.slice ad o.2.1.length cd) (.slice am o.2.2.length cm) o.2.1 o.2.2
def RsC (W : World) (u : Value) (o : Co) : Prop := ∃ ad cd am cm, u = .agg #[.int .i64 o.1, .slice ad o.2.1.length cd, .slice am o.2.2.length cm] ∧ Cx 0 W (.slice ad o.2.1.length cd) (.slice am o.2.2.length cm) o.2.1 o.2.2
theorem RwC.nil (lo hi : Nat) (W : World) : RwC lo hi W (.agg #[.int .i64 0, .slice none 0 0, .slice none 0 0]) (0, [], []) := ⟨none, 0, none, 0, rfl, RcW.nil _ _ _⟩
theorem RsC.nil (W : World) : RsC W (.agg #[.int .i64 0, .slice none 0 0, .slice none 0 0]) (0, [], []) := ⟨none, 0, none, 0, rfl, ⟨Or.inl ⟨rfl, _, _, rfl⟩, Or.inl ⟨rfl, _, _, rfl⟩⟩⟩
/-- What a law asks of a complex that it compares. -/
def CoB (o : Co) : Prop := o.2.1.length ≤ 1048576 ∧ Bd3 1048576 o.2.2

/-- The same with the marks from 1 on in it. -/
def HcW (lo hi : Nat) (W : World) (dv mv : Value) (m : Int) : Prop :=
  ∃ I J, S1 lo hi W dv I ∧ S3 lo hi W mv J ∧ Marked W I 1 ∧ Marked W J (1 + (ivSize I : Int)) ∧ (∀ x ∈ I, lo ≤ x.1 ∧ x.1 < hi) ∧ (∀ x ∈ J, lo ≤ x.1 ∧ x.1 < hi) ∧ m = 1 + (ivSize I : Int) + (ivSize J : Int) ∧ ivSize I ≤ 1048576 ∧ ivSize J ≤ 1152921504606846976
theorem HcW.same {lo hi : Nat} {W W' : World} {dv mv : Value} {m : Int} (h : HcW lo hi W dv mv m) (s : Same lo hi W W') : HcW lo hi W' dv mv m := by
  obtain ⟨I, J, h1, h2, h3, h4, h5, h6, h7⟩ := h
  exact ⟨I, J, h1, h2.same s, h3.same h5 s, h4.same h6 s, h5, h6, h7⟩
/-- What the mark of a result leaves. -/
def MkRC (lo hi : Nat) (dv mv : Value) (w : World) (e : Ending) (w' : World) : Prop := ∃ (m : Int) (w1 : World), e = .returned (.int .i64 m) ∧ 1 ≤ m ∧ m ≤ 4611686018427387904 ∧ Below w.heap.size w w1 ∧ Only lo hi w1 w' ∧ HcW lo hi w' dv mv m

set_option maxHeartbeats 800000 in
theorem markRC_any {lo hi : Nat} (p : Int) (dv mv : Value) (ds : List Int) (ms : List (List (List Int))) (w : World) (h : RcW lo hi w dv mv ds ms) (hh : hi ≤ w.heap.size) :
    Calls Try.prog 22 #[.agg #[.int .i64 p, dv, mv], .int .i64 1] w (MkRC lo hi dv mv w) := by
  obtain ⟨_, I, J, h1, h2, h3, h4, h5, h6, h7, h8⟩ := h
  have hb0 : Below w.heap.size w (w.alloc (.cells #[.int .i64 p, dv, mv] 38)) := (Below.refl _ _).alloc (Nat.le_refl _) _
  have s : Same lo hi w (w.alloc (.cells #[.int .i64 p, dv, mv] 38)) := Same.of_below hb0 hh
  have HB0 := Lib.hid hb0
  have H1 := Lib.hid (show S1 lo hi (w.alloc (.cells #[.int .i64 p, dv, mv] 38)) dv I from h1)
  have H2 := Lib.hid (h2.same s)
  have H3 := Lib.hid (h3.same s)
  have H4 := Lib.hid (h4.same s)
  clear h1 h2 h3 h4 s hb0
  go_enter Try.func22, Try.ntmps22
  go_wp2_with fail
  refine (mark1s_any dv I 1 _ H1.out H3.out (by omega) (by omega)).mono ?_
  rintro e w1 ⟨rfl, ho, ht, hc, hm⟩
  have c2 : w1.cell? ⟨w.heap.size, 2, none⟩ = some mv := (ho.cell (Or.inr hh)).trans (by simp)
  have HO := Lib.hid (And.intro ho (And.intro ht hm))
  clear ho ht hc hm
  go_wp2_with fail
  refine (mark3s_any mv J (1 + (ivSize I : Int)) _ (H2.out.tame HO.out.2.1) (H4.out.tame HO.out.2.1) h5 (by omega) (by omega)).mono ?_
  rintro e w2 ⟨rfl, ho, ht, hc, hm⟩
  have HO2 := Lib.hid (And.intro (HO.out.1.trans ho) (And.intro ((H2.out.tame HO.out.2.1).tame ht) (And.intro (HO.out.2.2.keep hc h6) hm)))
  clear ho ht hc hm
  go_wp2
  go_ret
  exact ⟨_, _, rfl, by omega, by omega, HB0.out, HO2.out.1, I, J, H1.out, HO2.out.2.1, HO2.out.2.2.1, HO2.out.2.2.2, fun x hx => ⟨(H3.out x hx).1, (H3.out x hx).2.1⟩, fun x hx => ⟨(H4.out x hx).1, (H4.out x hx).2.1⟩, rfl, h7, h8⟩
set_option maxHeartbeats 800000 in
theorem heldRC_any {lo hi : Nat} (p : Int) (dv mv : Value) (m : Int) (w : World) (h : HcW lo hi w dv mv m) (hh : hi ≤ w.heap.size) :
    Calls Try.prog 23 #[.agg #[.int .i64 p, dv, mv], .int .i64 1] w (BR (.int .i64 m) w) := by
  obtain ⟨I, J, h1, h2, h3, h4, h5, h6, rfl, h7, h8⟩ := h
  have hb0 : Below w.heap.size w (w.alloc (.cells #[.int .i64 p, dv, mv] 38)) := (Below.refl _ _).alloc (Nat.le_refl _) _
  have s : Same lo hi w (w.alloc (.cells #[.int .i64 p, dv, mv] 38)) := Same.of_below hb0 hh
  have HB0 := Lib.hid hb0
  have H1 := Lib.hid (show S1 lo hi (w.alloc (.cells #[.int .i64 p, dv, mv] 38)) dv I from h1)
  have H2 := Lib.hid (h2.same s)
  have H3 := Lib.hid (h3.same h5 s)
  have H4 := Lib.hid (h4.same h6 s)
  have hn1 : ¬ (1 + (ivSize I : Int)) < 0 := by omega
  have hn2 : ¬ (1 + (ivSize I : Int) + (ivSize J : Int)) < 0 := by omega
  clear h1 h2 h3 h4 s hb0 h5 h6
  go_enter Try.func23, Try.ntmps23
  go_wp2_with fail
  refine (held1s_any dv I 1 _ H1.out H3.out (by omega) (by omega)).mono ?_
  rintro e w1 ⟨rfl, rfl⟩
  go_wp2_with fail
  refine (held3s_any mv J (1 + (ivSize I : Int)) _ H2.out H4.out (by omega) (by omega)).mono ?_
  rintro e w2 ⟨rfl, rfl⟩
  go_wp2
  go_ret
  exact ⟨rfl, HB0.out⟩

/-- The box of a complex, its three cells alone. -/
structure Bc (wr : World) (b : Nat) (p : Int) (dv mv : Value) : Prop where
  c0 : wr.cell? ⟨b, 0, none⟩ = some (.int .i64 p)
  c1 : wr.cell? ⟨b, 1, none⟩ = some dv
  c2 : wr.cell? ⟨b, 2, none⟩ = some mv
  lt : b < wr.heap.size
theorem Bc.next {wr w' : World} {b : Nat} {p : Int} {dv mv : Value} (h : Bc wr b p dv mv) (hb : Below wr.heap.size wr w') : Bc w' b p dv mv :=
  ⟨later hb (Nat.le_refl _) h.c0, later hb (Nat.le_refl _) h.c1, later hb (Nat.le_refl _) h.c2, Nat.lt_of_lt_of_le h.lt hb.size⟩
theorem Bc.only {wr w' : World} {b lo hi : Nat} {p : Int} {dv mv : Value} (h : Bc wr b p dv mv) (ho : Only lo hi wr w') (hb : b < lo ∨ hi ≤ b) : Bc w' b p dv mv :=
  ⟨(ho.cell hb).trans h.c0, (ho.cell hb).trans h.c1, (ho.cell hb).trans h.c2, by have := ho.size; have := h.lt; omega⟩

/-- A row of numbers in a block of its own. -/
theorem row_rc {W : World} {g n lo : Nat} {f : Nat → Value} {xs : List Int} (h : W.rowIs g 2 n f) (hl : xs.length = n) (hf : ∀ i (h : i < xs.length), f i = .int .i64 xs[i]) (hn : n ≤ 1048576) (hb : lo ≤ g) :
    W1 lo W.heap.size W (.slice (some ⟨g, 0, none⟩) n n) xs ∧ ∃ I, S1 lo W.heap.size W (.slice (some ⟨g, 0, none⟩) n n) I ∧ Nums lo W.heap.size W I ∧ (∀ x ∈ I, x.1 = g) ∧ ivSize I ≤ 1048576 := by
  have hlt := h.lt
  by_cases h0 : n = 0
  · subst h0
    exact ⟨Or.inl ⟨List.eq_nil_of_length_eq_zero hl, _, _, rfl⟩, [], Or.inl ⟨rfl, _, _, rfl⟩, fun _ hx => absurd hx (by simp), fun _ hx => absurd hx (by simp), by simp [ivSize]⟩
  · refine ⟨Or.inr ⟨g, 0, n, by rw [hl], hb, hlt, by omega, fun k hk => ⟨f k, by rw [Nat.zero_add]; exact h.cell (by omega), hf k hk⟩, fun k _ => h.frozen _⟩, [(g, 0, n)], Or.inr ⟨g, 0, n, n, rfl, by omega, hn, hb, hlt, rfl⟩, fun x hx => ?_, fun x hx => ?_, by simpa [ivSize] using hn⟩
    · obtain rfl : x = (g, 0, n) := by simpa using hx
      exact ⟨hb, hlt, fun i hi => ⟨⟨xs[i]'(by rw [hl]; exact hi), by rw [Nat.zero_add, ← hf i (by rw [hl]; exact hi)]; exact h.cell hi⟩, h.frozen _⟩⟩
    · obtain rfl : x = (g, 0, n) := by simpa using hx
      rfl
end Go.Proofs.Ytlopenephgabhaa


namespace Go.Proofs.Ytlopenephgabhaa
open Go.RowKit

/-- The three cells of a box of a complex. -/
def box3 (p : Int) (a b : Value) : Nat → Value := fun i => if i = 0 then .int .i64 p else if i = 1 then a else b
/-- The dual while it is being made: its box, its list of dimensions, its list of tables, each in a block of its own. -/
structure Du (w wx : World) (g bd bm n m : Nat) (p : Int) (D M : Nat → Value) : Prop where
  below : Below w.heap.size w wx
  lo : w.heap.size ≤ g ∧ w.heap.size ≤ bd ∧ w.heap.size ≤ bm
  ne : g ≠ bd ∧ g ≠ bm ∧ bd ≠ bm
  box : wx.rowIs g 38 3 (box3 p (.slice (some ⟨bd, 0, none⟩) n n) (.slice (some ⟨bm, 0, none⟩) m m))
  dims : wx.rowIs bd 2 n D
  maps : wx.rowIs bm 22 m M
theorem Du.setD {w wx : World} {g bd bm n m : Nat} {p : Int} {D M : Nat → Value} (h : Du w wx g bd bm n m p D M) (k : Nat) (v : Value) : Du w (wx.setCell ⟨bd, k, none⟩ v) g bd bm n m p (fun j => if j = k then v else D j) M :=
  ⟨h.below.setCell h.lo.2.1 _, h.lo, h.ne, h.box.setOther h.ne.1 _, h.dims.set k v, h.maps.setOther (Ne.symm h.ne.2.2) _⟩
theorem Du.next {w wx w' : World} {g bd bm n m : Nat} {p : Int} {D M : Nat → Value} (h : Du w wx g bd bm n m p D M) (hb : Below wx.heap.size wx w') : Du w w' g bd bm n m p D M :=
  ⟨h.below.trans (hb.mono h.below.size), h.lo, h.ne, h.box.of_block (hb.block _ h.box.lt), h.dims.of_block (hb.block _ h.dims.lt), h.maps.of_block (hb.block _ h.maps.lt)⟩
theorem Du.congr {w wx : World} {g bd bm n m : Nat} {p : Int} {D D' M : Nat → Value} (h : Du w wx g bd bm n m p D M) (e : ∀ j, j < n → D j = D' j) : Du w wx g bd bm n m p D' M := ⟨h.below, h.lo, h.ne, h.box, h.dims.congr e, h.maps⟩
/-- The list of dimensions, k of them laid. -/
def duD (ds : List Int) (k : Nat) : Nat → Value := fun j => .int .i64 (if j < k then ds.getD (ds.length - 1 - j) 0 else 0)
/-- A table at the block b: its row of rows there, row j at b + 1 + j. -/
structure TabAt (w : World) (b r c : Nat) (Z : Nat → Nat → Int) : Prop where
  top : w.rowIs b 35 r (fun j => .slice (some ⟨b + 1 + j, 0, none⟩) c c)
  rows : ∀ j, j < r → w.rowIs (b + 1 + j) 2 c (fun i => .int .i64 (Z j i))
theorem Mat.at {w w' : World} {r c : Nat} {Z : Nat → Nat → Int} (h : Mat w w' r c Z) : TabAt w' w.heap.size r c Z := ⟨h.top, h.rows⟩
theorem TabAt.below {w w' : World} {b r c : Nat} {Z : Nat → Nat → Int} (h : TabAt w b r c Z) (hb : Below w.heap.size w w') : TabAt w' b r c Z :=
  ⟨h.top.of_block (hb.block _ h.top.lt), fun j hj => (h.rows j hj).of_block (hb.block _ (h.rows j hj).lt)⟩
theorem TabAt.set {w : World} {b r c : Nat} {Z : Nat → Nat → Int} (h : TabAt w b r c Z) {a : Addr} (ha : a.block < b) (v : Value) : TabAt (w.setCell a v) b r c Z :=
  ⟨h.top.setOther (by omega) v, fun j hj => (h.rows j hj).setOther (by omega) v⟩
/-- The tables of the dual, k of them laid, one behind the other. -/
structure Ts (lo : Nat) (w : World) (bs r c : Nat → Nat) (Z : Nat → Nat → Nat → Int) (k : Nat) : Prop where
  at' : ∀ j, j < k → TabAt w (bs j) (r j) (c j) (Z j)
  lo' : ∀ j, j < k → lo ≤ bs j
  hi : ∀ j, j < k → bs j + 1 + r j ≤ w.heap.size
  inc : ∀ i j, i < j → j < k → bs i + 1 + r i ≤ bs j
def duR (ds : List Int) (m : Nat) (j : Nat) : Nat := (ds.getD (m - 1 - j) 0).toNat
def duC (ms : List (List (List Int))) (j : Nat) : Nat := (ms.getD (ms.length - 1 - j) []).length
def duZ (ms : List (List (List Int))) (j a b : Nat) : Int := ((ms.getD (ms.length - 1 - j) []).getD b []).getD a 0
def duM (bs r : Nat → Nat) (k : Nat) : Nat → Value := fun j => if j < k then .slice (some ⟨bs j, 0, none⟩) (r j) (r j) else .slice none 0 0
theorem Ts.step {lo k : Nat} {w w1 : World} {bs r c : Nat → Nat} {Z : Nat → Nat → Nat → Int} (h : Ts lo w bs r c Z k) (hm : Mat w w1 (r k) (c k) (Z k)) (hlo : lo ≤ w.heap.size) {a : Addr} (ha : a.block < lo) (v : Value) :
    Ts lo (w1.setCell a v) (fun j => if j = k then w.heap.size else bs j) r c Z (k + 1) := by
  refine ⟨fun j hj => ?_, fun j hj => ?_, fun j hj => ?_, fun i j hi hj => ?_⟩
  · by_cases e : j = k
    · subst e
      simp only [if_true]
      exact hm.at.set (by omega) v
    · simp only [if_neg e]
      have hj' : j < k := by omega
      have := h.lo' j hj'
      exact ((h.at' j hj').below hm.below).set (by omega) v
  · by_cases e : j = k
    · simp only [if_pos e]; exact hlo
    · simp only [if_neg e]; exact h.lo' j (by omega)
  · by_cases e : j = k
    · subst e
      simp [hm.size]
    · simp only [if_neg e]
      have := h.hi j (by omega)
      have := hm.below.size
      simp
      omega
  · by_cases e : j = k
    · subst e
      rw [if_neg (by omega), if_pos rfl]
      exact h.hi i hi
    · rw [if_neg (by omega), if_neg e]
      exact h.inc i j hi (by omega)
end Go.Proofs.Ytlopenephgabhaa


namespace Go.Proofs.Ytlopenephgabhaa
open Go.RowKit

theorem far {w : World} {b o b2 o2 : Nat} {u v : Value} (h : b ≠ b2) (hc : w.cell? ⟨b2, o2, none⟩ = some u) : (w.setCell ⟨b, o, none⟩ v).cell? ⟨b2, o2, none⟩ = some u := (World.cell?_setCell_far w _ _ v h).trans hc
/-- Three cells of a block. -/
def sel3 (x y z : Value) : Nat → Value := fun i => if i = 0 then x else if i = 1 then y else z
theorem rowIs3 {w : World} {b : Nat} {x y z : Value} {t : TypeId} (h : w.heap[b]? = some (.cells #[x, y, z] t)) : w.rowIs b t 3 (sel3 x y z) :=
  ⟨#[x, y, z], h, rfl, fun i hi => by
    match i, hi with
    | 0, _ => rfl
    | 1, _ => rfl
    | 2, _ => rfl⟩
theorem Ts.set {lo k : Nat} {w : World} {bs r c : Nat → Nat} {Z : Nat → Nat → Nat → Int} (h : Ts lo w bs r c Z k) {a : Addr} (ha : a.block < lo) (v : Value) : Ts lo (w.setCell a v) bs r c Z k :=
  ⟨fun j hj => (h.at' j hj).set (by have := h.lo' j hj; omega) v, h.lo', fun j hj => by have := h.hi j hj; simpa using this, h.inc⟩

/-- The dual as it lies behind the call: its dimensions, its tables' heads, its tables. -/
structure DuAt (w w' : World) (ds : List Int) (ms : List (List (List Int))) (bd bm : Nat) : Prop where
  below : Below w.heap.size w w'
  lo : w.heap.size ≤ bd ∧ w.heap.size ≤ bm ∧ bd ≠ bm
  dims : w'.rowIs bd 2 ds.length (duD ds ds.length)
  tabs : ∃ (lo : Nat) (bs : Nat → Nat), bd < lo ∧ bm < lo ∧ w'.rowIs bm 22 ms.length (duM bs (duR ds ms.length) ms.length) ∧ Ts lo w' bs (duR ds ms.length) (duC ms) (duZ ms) ms.length
theorem DuAt.set {w w' : World} {ds : List Int} {ms : List (List (List Int))} {bd bm : Nat} (h : DuAt w w' ds ms bd bm) {a : Addr} (h0 : w.heap.size ≤ a.block) (h1 : a.block < bd) (h2 : a.block < bm) (v : Value) : DuAt w (w'.setCell a v) ds ms bd bm := by
  obtain ⟨lo, bs, a1, a2, a3, a4⟩ := h.tabs
  exact ⟨h.below.setCell h0 _, h.lo, h.dims.setOther (by omega) _, lo, bs, a1, a2, a3.setOther (by omega) _, a4.set (by omega) _⟩

end Go.Proofs.Ytlopenephgabhaa


namespace Go.Proofs.Ytlopenephgabhaa
open Go.RowKit

section
variable {w w' : World} {base size n k : Nat} {e t : TypeId} {u v : Value} {xs : List Value} {g : Nat} {f : Nat → Value}
theorem own_ne_row (ho : w.ownsRow base e size v n xs) (hr : w.rowIs g t k f) (h : t ≠ e) : some g ≠ v.ownBlock := by
  intro e2
  obtain ⟨c, hc, _⟩ := hr
  rcases ho.2 with ⟨rfl, _⟩ | ⟨g2, cap2, cur2, rfl, _, hh2, _⟩
  · simp [Value.ownBlock] at e2
  · simp [Value.ownBlock] at e2
    subst e2
    rw [hc] at hh2
    simp at hh2
    exact h hh2.2
theorem row_grown (hr : w.rowIs g t k f) (ho : w.ownsRow base e size v n xs) (h : t ≠ e) (hg : w.grownBy w' v.ownBlock) : w'.rowIs g t k f := hr.of_block (hg.block g hr.lt (own_ne_row ho hr h))
theorem owns_off (ho : w.ownsRow base e size u n xs) (hr : w.rowIs g t k f) (h : t ≠ e) (i : Nat) (x : Value) : (w.setCell ⟨g, i, none⟩ x).ownsRow base e size u n xs := by
  obtain ⟨c, hc, _⟩ := hr
  refine ⟨ho.1, ?_⟩
  rcases ho.2 with h2 | ⟨g2, cap, cur, hu, hb, hh, r⟩
  · exact Or.inl h2
  · refine Or.inr ⟨g2, cap, cur, hu, hb, ?_, r⟩
    rw [Below.heap_setCell w _ x g2 (by
      intro e2
      have e3 : g2 = g := e2
      subst e3
      rw [hc] at hh
      simp at hh
      exact h hh.2)]
    exact hh
end
theorem G1.off {w : World} {g k : Nat} {t : TypeId} {f : Nat → Value} {u : Value} {xs : List Int} (h : G1 w u xs) (hr : w.rowIs g t k f) (ht : t ≠ 2) (i : Nat) (x : Value) : G1 (w.setCell ⟨g, i, none⟩ x) u xs := owns_off h hr ht i x
theorem Gb.off {base : Nat} {w : World} {g k : Nat} {t : TypeId} {f : Nat → Value} {u : Value} {xs : List Int} (h : Gb base w u xs) (hr : w.rowIs g t k f) (ht : t ≠ 2) (i : Nat) (x : Value) : Gb base (w.setCell ⟨g, i, none⟩ x) u xs := owns_off h hr ht i x
theorem Gs.off {base : Nat} {w : World} {g k : Nat} {t : TypeId} {f : Nat → Value} {u : Value} {xs : List (List Int)} (h : Gs base w u xs) (hr : w.rowIs g t k f) (ht : t ≠ 2 ∧ t ≠ 35) (i : Nat) (x : Value) : Gs base (w.setCell ⟨g, i, none⟩ x) u xs := by
  obtain ⟨vs, ho, h1⟩ := h
  exact ⟨vs, owns_off ho hr ht.2 i x, fun k a b => (h1 k a b).off hr ht.1 i x⟩
theorem Gt.off {base : Nat} {w : World} {g k : Nat} {t : TypeId} {f : Nat → Value} {u : Value} {xs : List (List (List Int))} (h : Gt base w u xs) (hr : w.rowIs g t k f) (ht : t ≠ 2 ∧ t ≠ 35 ∧ t ≠ 22) (i : Nat) (x : Value) : Gt base (w.setCell ⟨g, i, none⟩ x) u xs := by
  obtain ⟨vs, ho, h1⟩ := h
  exact ⟨vs, owns_off ho hr ht.2.2 i x, fun k a b => (h1 k a b).off hr ⟨ht.1, ht.2.1⟩ i x⟩
theorem coT : 38 ≠ 2 ∧ 38 ≠ 35 ∧ 38 ≠ 22 := by decide

section
variable {o : Oper} {a : Act} {w : World} {K : Act → World → Prop} {Q : Exit → Act → World → Prop}
theorem wp_appendB1 (dst : Option Tmp) (hdst : o.dst = dst) (s x : Operand) (ho : o.op = .call { callee := .builtin .append, args := #[s, x], argTypes := #[35, 35] }) (base : Nat) (v : Value) (xs : List Int) (hs : a.eval s = v) (hown : Gb base w v xs)
    (b : Nat) (hx : a.eval x = .slice (some ⟨b, 0, none⟩) 1 1) (z : Int) (hc : w.cell? ⟨b, 0, none⟩ = some (.int .i64 z)) (hl : xs.length ≤ 2097151) (hb : base ≤ w.heap.size)
    (h : ∀ g cap w', Gb base w' (.slice (some ⟨g, 0, none⟩) (xs.length + 1) cap) (xs ++ [z]) → w.grownBy w' v.ownBlock → K (a.put dst (.slice (some ⟨g, 0, none⟩) (xs.length + 1) cap)) w') : o.wp Try.prog a w K Q := by
  obtain ⟨i, hi, hz, hs1, hb1⟩ := info_parts Try.infoI
  subst hdst
  refine wp_append_lies w s x 35 ho base 2 i _ 1 8 Try.underlying35 hi hz hs1 hb1 rfl (by decide) v xs.length (xs.map (Value.int .i64)) hs hown ⟨b, 0, none⟩ 1 1 [.int .i64 z] hx rfl ?_ ?_ (by omega) (by unfold maxLen; omega) (by omega) hb _ rfl (fun g cap w' h1 h2 _ _ => h g cap w' (by simpa [Gb] using h1) h2)
  · intro j u hj
    match j, hj with
    | 0, hj =>
      simp at hj
      subst hj
      exact hc
  · intro u hu
    simp at hu
    subst hu
    rfl
theorem wp_appendT1 (dst : Option Tmp) (hdst : o.dst = dst) (s x : Operand) (ho : o.op = .call { callee := .builtin .append, args := #[s, x], argTypes := #[36, 36] }) (base : Nat) (v : Value) (ts : List (List (List Int))) (hs : a.eval s = v) (hown : Gt base w v ts)
    (b : Nat) (hx : a.eval x = .slice (some ⟨b, 0, none⟩) 1 1) (ar : Option Addr) (nr cr : Nat) (hc : w.cell? ⟨b, 0, none⟩ = some (.slice ar nr cr)) (y : List (List Int)) (hy : Gs 0 w (.slice ar nr cr) y) (hl : ts.length ≤ 2097151) (hb : base ≤ w.heap.size)
    (h : ∀ g cap w', Gt base w' (.slice (some ⟨g, 0, none⟩) (ts.length + 1) cap) (ts ++ [y]) → w.grownBy w' v.ownBlock → K (a.put dst (.slice (some ⟨g, 0, none⟩) (ts.length + 1) cap)) w') : o.wp Try.prog a w K Q := by
  obtain ⟨i, hi, hz, hs1, hb1⟩ := info_parts Try.infoSS
  obtain ⟨vs, hvo, hvr⟩ := hown
  subst hdst
  refine wp_append_lies w s x 36 ho base 22 i _ 1 24 Try.underlying36 hi hz hs1 hb1 rfl (by decide) v ts.length vs hs hvo ⟨b, 0, none⟩ 1 1 [.slice ar nr cr] hx rfl ?_ ?_ (by omega) (by unfold maxLen; omega) (by omega) hb _ rfl (fun g cap w' h1 h2 _ _ => h g cap w' (Gt.push hvo hvr hy h1 h2) h2)
  · intro j u hj
    match j, hj with
    | 0, hj =>
      simp at hj
      subst hj
      exact hc
  · intro u hu
    simp at hu
    subst hu
    rfl
end
section
variable {P : Program} {ops : Array Oper} {Q : Exit → Act → World → Prop} {md : Region.Mode} {S : World → Prop}
/-- An operation that makes memory, alone to come up. -/
theorem held_mem {i : Nat} {oi : Oper} {fuel : Nat} {listed : Array Bool} {a : Act} {w w' : World} {v : Value} (d : Option Tmp) (hr : Region.ready md ops listed = [i]) (hi : ops[i]? = some oi) (hg : oi.guard = none) (hd : oi.dst = d)
    (h : (execOp a.eval oi).run P w = .ok (.value v) w') (hS : S w') (hh : wpAnyH P md ops Q S fuel (listed.setIfInBounds i true) (a.put d v) w') : wpAnyH P md ops Q S (fuel + 1) listed a w := by
  subst hd
  refine held_call hr hi hg ?_
  unfold Oper.wp
  rw [h]
  exact ⟨hS, hh⟩
end

/-- A complex that the model gathers: its box at block g, its two lists. -/
structure Sd (w1 wr : World) (g : Nat) (p : Int) (v vm : Value) (xs : List Int) (ts : List (List (List Int))) : Prop where
  below : Below w1.heap.size w1 wr
  lo : w1.heap.size ≤ g
  box : wr.rowIs g 38 3 (sel3 (.int .i64 p) v vm)
  dims : Gb w1.heap.size wr v xs
  maps : Gt w1.heap.size wr vm ts
theorem Sd.next {w1 wr wa : World} {g : Nat} {p : Int} {v vm : Value} {xs : List Int} {ts : List (List (List Int))} (h : Sd w1 wr g p v vm xs ts) (hb : Below wr.heap.size wr wa) : Sd w1 wa g p v vm xs ts :=
  ⟨h.below.trans (hb.mono h.below.size), h.lo, h.box.of_block (hb.block _ h.box.lt), h.dims.below hb, h.maps.below hb⟩
end Go.Proofs.Ytlopenephgabhaa


namespace Go.Proofs.Ytlopenephgabhaa
open Go.RowKit
/-- Numbers, dimensions and tables. -/
abbrev WhO := List Int × List (List (List Int))
structure PtWh (lo hi : Nat) (W : World) (dv mv : Value) (Id Im : List Iv) : Prop where
  sd : S1 lo hi W dv Id
  nd : Nums lo hi W Id
  dd : Disj Id
  zd : ivSize Id ≤ 1048576
  sm : S3 lo hi W mv Im
  nm : Nums lo hi W Im
  dm : Disj Im
  zm : ivSize Im ≤ 1152921504606846976
  adm : ∀ x ∈ Id, ∀ y ∈ Im, Apart x y
theorem PtWh.same {lo hi : Nat} {W W' : World} {dv mv : Value} {Id Im : List Iv} (h : PtWh lo hi W dv mv Id Im) (s : Same lo hi W W') : PtWh lo hi W' dv mv Id Im :=
  ⟨h.sd, h.nd.same s, h.dd, h.zd, h.sm.same s, h.nm.same s, h.dm, h.zm, h.adm⟩
theorem PtWh.wider {lo hi lo' hi' : Nat} {W : World} {dv mv : Value} {Id Im : List Iv} (h : PtWh lo hi W dv mv Id Im) (h1 : lo' ≤ lo) (h2 : hi ≤ hi') : PtWh lo' hi' W dv mv Id Im :=
  ⟨h.sd.wider h1 h2, h.nd.wider h1 h2, h.dd, h.zd, h.sm.wider h1 h2, h.nm.wider h1 h2, h.dm, h.zm, h.adm⟩
def RcWh (lo hi : Nat) (W : World) (dv mv : Value) (dl : List Int) (ml : List (List (List Int))) : Prop := WhW lo hi W dv mv dl ml ∧ ∃ Id Im, PtWh lo hi W dv mv Id Im
theorem RcWh.same {lo hi : Nat} {W W' : World} {dv mv : Value} {dl : List Int} {ml : List (List (List Int))} (h : RcWh lo hi W dv mv dl ml) (s : Same lo hi W W') : RcWh lo hi W' dv mv dl ml := by
  obtain ⟨h0, Id, Im, h1⟩ := h
  exact ⟨h0.same s, Id, Im, h1.same s⟩
theorem RcWh.wider {lo hi lo' hi' : Nat} {W : World} {dv mv : Value} {dl : List Int} {ml : List (List (List Int))} (h : RcWh lo hi W dv mv dl ml) (h1 : lo' ≤ lo) (h2 : hi ≤ hi') : RcWh lo' hi' W dv mv dl ml := by
  obtain ⟨h0, Id, Im, h3⟩ := h
  exact ⟨⟨h0.fd.wider h1 h2, h0.fm.wider h1 h2⟩, Id, Im, h3.wider h1 h2⟩
theorem RcWh.cx {lo hi : Nat} {W : World} {dv mv : Value} {dl : List Int} {ml : List (List (List Int))} (h : RcWh lo hi W dv mv dl ml) : Wh 0 W dv mv dl ml := h.1.cx.lower (Nat.zero_le _)
/-- Parts one behind the other. -/
theorem RcWh.of {lo hi b0 b1 b2 : Nat} {W : World} {dv mv : Value} {dl : List Int} {ml : List (List (List Int))} (hqd : Rw1 b0 b1 W dv dl) (hqm : Rw3 b1 b2 W mv ml) (hl : lo ≤ b0) (l0 : b0 ≤ b1) (l1 : b1 ≤ b2) (hh : b2 ≤ hi) : RcWh lo hi W dv mv dl ml := by
  obtain ⟨wd, Id, sd, nd, dd, zd⟩ := hqd
  obtain ⟨wm, Im, sm, nm, dm, zm⟩ := hqm
  refine ⟨⟨wd.wider (by omega) (by omega), wm.wider (by omega) (by omega)⟩, Id, Im, ⟨sd.wider (by omega) (by omega), nd.wider (by omega) (by omega), dd, zd, sm.wider (by omega) (by omega), nm.wider (by omega) (by omega), dm, zm, ?_⟩⟩
  · intro x hx y hy
    exact Or.inl (by have := (nd x hx).2.1; have := (nm y hy).1; omega)
def RwWh (lo hi : Nat) (W : World) (u : Value) (o : WhO) : Prop := ∃ ad cd am cm, u = .agg #[.slice ad o.1.length cd, .slice am o.2.length cm] ∧ RcWh lo hi W (.slice ad o.1.length cd) (.slice am o.2.length cm) o.1 o.2
def GwWh (base : Nat) (W : World) (u : Value) (o : WhO) : Prop := ∃ ad cd am cm, u = .agg #[.slice ad o.1.length cd, .slice am o.2.length cm] ∧ Gb base W (.slice ad o.1.length cd) o.1 ∧ Gt base W (.slice am o.2.length cm) o.2
theorem RwWh.nil (lo hi : Nat) (W : World) : RwWh lo hi W (.agg #[.slice none 0 0, .slice none 0 0]) ([], []) :=
  ⟨none, 0, none, 0, rfl, ⟨Or.inl ⟨rfl, _, _, rfl⟩, Or.inl ⟨rfl, _, _, rfl⟩⟩, [], [], ⟨Or.inl ⟨rfl, _, _, rfl⟩, fun _ h => absurd h (by simp), List.Pairwise.nil, by simp [ivSize], ⟨none, 0, 0, fun _ => .slice none 0 0, fun _ => [], rfl, by omega, rfl, fun _ h => absurd h (Nat.not_lt_zero _), fun h => absurd h (Nat.lt_irrefl _)⟩, fun _ h => absurd h (by simp), List.Pairwise.nil, by simp [ivSize], fun _ h => absurd h (by simp)⟩⟩
theorem Gb.nilv (base : Nat) (w : World) : Gb base w (.slice none 0 0) [] := ⟨rfl, Or.inl ⟨rfl, rfl⟩⟩
theorem Gs.nilv (base : Nat) (w : World) : Gs base w (.slice none 0 0) [] := ⟨[], ⟨rfl, Or.inl ⟨rfl, rfl⟩⟩, fun _ h => absurd h (Nat.not_lt_zero _)⟩
theorem Gt.nilv (base : Nat) (w : World) : Gt base w (.slice none 0 0) [] := ⟨[], ⟨rfl, Or.inl ⟨rfl, rfl⟩⟩, fun _ h => absurd h (Nat.not_lt_zero _)⟩
theorem GwWh.nil (base : Nat) (W : World) : GwWh base W (.agg #[.slice none 0 0, .slice none 0 0]) ([], []) := ⟨none, 0, none, 0, rfl, Gb.nilv _ _, Gt.nilv _ _⟩
structure HcWh' (lo hi : Nat) (W : World) (dv mv : Value) (m : Int) (Id Im : List Iv) : Prop where
  sd : S1 lo hi W dv Id
  mmd : Marked W Id (1)
  rd : ∀ x ∈ Id, lo ≤ x.1 ∧ x.1 < hi
  zd : ivSize Id ≤ 1048576
  sm : S3 lo hi W mv Im
  mmm : Marked W Im (1 + (ivSize Id : Int))
  rm : ∀ x ∈ Im, lo ≤ x.1 ∧ x.1 < hi
  zm : ivSize Im ≤ 1152921504606846976
  me : m = 1 + (ivSize Id : Int) + (ivSize Im : Int)
def HcWh (lo hi : Nat) (W : World) (dv mv : Value) (m : Int) : Prop := ∃ Id Im, HcWh' lo hi W dv mv m Id Im
theorem HcWh.same {lo hi : Nat} {W W' : World} {dv mv : Value} {m : Int} (h : HcWh lo hi W dv mv m) (s : Same lo hi W W') : HcWh lo hi W' dv mv m := by
  obtain ⟨Id, Im, h⟩ := h
  exact ⟨Id, Im, h.sd, h.mmd.same h.rd s, h.rd, h.zd, h.sm.same s, h.mmm.same h.rm s, h.rm, h.zm, h.me⟩
/-- The cells of a box alone. -/
structure BcWh (wr : World) (b : Nat)  (dv mv : Value) : Prop where
  c0 : wr.cell? ⟨b, 0, none⟩ = some (dv)
  c1 : wr.cell? ⟨b, 1, none⟩ = some (mv)
  lt : b < wr.heap.size
theorem BcWh.next {wr w' : World} {b : Nat}  {dv mv : Value} (h : BcWh wr b  dv mv) (hb : Below wr.heap.size wr w') : BcWh w' b  dv mv :=
  ⟨later hb (Nat.le_refl _) h.c0, later hb (Nat.le_refl _) h.c1, Nat.lt_of_lt_of_le h.lt hb.size⟩
theorem BcWh.only {wr w' : World} {b lo hi : Nat}  {dv mv : Value} (h : BcWh wr b  dv mv) (ho : Only lo hi wr w') (hb : b < lo ∨ hi ≤ b) : BcWh w' b  dv mv :=
  ⟨(ho.cell hb).trans h.c0, (ho.cell hb).trans h.c1, by have := ho.size; have := h.lt; omega⟩
theorem BcWh.row (W : World) (b : Nat)  (dv mv : Value) {c0 : Array Value} {t : TypeId} (h : W.heap[b]? = some (.cells c0 t (0, 0))) : BcWh (W.setRow b #[dv, mv]) b  dv mv := by
  have h0 := setRow_heap W b c0 #[dv, mv] t _ h
  have hlt : b < W.heap.size := (Array.getElem?_eq_some_iff.1 h).1
  exact ⟨by simp [World.cell?, h0], by simp [World.cell?, h0], by simpa using hlt⟩
end Go.Proofs.Ytlopenephgabhaa


namespace Go.Proofs.Ytlopenephgabhaa
open Go.RowKit

/-- A value's own block is not this one. -/
def OffB (b : Option Nat) (u : Value) : Prop := ∀ g, u.ownBlock = some g → b ≠ some g
theorem owns_grown_off {w w' : World} {base : Nat} {e : TypeId} {size n : Nat} {u : Value} {xs : List Value} {b : Option Nat} (h : w.ownsRow base e size u n xs) (ho : OffB b u) (hg : w.grownBy w' b) : w'.ownsRow base e size u n xs := by
  refine ⟨h.1, ?_⟩
  rcases h.2 with h2 | ⟨g, cap, cur, hu, hb, hh, r⟩
  · exact Or.inl h2
  · refine Or.inr ⟨g, cap, cur, hu, hb, ?_, r⟩
    rw [hg.block g (Array.getElem?_eq_some_iff.1 hh).1]
    · exact hh
    · exact fun e2 => ho g (by rw [hu]; rfl) e2.symm
theorem owns_lt {w : World} {base : Nat} {e : TypeId} {size n : Nat} {u : Value} {xs : List Value} (h : w.ownsRow base e size u n xs) {g : Nat} (hg : u.ownBlock = some g) : g < w.heap.size := by
  rcases h.2 with ⟨rfl, _⟩ | ⟨g2, cap, cur, rfl, _, hh, _⟩
  · simp [Value.ownBlock] at hg
  · simp [Value.ownBlock] at hg
    subst hg
    exact (Array.getElem?_eq_some_iff.1 hh).1
/-- A table whose rows lie off a block. -/
def Gr (b : Option Nat) (w : World) (u : Value) (t : List (List Int)) : Prop := ∃ vs, w.ownsRow 0 35 1 u t.length vs ∧ ∀ k (h1 : k < vs.length) (h2 : k < t.length), G1 w vs[k] t[k] ∧ OffB b vs[k]
def Gto (b : Option Nat) (base : Nat) (w : World) (u : Value) (ts : List (List (List Int))) : Prop := ∃ vs, w.ownsRow base 22 1 u ts.length vs ∧ ∀ k (h1 : k < vs.length) (h2 : k < ts.length), Gr b w vs[k] ts[k]
theorem Gr.gs {b : Option Nat} {w : World} {u : Value} {t : List (List Int)} (h : Gr b w u t) : Gs 0 w u t := by
  obtain ⟨vs, ho, hr⟩ := h
  exact ⟨vs, ho, fun k h1 h2 => (hr k h1 h2).1⟩
theorem Gto.gt {b : Option Nat} {base : Nat} {w : World} {u : Value} {ts : List (List (List Int))} (h : Gto b base w u ts) : Gt base w u ts := by
  obtain ⟨vs, ho, hr⟩ := h
  exact ⟨vs, ho, fun k h1 h2 => (hr k h1 h2).gs⟩
theorem Gr.below {b : Option Nat} {w w' : World} {u : Value} {t : List (List Int)} (h : Gr b w u t) (hb : Below w.heap.size w w') : Gr b w' u t := by
  obtain ⟨vs, ho, hr⟩ := h
  exact ⟨vs, owns_below ho hb, fun k h1 h2 => ⟨(hr k h1 h2).1.below hb, (hr k h1 h2).2⟩⟩
theorem Gto.below {b : Option Nat} {base : Nat} {w w' : World} {u : Value} {ts : List (List (List Int))} (h : Gto b base w u ts) (hb : Below w.heap.size w w') : Gto b base w' u ts := by
  obtain ⟨vs, ho, hr⟩ := h
  exact ⟨vs, owns_below ho hb, fun k h1 h2 => (hr k h1 h2).below hb⟩
theorem Gto.nil {b : Option Nat} {base : Nat} {w : World} {u : Value} (h : Gt base w u []) : Gto b base w u [] := by
  obtain ⟨vs, ho, _⟩ := h
  exact ⟨vs, ho, fun k _ h2 => absurd h2 (Nat.not_lt_zero _)⟩
/-- A table of a call made behind a block lies off it. -/
theorem Gr.of {b : Nat} {w : World} {u : Value} {t : List (List Int)} {vs : List Value} (ho : w.ownsRow 0 35 1 u t.length vs) (hr : ∀ k (h1 : k < vs.length) (h2 : k < t.length), Gb (b + 1) w vs[k] t[k]) : Gr (some b) w u t :=
  ⟨vs, ho, fun k h1 h2 => ⟨(hr k h1 h2).g1, fun g hg e => by
    have := ((hr k h1 h2).lt g hg).1
    injection e with e
    omega⟩⟩
/-- The dimensions grow. -/
theorem Gto.turnD {base base' : Nat} {w w' : World} {u v : Value} {ts : List (List (List Int))} {xs : List Int} {b' : Option Nat} (h : Gto v.ownBlock base w u ts) (hv : Gb base' w v xs) (hg : w.grownBy w' v.ownBlock) (hx : ∀ g, b' = some g → v.ownBlock = some g ∨ w.heap.size ≤ g) : Gto b' base w' u ts := by
  obtain ⟨vs, ho, hr⟩ := h
  refine ⟨vs, owns_grown ho hv (by decide) hg, fun k h1 h2 => ?_⟩
  obtain ⟨us, hu, hq⟩ := hr k h1 h2
  refine ⟨us, owns_grown hu hv (by decide) hg, fun i a1 a2 => ⟨owns_grown_off (hq i a1 a2).1 (hq i a1 a2).2 hg, fun g hg2 e => ?_⟩⟩
  rcases hx g e with h3 | h3
  · exact (hq i a1 a2).2 g hg2 h3
  · have := owns_lt (hq i a1 a2).1 hg2
    omega
theorem Gr.grown {b : Option Nat} {w w3 : World} {base n : Nat} {u v : Value} {t : List (List Int)} {vs : List Value} (h : Gr b w u t) (ho : w.ownsRow base 22 1 v n vs) (hg : w.grownBy w3 v.ownBlock) : Gr b w3 u t := by
  obtain ⟨us, hu, hr⟩ := h
  exact ⟨us, owns_grown hu ho (by decide) hg, fun k h1 h2 => ⟨owns_grown (hr k h1 h2).1 ho (by decide) hg, (hr k h1 h2).2⟩⟩
theorem Gto.push {b : Option Nat} {base : Nat} {w w3 : World} {v v' row : Value} {ts : List (List (List Int))} {vs : List Value} {x : List (List Int)} (ho : w.ownsRow base 22 1 v ts.length vs) (hr : ∀ k (h1 : k < vs.length) (h2 : k < ts.length), Gr b w vs[k] ts[k]) (hx : Gr b w row x)
    (ho3 : w3.ownsRow base 22 1 v' (ts.length + 1) (vs ++ [row])) (hg : w.grownBy w3 v.ownBlock) : Gto b base w3 v' (ts ++ [x]) := by
  have hvl : vs.length = ts.length := by have := ho.1; omega
  refine ⟨vs ++ [row], by simpa using ho3, fun k h1 h2 => ?_⟩
  by_cases e : k < vs.length
  · rw [List.getElem_append_left e, List.getElem_append_left (by omega)]
    exact (hr k e (by omega)).grown ho hg
  · have e2 : k = vs.length := by simp at h1; omega
    subst e2
    rw [List.getElem_append_right (Nat.le_refl _), List.getElem_append_right (by omega)]
    simp only [Nat.sub_self, hvl, List.getElem_cons_zero]
    exact hx.grown ho hg
theorem Gr.off {b : Option Nat} {w : World} {g k : Nat} {t : TypeId} {f : Nat → Value} {u : Value} {xs : List (List Int)} (h : Gr b w u xs) (hr : w.rowIs g t k f) (ht : t ≠ 2 ∧ t ≠ 35) (i : Nat) (x : Value) : Gr b (w.setCell ⟨g, i, none⟩ x) u xs := by
  obtain ⟨vs, ho, h1⟩ := h
  exact ⟨vs, owns_off ho hr ht.2 i x, fun k a c => ⟨(h1 k a c).1.off hr ht.1 i x, (h1 k a c).2⟩⟩
theorem Gto.off {b : Option Nat} {base : Nat} {w : World} {g k : Nat} {t : TypeId} {f : Nat → Value} {u : Value} {xs : List (List (List Int))} (h : Gto b base w u xs) (hr : w.rowIs g t k f) (ht : t ≠ 2 ∧ t ≠ 35 ∧ t ≠ 22) (i : Nat) (x : Value) : Gto b base (w.setCell ⟨g, i, none⟩ x) u xs := by
  obtain ⟨vs, ho, h1⟩ := h
  exact ⟨vs, owns_off ho hr ht.2.2 i x, fun k a c => (h1 k a c).off hr ⟨ht.1, ht.2.1⟩ i x⟩

/-- A complex that the model gathers, dimensions and tables in turn: its box at block g, its two lists. -/
structure Sdo (w1 wr : World) (g : Nat) (p : Int) (v vm : Value) (xs : List Int) (ts : List (List (List Int))) : Prop where
  below : Below w1.heap.size w1 wr
  lo : w1.heap.size ≤ g
  box : wr.rowIs g 38 3 (sel3 (.int .i64 p) v vm)
  dims : Gb w1.heap.size wr v xs
  maps : Gto v.ownBlock w1.heap.size wr vm ts
theorem Sdo.sd {w1 wr : World} {g : Nat} {p : Int} {v vm : Value} {xs : List Int} {ts : List (List (List Int))} (h : Sdo w1 wr g p v vm xs ts) : Sd w1 wr g p v vm xs ts := ⟨h.below, h.lo, h.box, h.dims, h.maps.gt⟩
theorem Sdo.next {w1 wr wa : World} {g : Nat} {p : Int} {v vm : Value} {xs : List Int} {ts : List (List (List Int))} (h : Sdo w1 wr g p v vm xs ts) (hb : Below wr.heap.size wr wa) : Sdo w1 wa g p v vm xs ts :=
  ⟨h.below.trans (hb.mono h.below.size), h.lo, h.box.of_block (hb.block _ h.box.lt), h.dims.below hb, h.maps.below hb⟩
theorem Sdo.stepD {w1 wa w' : World} {g g' n c : Nat} {p : Int} {v vm : Value} {xs xs' : List Int} {ts : List (List (List Int))} (h : Sdo w1 wa g p v vm xs ts) (hg : wa.grownBy w' v.ownBlock) (hn : Gb w1.heap.size w' (.slice (some ⟨g', 0, none⟩) n c) xs') (hl : v.ownBlock = some g' ∨ g' = wa.heap.size) :
    Sdo w1 (w'.setCell ⟨g, 1, none⟩ (.slice (some ⟨g', 0, none⟩) n c)) g p (.slice (some ⟨g', 0, none⟩) n c) vm xs' ts := by
  have hr := row_grown h.box h.dims coT.1 hg
  have hb := h.below.grown hg h.below.size (fun g hg => (h.dims.lt g hg).1)
  have hm : Gto (some g') w1.heap.size w' vm ts := h.maps.turnD h.dims hg (fun g2 e => by
    injection e with e
    subst e
    rcases hl with hl | hl
    · exact Or.inl hl
    · exact Or.inr (Nat.le_of_eq hl.symm))
  refine ⟨hb.setCell h.lo _, h.lo, (hr.set 1 _).congr (fun j hj => ?_), hn.off hr coT.1 _ _, hm.off hr coT _ _⟩
  match j, hj with
  | 0, _ => rfl
  | 1, _ => rfl
  | 2, _ => rfl
theorem Sdo.stepM {w1 wa w' : World} {g : Nat} {p : Int} {v vm v' : Value} {xs : List Int} {ts ts' : List (List (List Int))} (h : Sdo w1 wa g p v vm xs ts) (hg : wa.grownBy w' vm.ownBlock) (hn : Gto v.ownBlock w1.heap.size w' v' ts') : Sdo w1 (w'.setCell ⟨g, 2, none⟩ v') g p v v' xs ts' := by
  obtain ⟨vs, ho, _⟩ := h.maps
  have hr := row_grown h.box ho coT.2.2 hg
  have hb := h.below.grown hg h.below.size (fun g hg => (h.sd.maps.lt g hg).1)
  have hd : Gb w1.heap.size w' v xs := owns_grown h.dims ho (by decide) hg
  refine ⟨hb.setCell h.lo _, h.lo, (hr.set 2 v').congr (fun j hj => ?_), hd.off hr coT.1 _ _, hn.off hr coT _ _⟩
  match j, hj with
  | 0, _ => rfl
  | 1, _ => rfl
  | 2, _ => rfl

section
variable {o : Oper} {a : Act} {w : World} {K : Act → World → Prop} {Q : Exit → Act → World → Prop}
/-- As wp_appendB1, telling where the new block lies. -/
theorem wp_appendB1l (dst : Option Tmp) (hdst : o.dst = dst) (s x : Operand) (ho : o.op = .call { callee := .builtin .append, args := #[s, x], argTypes := #[35, 35] }) (base : Nat) (v : Value) (xs : List Int) (hs : a.eval s = v) (hown : Gb base w v xs)
    (b : Nat) (hx : a.eval x = .slice (some ⟨b, 0, none⟩) 1 1) (z : Int) (hc : w.cell? ⟨b, 0, none⟩ = some (.int .i64 z)) (hl : xs.length ≤ 2097151) (hb : base ≤ w.heap.size)
    (h : ∀ g cap w', Gb base w' (.slice (some ⟨g, 0, none⟩) (xs.length + 1) cap) (xs ++ [z]) → w.grownBy w' v.ownBlock → (v.ownBlock = some g ∨ g = w.heap.size) → K (a.put dst (.slice (some ⟨g, 0, none⟩) (xs.length + 1) cap)) w') : o.wp Try.prog a w K Q := by
  obtain ⟨i, hi, hz, hs1, hb1⟩ := info_parts Try.infoI
  subst hdst
  refine wp_append_lies w s x 35 ho base 2 i _ 1 8 Try.underlying35 hi hz hs1 hb1 rfl (by decide) v xs.length (xs.map (Value.int .i64)) hs hown ⟨b, 0, none⟩ 1 1 [.int .i64 z] hx rfl ?_ ?_ (by omega) (by unfold maxLen; omega) (by omega) hb _ rfl (fun g cap w' h1 h2 h3 _ => h g cap w' (by simpa [Gb] using h1) h2 h3)
  · intro j u hj
    match j, hj with
    | 0, hj =>
      simp at hj
      subst hj
      exact hc
  · intro u hu
    simp at hu
    subst hu
    rfl
/-- As wp_appendT1, the tables' rows off a block. -/
theorem wp_appendT1o (dst : Option Tmp) (hdst : o.dst = dst) (s x : Operand) (ho : o.op = .call { callee := .builtin .append, args := #[s, x], argTypes := #[36, 36] }) (base : Nat) (v : Value) (ts : List (List (List Int))) (hs : a.eval s = v) (off : Option Nat) (hown : Gto off base w v ts)
    (b : Nat) (hx : a.eval x = .slice (some ⟨b, 0, none⟩) 1 1) (ar : Option Addr) (nr cr : Nat) (hc : w.cell? ⟨b, 0, none⟩ = some (.slice ar nr cr)) (y : List (List Int)) (hy : Gr off w (.slice ar nr cr) y) (hl : ts.length ≤ 2097151) (hb : base ≤ w.heap.size)
    (h : ∀ g cap w', Gto off base w' (.slice (some ⟨g, 0, none⟩) (ts.length + 1) cap) (ts ++ [y]) → w.grownBy w' v.ownBlock → K (a.put dst (.slice (some ⟨g, 0, none⟩) (ts.length + 1) cap)) w') : o.wp Try.prog a w K Q := by
  obtain ⟨i, hi, hz, hs1, hb1⟩ := info_parts Try.infoSS
  obtain ⟨vs, hvo, hvr⟩ := hown
  subst hdst
  refine wp_append_lies w s x 36 ho base 22 i _ 1 24 Try.underlying36 hi hz hs1 hb1 rfl (by decide) v ts.length vs hs hvo ⟨b, 0, none⟩ 1 1 [.slice ar nr cr] hx rfl ?_ ?_ (by omega) (by unfold maxLen; omega) (by omega) hb _ rfl (fun g cap w' h1 h2 _ _ => h g cap w' (Gto.push hvo hvr hy h1 h2) h2)
  · intro j u hj
    match j, hj with
    | 0, hj =>
      simp at hj
      subst hj
      exact hc
  · intro u hu
    simp at hu
    subst hu
    rfl
end
end Go.Proofs.Ytlopenephgabhaa


namespace Go.Proofs.Ytlopenephgabhaa
open Go.RowKit

/-- A table that the call gathers, its rows off a block. -/
def Grb (b : Option Nat) (base : Nat) (w : World) (u : Value) (t : List (List Int)) : Prop := ∃ vs, w.ownsRow base 35 1 u t.length vs ∧ ∀ k (h1 : k < vs.length) (h2 : k < t.length), G1 w vs[k] t[k] ∧ OffB b vs[k]
theorem Grb.gs {b : Option Nat} {base : Nat} {w : World} {u : Value} {t : List (List Int)} (h : Grb b base w u t) : Gs base w u t := by
  obtain ⟨vs, ho, hr⟩ := h
  exact ⟨vs, ho, fun k h1 h2 => (hr k h1 h2).1⟩
theorem Grb.below {b : Option Nat} {base : Nat} {w w' : World} {u : Value} {t : List (List Int)} (h : Grb b base w u t) (hb : Below w.heap.size w w') : Grb b base w' u t := by
  obtain ⟨vs, ho, hr⟩ := h
  exact ⟨vs, owns_below ho hb, fun k h1 h2 => ⟨(hr k h1 h2).1.below hb, (hr k h1 h2).2⟩⟩
theorem Grb.start {b : Option Nat} {base : Nat} {w : World} {u : Value} (h : Gs base w u []) : Grb b base w u [] := by
  obtain ⟨vs, ho, _⟩ := h
  exact ⟨vs, ho, fun k _ h2 => absurd h2 (Nat.not_lt_zero _)⟩
theorem Grb.gr {b : Option Nat} {base : Nat} {w : World} {u : Value} {t : List (List Int)} (h : Grb b base w u t) : Gr b w u t := by
  have h0 := h.gs.mono (Nat.zero_le _)
  obtain ⟨vs, ho, hr⟩ := h
  refine ⟨vs, ⟨ho.1, ?_⟩, hr⟩
  rcases ho.2 with h2 | ⟨g, cap, cur, hu, _, r⟩
  · exact Or.inl h2
  · exact Or.inr ⟨g, cap, cur, hu, Nat.zero_le _, r⟩
theorem Grb.push {b : Option Nat} {base : Nat} {w w3 : World} {v v' row : Value} {t : List (List Int)} {vs : List Value} {x : List Int} (ho : w.ownsRow base 35 1 v t.length vs) (hr : ∀ k (h1 : k < vs.length) (h2 : k < t.length), G1 w vs[k] t[k] ∧ OffB b vs[k]) (hx : G1 w row x) (hb : OffB b row)
    (ho3 : w3.ownsRow base 35 1 v' (t.length + 1) (vs ++ [row])) (hg : w.grownBy w3 v.ownBlock) : Grb b base w3 v' (t ++ [x]) := by
  have hvl : vs.length = t.length := by have := ho.1; omega
  have keep : ∀ u xs, G1 w u xs → G1 w3 u xs := fun u xs h => owns_grown h ho (by decide) hg
  refine ⟨vs ++ [row], by simpa using ho3, fun k h1 h2 => ?_⟩
  by_cases e : k < vs.length
  · rw [List.getElem_append_left e, List.getElem_append_left (by omega)]
    exact ⟨keep _ _ (hr k e (by omega)).1, (hr k e (by omega)).2⟩
  · have e2 : k = vs.length := by simp at h1; omega
    subst e2
    rw [List.getElem_append_right (Nat.le_refl _), List.getElem_append_right (by omega)]
    simp only [Nat.sub_self, hvl, List.getElem_cons_zero]
    exact ⟨keep _ _ hx, hb⟩
section
variable {o : Oper} {a : Act} {w : World} {K : Act → World → Prop} {Q : Exit → Act → World → Prop}
theorem wp_appendS1o (dst : Option Tmp) (hdst : o.dst = dst) (s x : Operand) (ho : o.op = .call { callee := .builtin .append, args := #[s, x], argTypes := #[22, 22] }) (off : Option Nat) (base : Nat) (v : Value) (tb : List (List Int)) (hs : a.eval s = v) (hown : Grb off base w v tb)
    (b : Nat) (hx : a.eval x = .slice (some ⟨b, 0, none⟩) 1 1) (ar : Option Addr) (nr cr : Nat) (hc : w.cell? ⟨b, 0, none⟩ = some (.slice ar nr cr)) (y : List Int) (hy : G1 w (.slice ar nr cr) y) (hyo : OffB off (.slice ar nr cr)) (hl : tb.length ≤ 2097151) (hb : base ≤ w.heap.size)
    (h : ∀ g cap w', Grb off base w' (.slice (some ⟨g, 0, none⟩) (tb.length + 1) cap) (tb ++ [y]) → w.grownBy w' v.ownBlock → K (a.put dst (.slice (some ⟨g, 0, none⟩) (tb.length + 1) cap)) w') : o.wp Try.prog a w K Q := by
  obtain ⟨i, hi, hz, hs1, hb1⟩ := info_parts Try.infoS
  obtain ⟨vs, hvo, hvr⟩ := hown
  subst hdst
  refine wp_append_lies w s x 22 ho base 35 i _ 1 24 Try.underlying22 hi hz hs1 hb1 rfl (by decide) v tb.length vs hs hvo ⟨b, 0, none⟩ 1 1 [.slice ar nr cr] hx rfl ?_ ?_ (by omega) (by unfold maxLen; omega) (by omega) hb _ rfl (fun g cap w' h1 h2 _ _ => h g cap w' (Grb.push hvo hvr hy hyo h1 h2) h2)
  · intro j u hj
    match j, hj with
    | 0, hj =>
      simp at hj
      subst hj
      exact hc
  · intro u hu
    simp at hu
    subst hu
    rfl
end
section
variable {ops : Array Oper} {rest : List Oper} {o : Oper} {a : Act} {w : World} {Q : Exit → Act → World → Prop}
theorem wpList_appendB1l (hgd : o.guard = none) (dst : Option Tmp) (hdst : o.dst = dst) (s x : Operand) (ho : o.op = .call { callee := .builtin .append, args := #[s, x], argTypes := #[35, 35] }) (base : Nat) (v : Value) (xs : List Int) (hs : a.eval s = v) (hown : Gb base w v xs)
    (b : Nat) (hx : a.eval x = .slice (some ⟨b, 0, none⟩) 1 1) (z : Int) (hc : w.cell? ⟨b, 0, none⟩ = some (.int .i64 z)) (hl : xs.length ≤ 2097151) (hb : base ≤ w.heap.size)
    (h : ∀ g cap w', Gb base w' (.slice (some ⟨g, 0, none⟩) (xs.length + 1) cap) (xs ++ [z]) → w.grownBy w' v.ownBlock → (v.ownBlock = some g ∨ g = w.heap.size) → wpList Try.prog ops Q rest (a.put dst (.slice (some ⟨g, 0, none⟩) (xs.length + 1) cap)) w') : wpList Try.prog ops Q (o :: rest) a w :=
  wpList_plain hgd fun _ hK => wp_appendB1l dst hdst s x ho base v xs hs hown b hx z hc hl hb fun g cap w' h1 h2 h3 => by subst hdst; exact hK _ _ (h g cap w' h1 h2 h3)
end
end Go.Proofs.Ytlopenephgabhaa


namespace Go.Proofs.Ytlopenephgabhaa
open Go.RowKit

def RsWh (W : World) (u : Value) (o : WhO) : Prop := ∃ ad cd am cm, u = .agg #[.slice ad o.1.length cd, .slice am o.2.length cm] ∧ Wh 0 W (.slice ad o.1.length cd) (.slice am o.2.length cm) o.1 o.2
theorem RwWh.rs {lo hi : Nat} {W : World} {u : Value} {o : WhO} (h : RwWh lo hi W u o) : RsWh W u o := by
  obtain ⟨ad, cd, am, cm, hu, hr⟩ := h
  exact ⟨ad, cd, am, cm, hu, hr.cx⟩

/-- A table of one number. -/
structure LnT (w : World) (lo : Nat) (u : Value) (a b : Nat) (z : Int) : Prop where
  val : u = .slice (some ⟨a, 0, none⟩) 1 1
  lo1 : lo ≤ a
  lo2 : lo ≤ b
  top : w.rowIs a 35 1 (fun _ => .slice (some ⟨b, 0, none⟩) 1 1)
  row : w.rowIs b 2 1 (fun _ => .int .i64 z)
theorem LnT.next {w w' : World} {lo : Nat} {u : Value} {a b : Nat} {z : Int} (h : LnT w lo u a b z) (hb : Below w.heap.size w w') : LnT w' lo u a b z :=
  ⟨h.val, h.lo1, h.lo2, h.top.of_block (hb.block _ h.top.lt), h.row.of_block (hb.block _ h.row.lt)⟩
theorem owns_len {w : World} {base n : Nat} {e : TypeId} {v : Value} {xs : List Value} (h : w.ownsRow base e 1 v n xs) : xs.length = n := by rw [h.1]; omega
section
variable {ops : Array Oper} {rest : List Oper} {o : Oper} {a : Act} {w : World} {Q : Exit → Act → World → Prop}
end
end Go.Proofs.Ytlopenephgabhaa


namespace Go.Proofs.Ytlopenephgabhaa
open Go.RowKit

/-- A row put in another's place, in a table that the call gathers. -/
theorem Gs.put {base g n cap : Nat} {w : World} {t : List (List Int)} (h : Gs base w (.slice (some ⟨g, 0, none⟩) n cap) t) {k : Nat} (hk : k < t.length) {u : Value} {x : List Int} (hu : G1 w u x) :
    Gs base (w.setCell ⟨g, k, none⟩ u) (.slice (some ⟨g, 0, none⟩) n cap) (t.set k x) ∧ w.frozen? ⟨g, k, none⟩ = false ∧ (∃ v0, w.cell? ⟨g, k, none⟩ = some v0) ∧ base ≤ g := by
  obtain ⟨vs, ⟨hl, h2⟩, hr⟩ := h
  rcases h2 with ⟨h0, _⟩ | ⟨g', c', cur, hv, hlo, hh, hnc, hcm, hcs, htk⟩
  · cases h0
  · injection hv with e1 e2 e3
    injection e1 with e1
    injection e1 with e1
    subst e1 e2 e3
    have hrow : w.rowIs g 35 cur.size (fun i => cur.getD i undef) := ⟨cur, hh, rfl, fun i hi => by simp [hi]⟩
    have hvl : vs.length = t.length := by omega
    have hkc : k < cur.size := by omega
    refine ⟨⟨vs.set k u, ⟨by simpa using hl, Or.inr ⟨g, cap, cur.setIfInBounds k u, by simp, hlo, block_setCell' hh _, by simpa using hnc, hcm, by simpa using hcs, ?_⟩⟩, fun i h1 h2 => ?_⟩, by simp [World.frozen?, hh], ⟨_, hrow.cell hkc⟩, hlo⟩
    · simp only [List.length_set, Nat.mul_one] at htk ⊢
      rw [Array.toList_setIfInBounds, List.take_set, htk]
    · rw [List.getElem_set, List.getElem_set]
      by_cases e : k = i
      · rw [if_pos e, if_pos e]
        exact hu.off hrow (by decide) _ _
      · rw [if_neg e, if_neg e]
        exact (hr i (by simpa using h1) (by simpa using h2)).off hrow (by decide) _ _
end Go.Proofs.Ytlopenephgabhaa


namespace Go.Proofs.Ytlopenephgabhaa
open Go.RowKit

/-- The rests of a list modulo a reduced one. -/
structure RestsOf (p : Int) (n : Nat) (B C tt : List Lin.V) : Prop where
  rest : ∀ i (h : i < tt.length) (h2 : i < C.length), Lin.Rest p B C[i] B.length tt[i]
  wd : ∀ u ∈ tt, Lin.Wd n u
theorem RestsOf.nil (p : Int) (n : Nat) (B C : List Lin.V) : RestsOf p n B C [] := ⟨fun i h => absurd h (Nat.not_lt_zero _), by simp⟩
theorem RestsOf.push {p : Int} {n : Nat} {B C tt : List Lin.V} (h : RestsOf p n B C tt) {r : Lin.V} (hk : tt.length < C.length) (hr : Lin.Rest p B C[tt.length] B.length r) (hw : Lin.Wd n r) : RestsOf p n B C (tt ++ [r]) := by
  refine ⟨fun i h1 h2 => ?_, fun u hu => ?_⟩
  · by_cases e : i < tt.length
    · rw [List.getElem_append_left e]
      exact h.rest i e h2
    · have e2 : i = tt.length := by simp at h1; omega
      subst e2
      rw [List.getElem_append_right (Nat.le_refl _)]
      simpa using hr
  · rcases List.mem_append.1 hu with h1 | h1
    · exact h.wd u h1
    · rw [List.mem_singleton.1 h1]; exact hw
/-- A table that is being gathered: the empty literal yet, or rows of its own. -/
def GsE (base g : Nat) (w : World) (v : Value) (tb : List (List Int)) : Prop := (tb = [] ∧ v = .slice (some ⟨g, 0, none⟩) 0 0) ∨ Gs base w v tb
theorem GsE.below {base g : Nat} {w w' : World} {v : Value} {tb : List (List Int)} (h : GsE base g w v tb) (hb : Below w.heap.size w w') : GsE base g w' v tb := h.imp id (fun h => h.below hb)
theorem GsE.l2 {base g : Nat} {w : World} {v : Value} {tb : List (List Int)} (h : GsE base g w v tb) : L2 0 w v tb := by
  rcases h with ⟨rfl, rfl⟩ | h
  · exact Or.inl ⟨rfl, _, _, rfl⟩
  · exact h.l2
section
variable {md : Region.Mode} {ops : Array Oper} {Q : Exit → Act → World → Prop} {S : World → Prop}
end

end Go.Proofs.Ytlopenephgabhaa


namespace Go.Proofs.Ytlopenephgabhaa
open Go.RowKit

theorem Gb.put {base g n cap : Nat} {w : World} {xs : List Int} (h : Gb base w (.slice (some ⟨g, 0, none⟩) n cap) xs) {k : Nat} (_hk : k < xs.length) (x : Int) :
    Gb base (w.setCell ⟨g, k, none⟩ (.int .i64 x)) (.slice (some ⟨g, 0, none⟩) n cap) (xs.set k x) ∧ w.frozen? ⟨g, k, none⟩ = false ∧ base ≤ g := by
  obtain ⟨hl, h2⟩ := h
  rcases h2 with ⟨h0, _⟩ | ⟨g', c', cur, hv, hlo, hh, hnc, hcm, hcs, htk⟩
  · cases h0
  · injection hv with e1 e2 e3
    injection e1 with e1
    injection e1 with e1
    subst e1 e2 e3
    refine ⟨⟨by simp, Or.inr ⟨g, cap, cur.setIfInBounds k (.int .i64 x), by simp, hlo, block_setCell' hh _, by simpa using hnc, hcm, by simpa using hcs, ?_⟩⟩, by simp [World.frozen?, hh], hlo⟩
    simp only [List.length_set, Nat.mul_one] at htk ⊢
    rw [Array.toList_setIfInBounds, List.take_set, htk, List.map_set]
theorem Gb.cell {base g n cap : Nat} {w : World} {v : Lin.V} (h : Gb base w (.slice (some ⟨g, 0, none⟩) n cap) (toL n v)) {k : Nat} (hk : k < n) : w.cell? ⟨g, k, none⟩ = some (.int .i64 (v k)) := by
  obtain ⟨b, o, c, hv, hc⟩ := l1_toL h.l1 (show 0 < n by omega)
  injection hv with e1 _ _
  injection e1 with e1
  injection e1 with e1 e2
  subst e1 e2
  have := hc k hk
  rwa [Nat.zero_add] at this
theorem Gb.block {base n cap : Nat} {w : World} {xs : List Int} {ad : Option Addr} (h : Gb base w (.slice ad n cap) xs) (hx : 0 < xs.length) : ∃ g, ad = some ⟨g, 0, none⟩ ∧ base ≤ g := by
  obtain ⟨hl, h2⟩ := h
  rcases h2 with ⟨_, h0⟩ | ⟨g', c', cur, hv, hlo, _⟩
  · omega
  · injection hv with e1 _ _
    exact ⟨g', e1, hlo⟩

theorem add_zero {p : Int} {r t : Lin.V} (h : Lin.Md p r) : Lin.add p r (-0) t = r := funext fun i => by
  unfold Lin.add
  rw [Int.neg_zero, Int.zero_mul, Int.add_zero]
  exact Lin.md_mod (h i).1 (h i).2
section
variable {P : Program} {md : Region.Mode} {ops : Array Oper} {n : Nat} {Q : Exit → Act → World → Prop}
end

end Go.Proofs.Ytlopenephgabhaa


namespace Go.Proofs.Ytlopenephgabhaa
open Go.RowKit

/-- A table in blocks of the call's own, its rows' slices vs apart from each other. -/
structure Gqv (lo : Nat) (w : World) (u : Value) (vs : List Value) (t : List (List Int)) : Prop where
  own : w.ownsRow lo 35 1 u t.length vs
  rows : ∀ k (h1 : k < vs.length) (h2 : k < t.length), Gb lo w vs[k] t[k]
  ap : ∀ i j (hi : i < vs.length) (hj : j < vs.length), i ≠ j → ∀ g, vs[i].ownBlock = some g → vs[j].ownBlock ≠ some g
def Gq (lo : Nat) (w : World) (u : Value) (t : List (List Int)) : Prop := ∃ vs, Gqv lo w u vs t
theorem Gqv.len {lo : Nat} {w : World} {u : Value} {vs : List Value} {t : List (List Int)} (h : Gqv lo w u vs t) : vs.length = t.length := owns_len h.own
theorem Gqv.below {lo : Nat} {w w' : World} {u : Value} {vs : List Value} {t : List (List Int)} (h : Gqv lo w u vs t) (hb : Below w.heap.size w w') : Gqv lo w' u vs t := ⟨owns_below h.own hb, fun k h1 h2 => (h.rows k h1 h2).below hb, h.ap⟩
theorem Gqv.gs {lo : Nat} {w : World} {u : Value} {vs : List Value} {t : List (List Int)} (h : Gqv lo w u vs t) : Gs lo w u t := ⟨vs, h.own, fun k h1 h2 => (h.rows k h1 h2).g1⟩
theorem Gq.gs {lo : Nat} {w : World} {u : Value} {t : List (List Int)} (h : Gq lo w u t) : Gs lo w u t := by obtain ⟨vs, h⟩ := h; exact h.gs
theorem Gq.l2 {lo : Nat} {w : World} {u : Value} {t : List (List Int)} (h : Gq lo w u t) : L2 0 w u t := h.gs.l2
theorem Gq.below {lo : Nat} {w w' : World} {u : Value} {t : List (List Int)} (h : Gq lo w u t) (hb : Below w.heap.size w w') : Gq lo w' u t := by obtain ⟨vs, h⟩ := h; exact ⟨vs, h.below hb⟩
theorem Gq.nil {lo : Nat} {w : World} {u : Value} (h : Gs lo w u []) : Gq lo w u [] := by
  obtain ⟨vs, ho, hr⟩ := h
  have hl := owns_len ho
  exact ⟨vs, ho, fun k _ h2 => absurd h2 (Nat.not_lt_zero _), fun i j hi => absurd hi (by rw [hl]; simp)⟩
theorem Gqv.push {lo : Nat} {w w' : World} {u u' row : Value} {vs : List Value} {t : List (List Int)} {y : List Int} (h : Gqv lo w u vs t) (hn : w'.ownsRow lo 35 1 u' (t.length + 1) (vs ++ [row])) (hg : w.grownBy w' u.ownBlock) (hr : Gb lo w row y)
    (hap : ∀ i (hi : i < vs.length) g, vs[i].ownBlock = some g → row.ownBlock ≠ some g) : Gqv lo w' u' (vs ++ [row]) (t ++ [y]) := by
  have hl := h.len
  have hrow : ∀ {v : Value} {x : List Int}, Gb lo w v x → Gb lo w' v x := fun hx => owns_grown hx h.own (by decide) hg
  refine ⟨by simpa using hn, fun k h1 h2 => ?_, fun i j hi hj hij g e => ?_⟩
  · by_cases e : k < t.length
    · rw [List.getElem_append_left (by omega), List.getElem_append_left e]
      exact hrow (h.rows k (by omega) e)
    · have e2 : k = t.length := by simp at h2; omega
      subst e2
      rw [List.getElem_append_right (by omega), List.getElem_append_right (by omega)]
      simp only [hl, Nat.sub_self, List.getElem_singleton]
      exact hrow hr
  · by_cases e1 : i < vs.length
    · rw [List.getElem_append_left e1] at e
      by_cases e2 : j < vs.length
      · rw [List.getElem_append_left e2]
        exact h.ap i j e1 e2 hij g e
      · have e3 : j = vs.length := by simp at hj; omega
        subst e3
        rw [List.getElem_append_right (Nat.le_refl _)]
        simp only [Nat.sub_self, List.getElem_singleton]
        exact hap i e1 g e
    · have e3 : i = vs.length := by simp at hi; omega
      subst e3
      rw [List.getElem_append_right (Nat.le_refl _)] at e
      simp only [Nat.sub_self, List.getElem_singleton] at e
      have e2 : j < vs.length := by simp at hj; omega
      rw [List.getElem_append_left e2]
      exact fun h2 => hap j e2 g h2 e
/-- A number put into a row. -/
theorem Gqv.put {lo : Nat} {w : World} {u : Value} {vs : List Value} {t : List (List Int)} (h : Gqv lo w u vs t) {i : Nat} (hi : i < t.length) {g n c : Nat} (hv : vs[i]'(by rw [h.len]; exact hi) = .slice (some ⟨g, 0, none⟩) n c) {q : Nat} (hq : q < (t[i]).length) (x : Int) :
    Gqv lo (w.setCell ⟨g, q, none⟩ (.int .i64 x)) u vs (t.set i ((t[i]).set q x)) ∧ w.frozen? ⟨g, q, none⟩ = false ∧ lo ≤ g := by
  have hl := h.len
  have hrow := h.rows i (by omega) hi
  rw [hv] at hrow
  obtain ⟨hp, hf, hlo⟩ := hrow.put hq x
  have hob : (Value.slice (some ⟨g, 0, none⟩) n c).ownBlock = some g := rfl
  have hrr : ∃ k f, w.rowIs g 2 k f := by
    rcases hrow.2 with ⟨h0, _⟩ | ⟨g', c', cur, hv2, _, hh, _⟩
    · cases h0
    · injection hv2 with e1
      injection e1 with e1
      injection e1 with e1
      subst e1
      exact ⟨cur.size, fun i => cur.getD i undef, cur, hh, rfl, fun i hi => by simp [hi]⟩
  obtain ⟨k0, f0, hrr⟩ := hrr
  refine ⟨⟨by rw [List.length_set]; exact owns_off h.own hrr (by decide) _ _, fun k h1 h2 => ?_, h.ap⟩, hf, hlo⟩
  rw [List.getElem_set]
  by_cases e : i = k
  · subst e
    rw [if_pos rfl]
    rw [hv]
    exact hp
  · rw [if_neg e]
    have hk : k < t.length := by simpa using h2
    exact ownsRow_setCell_other (h.rows k h1 hk) (fun e2 => h.ap k i h1 (by omega) (Ne.symm e) g e2 (by rw [hv]; rfl)) _
section
variable {ops : Array Oper} {rest : List Oper} {o : Oper} {a : Act} {w : World} {Q : Exit → Act → World → Prop}
end

end Go.Proofs.Ytlopenephgabhaa


namespace Go.Proofs.Ytlopenephgabhaa
open Go.RowKit

/-- The table as it is made: no row has numbers. -/
theorem gqv_made {lo : Nat} {w : World} (n : Nat) (hb : lo ≤ w.heap.size) (hn : n ≤ maxLen) (cs : Array Value) (hcs : cs.toList = List.replicate n (.slice none 0 0)) : Gqv lo (w.alloc (.cells cs 35)) (.slice (some ⟨w.heap.size, 0, none⟩) n n) (List.replicate n (.slice none 0 0)) (List.replicate n []) := by
  have hsz : cs.size = n := by rw [← Array.length_toList, hcs, List.length_replicate]
  refine ⟨⟨by simp, .inr ⟨w.heap.size, n, cs, by simp, hb, heap_alloc_new w _, by simp, hn, by rw [hsz, Nat.mul_one], ?_⟩⟩, fun k h1 h2 => ?_, fun i j hi hj _ g hg => ?_⟩
  · rw [hcs, List.length_replicate, Nat.mul_one, List.take_replicate, Nat.min_self]
  · rw [List.getElem_replicate, List.getElem_replicate]
    exact ⟨rfl, Or.inl ⟨rfl, rfl⟩⟩
  · rw [List.getElem_replicate] at hg
    simp [Value.ownBlock] at hg
/-- A row grows and is put in its place. -/
theorem Gqv.turn {lo g n cap : Nat} {w w' : World} {vs : List Value} {t : List (List Int)} {y : List Int} {row : Value} (h : Gqv lo w (.slice (some ⟨g, 0, none⟩) n cap) vs t) {i : Nat} (hi : i < t.length) (hi' : i < vs.length)
    (hg : w.grownBy w' (vs[i]).ownBlock) (hr : Gb lo w' row y) (hnew : ∀ b, row.ownBlock = some b → (vs[i]).ownBlock = some b ∨ w.heap.size ≤ b) :
    Gqv lo (w'.setCell ⟨g, i, none⟩ row) (.slice (some ⟨g, 0, none⟩) n cap) (vs.set i row) (t.set i y) ∧ w'.frozen? ⟨g, i, none⟩ = false ∧ (∃ v0, w'.cell? ⟨g, i, none⟩ = some v0) := by
  have hl := h.len
  have hri := h.rows i hi' hi
  have hown := owns_grown h.own hri (by decide) hg
  have hrow : ∀ k (h1 : k < vs.length) (h2 : k < t.length), k ≠ i → Gb lo w' vs[k] t[k] := fun k h1 h2 hk => owns_grown_off (h.rows k h1 h2) (fun b hb e => h.ap k i h1 hi' hk b hb e) hg
  obtain ⟨hl2, h2⟩ := hown
  rcases h2 with ⟨h0, _⟩ | ⟨g', c', cur, hv, hlo, hh, hnc, hcm, hcs, htk⟩
  · cases h0
  injection hv with e1 e2 e3
  injection e1 with e1
  injection e1 with e1
  subst e1 e3
  have hrr : w'.rowIs g 35 cur.size (fun i => cur.getD i undef) := ⟨cur, hh, rfl, fun i hi => by simp [hi]⟩
  have hkc : i < cur.size := by omega
  refine ⟨⟨⟨by simpa using hl2, Or.inr ⟨g, cap, cur.setIfInBounds i row, by rw [List.length_set, e2], hlo, block_setCell' hh _, by simpa using hnc, hcm, by simpa using hcs, ?_⟩⟩, fun k h1 h2 => ?_, fun a b ha hb hab q e => ?_⟩, by simp [World.frozen?, hh], ⟨_, hrr.cell hkc⟩⟩
  · simp only [List.length_set, Nat.mul_one] at htk ⊢
    rw [Array.toList_setIfInBounds, List.take_set, htk]
  · rw [List.getElem_set, List.getElem_set]
    by_cases e : i = k
    · rw [if_pos e, if_pos e]
      exact hr.off hrr (by decide) _ _
    · rw [if_neg e, if_neg e]
      exact (hrow k (by simpa using h1) (by simpa using h2) (fun x => e x.symm)).off hrr (by decide) _ _
  · have hlt : ∀ k (h1 : k < vs.length) b, (vs[k]).ownBlock = some b → b < w.heap.size := fun k h1 b hb => owns_lt (h.rows k h1 (by omega)) hb
    rw [List.getElem_set] at e ⊢
    have ha' : a < vs.length := by simpa using ha
    have hb' : b < vs.length := by simpa using hb
    by_cases ea : i = a
    · rw [if_pos ea] at e
      have eb : ¬ i = b := fun x => hab (ea.symm.trans x)
      rw [if_neg eb]
      intro h3
      rcases hnew q e with h4 | h4
      · exact h.ap i b hi' hb' eb q h4 h3
      · have := hlt b hb' q h3; omega
    · rw [if_neg ea] at e
      by_cases eb : i = b
      · rw [if_pos eb]
        intro h3
        rcases hnew q h3 with h4 | h4
        · exact h.ap i a hi' ha' ea q h4 e
        · have := hlt a ha' q e; omega
      · rw [if_neg eb]
        exact h.ap a b ha' hb' hab q e
end Go.Proofs.Ytlopenephgabhaa


namespace Go.Proofs.Ytlopenephgabhaa
open Go.RowKit Go.Shelf
attribute [local go_sem] Oper.semAt_some

/-- The cells of a column, and those of the first columns. -/
def rowCells (dims : List (List Int)) (i : Nat) : List (Nat × Nat) := (List.range (dims.getD i []).length).map fun j => (i, j)
def cellsTo (dims : List (List Int)) (i : Nat) : List (Nat × Nat) := (List.range i).flatMap (rowCells dims)
theorem cellsTo_succ (dims : List (List Int)) (i : Nat) : cellsTo dims (i + 1) = cellsTo dims i ++ rowCells dims i := by simp [cellsTo, List.range_succ]
def cellsAt (dims : List (List Int)) (i j : Nat) : List (Nat × Nat) := cellsTo dims i ++ (List.range j).map fun b => (i, b)
theorem cellsAt_zero (dims : List (List Int)) (i : Nat) : cellsAt dims i 0 = cellsTo dims i := by simp [cellsAt]
theorem cellsAt_succ (dims : List (List Int)) (i j : Nat) : cellsAt dims i (j + 1) = cellsAt dims i j ++ [(i, j)] := by simp [cellsAt, List.range_succ, List.append_assoc]
theorem cellsAt_full (dims : List (List Int)) (i : Nat) : cellsAt dims i (dims.getD i []).length = cellsTo dims (i + 1) := by rw [cellsTo_succ]; rfl
theorem cellsTo_pre (dims : List (List Int)) {i n : Nat} (h : i ≤ n) : cellsTo dims i <+: cellsTo dims n := by
  induction n with
  | zero => rw [show i = 0 by omega]; exact List.prefix_refl _
  | succ n ih =>
    by_cases e : i = n + 1
    · rw [e]; exact List.prefix_refl _
    · rw [cellsTo_succ]
      exact (ih (by omega)).trans (List.prefix_append _ _)
theorem cellsAt_pre (dims : List (List Int)) {i j n : Nat} (h : i < n) (hj : j ≤ (dims.getD i []).length) : cellsAt dims i j <+: cellsTo dims n := by
  refine List.IsPrefix.trans ?_ (cellsTo_pre dims (show i + 1 ≤ n by omega))
  rw [cellsTo_succ]
  refine List.prefix_append_right_inj _ |>.2 ?_
  unfold rowCells
  obtain ⟨d, hd⟩ : ∃ d, (dims.getD i []).length = j + d := ⟨(dims.getD i []).length - j, by omega⟩
  rw [hd, List.range_add, List.map_append]
  exact List.prefix_append _ _
set_option maxRecDepth 100000 in
set_option maxHeartbeats 4000000 in
/-- The closure of cellsOf, for every loop body that keeps what lay below n0. -/
theorem cells1_in (Fe : Fence) (n : Nat) (hf : Fe.fn 118) (hro : Fe.round = none) (hn : 1 ≤ n) (l Bs : Nat) (Kp : World → World → Prop) (hKr : ∀ W, Kp W W) (hKt : ∀ {A B C : World}, Kp A B → Kp B C → Kp A C) (dv : Value) (dims : List (List Int)) (hl1 : dims.length ≤ 1048576) (hl2 : ∀ r ∈ dims, r.length ≤ 1048576) (J Jx : List (Nat × Nat) → World → Prop)
    (hY : ∀ pre x W, J pre W → pre ++ [x] <+: cellsTo dims dims.length → YieldAt Fe (n - 1) Try.prog l #[.agg #[.int .i64 (x.1 : Int), .int .i64 (x.2 : Int)]] W fun e W' =>
      (e = .returned (.bool true) ∧ J (pre ++ [x]) W' ∧ Kp W W') ∨ (e = .returned (.bool false) ∧ Jx (pre ++ [x]) W'))
    (W : World) (hd : W.cell? ⟨Bs, 1, none⟩ = some dv) (hc : ∀ W', Kp W W' → L2 0 W' dv dims) (h0 : J [] W) :
    CallsIn Fe n Try.prog 118 #[.func (.yield l) #[] #[], .pointer (some ⟨Bs, 0, none⟩)] W fun e W' => (∃ v, e = .returned v) ∧
      ((∃ xs, xs = cellsTo dims dims.length ∧ J xs W') ∨ (∃ pre, pre <+: cellsTo dims dims.length ∧ Jx pre W')) := by
  obtain ⟨ad, cd, rfl⟩ := Sl.shape (hc W (hKr _))
  obtain ⟨m, hm⟩ : ∃ m, m = dims.length := ⟨_, rfl⟩
  rw [← hm] at hd hl1
  have HM := Lib.hid hm
  have HC := Lib.hid hc
  have HL2 := Lib.hid hl2
  clear hc hl2 hm
  refine callsIn_of_wp Try.func118 rfl hf ?_ hro
  simp only [Try.ntmps118, List.size_toArray, List.length_cons, List.length_nil, Nat.reduceAdd, Nat.reduceSub, Array.replicate_succ, Array.replicate_zero, List.push_toArray, List.append_toArray, List.nil_append, List.cons_append]
  gi_wp2
  gi_loopw [9] (fun i wr => ∃ k : Nat, k ≤ m ∧ i = .int .i64 k ∧ J (cellsTo dims k) wr ∧ Kp W wr) (fun i _ => m - (intOf i).toNat)
  case atStart => exact ⟨0, Nat.zero_le _, rfl, h0, hKr _⟩
  case round =>
    obtain ⟨k, hk, rfl, hJs, hnx⟩ := hrel
    by_cases hlt : k < m
    · have hlt' : k < dims.length := by rw [← HM.out]; exact hlt
      have hL := HC.out wr hnx
      rcases hL with ⟨hx, _⟩ | ⟨b, o, c2, hv, _, _, hcl⟩
      · rw [hx] at hlt'
        exact absurd hlt' (Nat.not_lt_zero _)
      injection hv with e1 e2 e3
      subst e1 e3
      obtain ⟨ur, hur, hrr⟩ := hcl k hlt'
      obtain ⟨ar, cr, hus⟩ := Sl.shape hrr
      subst hus
      obtain ⟨q0, hq0⟩ : ∃ q, q = (dims[k]).length := ⟨_, rfl⟩
      have HQ : Hid (q0 = (dims.getD k []).length) := Lib.hid (by rw [hq0]; simp [hlt'])
      have hq8 : q0 ≤ 1048576 := by rw [hq0]; exact HL2.out _ (List.getElem_mem hlt')
      rw [← hq0] at hur
      clear hcl hrr hq0 e2 hlt'
      gi_wp2
      gi_loopw [16] (fun j wr2 => ∃ q : Nat, q ≤ q0 ∧ j = .int .i64 q ∧ J (cellsAt dims k q) wr2 ∧ Kp W wr2) (fun j _ => q0 - (intOf j).toNat)
      case atStart => exact ⟨0, Nat.zero_le _, rfl, by rw [cellsAt_zero]; exact hJs, hnx⟩
      case round =>
        obtain ⟨q, hq, rfl, hJq, hnq⟩ := hrel
        by_cases hlq : q < q0
        · obtain ⟨fn, tmps, assign, body, hy, hR⟩ := hY _ (k, q) _ hJq (by rw [← cellsAt_succ, ← HM.out]; exact cellsAt_pre dims hlt (by rw [← HQ.out]; exact hlq))
          dsimp only at hy
          gi_wp2
          refine hR.mono ?_
          rintro e W3 (⟨rfl, hJ3, hk3⟩ | ⟨rfl, hJx3⟩)
          · gi_wp2
            go_roundw
            case rel => exact ⟨q + 1, by omega, by go_num, by rw [cellsAt_succ]; exact hJ3, hKt hnq hk3⟩
            case measure => simp [intOf]; omega
          · gi_wp2
            refine bodyPost_ret (results_none rfl _ _ _) rfl ?_
            exact ⟨⟨_, rfl⟩, .inr ⟨_, by rw [← cellsAt_succ, ← HM.out]; exact cellsAt_pre dims hlt (by rw [← HQ.out]; exact hlq), hJx3⟩⟩
        · obtain rfl : q = q0 := by omega
          rw [HQ.out, cellsAt_full] at hJq
          gi_wp2
          go_roundw
          case rel => exact ⟨k + 1, by omega, by go_num, hJq, hnq⟩
          case measure => simp [intOf]; omega
    · obtain rfl : k = m := by omega
      gi_wp2
      go_end0
      exact ⟨⟨_, rfl⟩, .inl ⟨_, by rw [HM.out], hJs⟩⟩

/-- The cells of the columns, as a type. -/
def CellIn (dims : List (List Int)) : Type := { c : Nat × Nat // c ∈ cellsTo dims dims.length }
def cellV {dims : List (List Int)} (x : CellIn dims) : Value := .agg #[.int .i64 (x.1.1 : Int), .int .i64 (x.1.2 : Int)]

/-- As the laws of a range want it. -/
theorem cells_stopsK (Fe : Fence) (n : Nat) (hf : Fe.fn 118) (hro : Fe.round = none) (hn : 1 ≤ n) (Bs : Nat) (dv : Value) (dims : List (List Int)) (hl1 : dims.length ≤ 1048576) (hl2 : ∀ r ∈ dims, r.length ≤ 1048576) (Kp : World → World → Prop) (hKr : ∀ W, Kp W W) (hKt : ∀ {A B C : World}, Kp A B → Kp B C → Kp A C) (w : World)
    (hBs : Bs < w.heap.size) (hd : w.cell? ⟨Bs, 1, none⟩ = some dv) (hL : ∀ W W', Below w.heap.size w W → Kp W W' → L2 0 W' dv dims) :
    SeqStopsK Fe n Try.prog 118 #[.pointer (some ⟨Bs, 0, none⟩)] (fun x : CellIn dims => #[cellV x]) Kp (fun ys => ys.map (·.1) = cellsTo dims dims.length) (fun pre => pre.map (·.1) <+: cellsTo dims dims.length) (cellsTo dims dims.length).length w :=
  fun l J Jx W hW _ _ hY h0 => by
    refine (cells1_in Fe n hf hro hn l Bs Kp hKr hKt dv dims hl1 hl2 (fun pre W => ∃ ys : List (CellIn dims), ys.map (·.1) = pre ∧ J ys W) (fun pre W => ∃ ys : List (CellIn dims), ys.map (·.1) = pre ∧ Jx ys W) ?_ W ((hW.cell (p := ⟨Bs, 1, none⟩) hBs).trans hd)
      (fun W' hW' => hL W W' hW hW') ⟨[], rfl, h0⟩).mono ?_
    · rintro pre x W1 ⟨ys, rfl, hJ⟩ hpre
      have hmem : x ∈ cellsTo dims dims.length := hpre.subset (by simp)
      have hlen := hpre.length_le
      simp only [List.length_append, List.length_map, List.length_singleton] at hlen
      refine (hY ys ⟨x, hmem⟩ W1 hJ (by omega)).mono ?_
      rintro e W' (⟨he, hj, hk⟩ | ⟨he, hj⟩)
      · exact .inl ⟨he, ⟨_, by rw [List.map_append]; rfl, hj⟩, hk⟩
      · exact .inr ⟨he, ⟨_, by rw [List.map_append]; rfl, hj⟩⟩
    · rintro e W' ⟨hv, ⟨xs, rfl, ys, hy, hj⟩ | ⟨pre, hp, ys, rfl, hj⟩⟩
      · exact ⟨hv, .inl ⟨ys, hy, hj⟩⟩
      · exact ⟨hv, .inr ⟨ys, hp, hj⟩⟩
/-- As the laws of a range want it. -/
theorem cells_stops (Fe : Fence) (n : Nat) (hf : Fe.fn 118) (hro : Fe.round = none) (hn : 1 ≤ n) (Bs : Nat) (dv : Value) (dims : List (List Int)) (hl1 : dims.length ≤ 1048576) (hl2 : ∀ r ∈ dims, r.length ≤ 1048576) (w0 w : World)
    (hBs : Bs < w.heap.size) (hd : w.cell? ⟨Bs, 1, none⟩ = some dv) (hL : L2 0 w0 dv dims) (hb : Below w0.heap.size w0 w) :
    SeqStopsK Fe n Try.prog 118 #[.pointer (some ⟨Bs, 0, none⟩)] (fun x : CellIn dims => #[cellV x]) (Below w0.heap.size) (fun ys => ys.map (·.1) = cellsTo dims dims.length) (fun pre => pre.map (·.1) <+: cellsTo dims dims.length) (cellsTo dims dims.length).length w :=
  cells_stopsK Fe n hf hro hn Bs dv dims hl1 hl2 _ (fun W => Below.refl _ W) (fun h k => h.trans k) w hBs hd (fun _ _ hW hW' => hL.below ((hb.trans (hW.mono hb.size)).trans hW'))

/-- A range whose one variable is boxed in every round: the block's number is told. -/
theorem wpIn_rangeFunc_cell {P : Program} {F : Fence} {n : Nat} {α : Type} {g : Operand} {ps : Array Tmp} {assign body : Code} {Q : Exit → Act → World → Prop} {a : Act} {w : World}
    (hro : F.round = none) (h1 : 1 ≤ n) {gf : Nat} {lb : Array Value} (hg : a.eval g = .func (.func gf) #[] lb) (hFg : F.fn gf) (eg : ∀ args w, (callFunc gf args).run P w = .ok (.enter gf args) w)
    {encs : α → Array Value} {Kp : World → World → Prop} {S Sp : List α → Prop} {N : Nat} {w0 : World} (hseq : SeqStopsK F (n - 1) P gf lb encs Kp S Sp N w0)
    (hKt : ∀ {A B C : World}, Kp A B → Kp B C → Kp A C) (hKb : ∀ (W : World) (l : Nat) (o o' : Obj), w.heap.size ≤ l → W.heap[l]? = some o → o.isCells = false → o.isWalk = false → Kp W (W.putObj l o')) (hb0 : Below w0.heap.size w0 w) (hps : ∀ x, (encs x).size = ps.size)
    (I : List α → World → Prop) (Ix : Code → List α → World → Prop) (hI : OwnFrom w.heap.size I) (hIx : ∀ c, OwnFrom w.heap.size (Ix c)) (h0 : I [] w) (cv : α → Array Value) (tb : Tmp) (ty : TypeId) (D : Nat)
    (hassign : ∀ (l : Nat) (pre : List α) (x : α) (W : World) (K : Act → World → Prop), I pre W →
      (∀ Bx W', D ≤ Bx → W'.heap[Bx]? = some (.cells (cv x) ty (0, 0)) → KeepsFrom w.heap.size W W' → Kp W W' → I pre W' → K { tmps := ((ps.zip (encs x)).foldl (fun t (p, v) => t.setIfInBounds p v) a.tmps).setIfInBounds tb (.pointer (some ⟨Bx, 0, none⟩)), defers := [] } W') →
      assign.wpIn (F.inRound l) (n - 1 - 1) P (Exit.then K (fun _ _ _ => False)) { tmps := (ps.zip (encs x)).foldl (fun t (p, v) => t.setIfInBounds p v) a.tmps, defers := [] } W)
    (hbody : ∀ (l : Nat) (pre : List α) (x : α) (Bx : Nat) (W : World), w.heap.size ≤ l → (∃ r, W.heap[l]? = some (.loop r)) → I pre W → D ≤ Bx → W.heap[Bx]? = some (.cells (cv x) ty (0, 0)) → pre.length < N →
      body.wpIn (F.inRound l) (n - 1 - 1) P (ownPostG w.heap.size Kp I Ix (pre ++ [x]) W) { tmps := ((ps.zip (encs x)).foldl (fun t (p, v) => t.setIfInBounds p v) a.tmps).setIfInBounds tb (.pointer (some ⟨Bx, 0, none⟩)), defers := [] } W)
    (hdone : ∀ (D : Nat) (xs : List α) (W : World), w.heap.size ≤ D → S xs → I xs W → W.heap[D]? = some (.deferred (some [])) → Q .normal { a with defers := { target := .collected D, args := #[] } :: a.defers } W)
    (hstop : ∀ (D : Nat) (c : Code) (pre : List α) (W : World), w.heap.size ≤ D → Sp pre → Ix c pre W → W.heap[D]? = some (.deferred (some [])) → c.wpIn F n P Q { a with defers := { target := .collected D, args := #[] } :: a.defers } W) :
    (Code.rangeFunc g ps assign body).wpIn F n P Q a w :=
  wpIn_rangeFunc_ownH hro h1 hg hFg eg hseq hKt hKb hb0 hps I Ix hI hIx h0
    (fun x a' W => ∃ Bx, D ≤ Bx ∧ W.heap[Bx]? = some (.cells (cv x) ty (0, 0)) ∧ a' = { tmps := ((ps.zip (encs x)).foldl (fun t (p, v) => t.setIfInBounds p v) a.tmps).setIfInBounds tb (.pointer (some ⟨Bx, 0, none⟩)), defers := [] })
    (fun x a' _ X Y row hs hg hr => by
      obtain ⟨Bx, h1, h2, h3⟩ := hs
      refine ⟨Bx, h1, ?_, h3⟩
      exact (hg.block Bx (Array.getElem?_eq_some_iff.1 h2).1 (fun e => by obtain ⟨_, ho, hc⟩ := (hr Bx e.symm).2; rw [h2] at ho; cases ho; cases hc)).trans h2)
    (fun l pre x W K hi hK => hassign l pre x W K hi (fun Bx W' hD hX hkf hkp hi' => hK _ W' hkf hkp hi' ⟨Bx, hD, hX, rfl⟩))
    (fun l pre x a' W hl hr hi hax hlt => by
      obtain ⟨Bx, hD, hX, rfl⟩ := hax
      exact hbody l pre x Bx W hl hr hi hD hX hlt)
    hdone hstop
theorem keepsFrom_below {B : Nat} {W W' : World} (h : Below W.heap.size W W') : KeepsFrom B W W' := ⟨h.size, fun k _ _ hk _ => (h.block k (Array.getElem?_eq_some_iff.1 hk).1).trans hk⟩
theorem cells_fst {dims : List (List Int)} {i : Nat} {c : Nat × Nat} (h : c ∈ cellsTo dims i) : c.1 < i ∧ c.2 < (dims.getD c.1 []).length := by
  unfold cellsTo rowCells at h
  simp only [List.mem_flatMap, List.mem_range, List.mem_map] at h
  obtain ⟨k, hk, j, hj, rfl⟩ := h
  exact ⟨hk, hj⟩

set_option maxRecDepth 100000 in
theorem cellsOf_any (p : Int) (dv av vv : Value) (w : World) :
    Calls Try.prog 94 #[.agg #[.int .i64 p, dv, av, vv]] w fun e w' => e = .returned (.func (.func 118) #[] #[.pointer (some ⟨w.heap.size, 0, none⟩)]) ∧ w' = w.alloc (.cells #[.int .i64 p, dv, av, vv] 28) := by
  go_enter Try.func94, Try.ntmps94
  go_wp2
  go_ret
  exact ⟨rfl, rfl⟩
end Go.Proofs.Ytlopenephgabhaa


namespace Go.Proofs.Ytlopenephgabhaa
open Go.RowKit

section
variable {F : Fence} {n : Nat} {P : Program} {α : Type}

/-- The contract of an iterator that lays records and turns them: what lay as no cells at its call must be kept by the rounds, and the caller's word abides turns beyond the call. -/
def SeqO (F : Fence) (n : Nat) (P : Program) (g : Nat) (lb : Array Value) (encs : α → Array Value) (Kp : World → World → Prop) (S Sp : List α → Prop) (N : Nat) (w : World) : Prop :=
  ∀ (l : Nat) (J Jx : List α → World → Prop) (W : World), Below w.heap.size w W → OwnFrom W.heap.size J → OwnFrom W.heap.size Jx →
    (∀ pre x W1, J pre W1 → pre.length < N → YieldAt F (n - 1) P l (encs x) W1 fun e W' =>
      KeepsFrom W.heap.size W1 W' ∧ ((e = .returned (.bool true) ∧ J (pre ++ [x]) W' ∧ Kp W1 W') ∨ (e = .returned (.bool false) ∧ Jx (pre ++ [x]) W'))) →
    J [] W →
    CallsIn F n P g (#[.func (.yield l) #[] #[]] ++ lb) W fun e W' => (∃ v, e = .returned v) ∧ ((∃ xs, S xs ∧ J xs W') ∨ (∃ pre, Sp pre ∧ Jx pre W'))

theorem SeqO.inRound {g : Nat} {lb : Array Value} {encs : α → Array Value} {Kp : World → World → Prop} {S Sp : List α → Prop} {N : Nat} {w0 : World} (l : Nat) (h : SeqO F n P g lb encs Kp S Sp N w0) : SeqO (F.inRound l) n P g lb encs Kp S Sp N w0 := h

theorem keepsFrom_putObj {B l : Nat} (h : l < B) (W : World) (o : Obj) : KeepsFrom B W (W.putObj l o) :=
  ⟨by simp, fun _ _ hk h0 _ => (World.putObj_heap_other (by omega)).trans h0⟩
theorem kf_narrow {B B' : Nat} {W W' : World} (h : KeepsFrom B W W') (hb : B ≤ B') : KeepsFrom B' W W' := ⟨h.size, fun k o hk h0 ho => h.same k o (Nat.le_trans hb hk) h0 ho⟩
theorem ownFrom_at {β : Type} {B k : Nat} {o : Obj} (h : k < B) : OwnFrom B (fun (_ : β) W => W.heap[k]? = some o) := fun _ X _ _ hs hg hr =>
  (hg.block k (Array.getElem?_eq_some_iff.1 hs).1 (fun e => by have := (hr k e.symm).1; omega)).trans hs
theorem of_wide {β : Type} {B B' : Nat} {I : β → World → Prop} (h : OwnFrom B I) (hb : B ≤ B') : OwnFrom B' I := fun s W W' row hs hg hr => h s W W' row hs hg (fun r e => ⟨Nat.le_trans hb (hr r e).1, (hr r e).2⟩)

/-- A loop's record by its state. -/
def recO (fn : FuncId) (a : Act) (ps : Array Tmp) (assign body : Code) (df : Nat) (st : LoopState) (pe : Option Code) : Loop := { state := st, pending := pe, fn, tmps := a.tmps, params := ps, assign, body, defers := df }

/-- The statement, once the record's block is told. -/
theorem wpIn_range_core {g : Operand} {ps : Array Tmp} {assign body : Code} {Q : Exit → Act → World → Prop} {a : Act} {w W0 : World} {mark : List Deferred}
    (hlay : ∀ fn, ∃ df, (Instr.enterLoop fn a.tmps ps assign body F.round).run P w = .ok (W0.heap.size, mark) (W0.alloc (.loop (recO fn a ps assign body df .ready none))))
    (h1 : 1 ≤ n) {gf : Nat} {lb : Array Value} (hg : a.eval g = .func (.func gf) #[] lb) (hFg : F.fn gf) (eg : ∀ args w, (callFunc gf args).run P w = .ok (.enter gf args) w)
    {encs : α → Array Value} {Kp : World → World → Prop} {S Sp : List α → Prop} {N : Nat} {w0 : World} (hseq : SeqO F (n - 1) P gf lb encs Kp S Sp N w0)
    (hKt : ∀ {A B C : World}, Kp A B → Kp B C → Kp A C) (hKb : ∀ (W : World) (o o' : Obj), W.heap[W0.heap.size]? = some o → o.isCells = false → Kp W (W.putObj W0.heap.size o')) (hb0 : Below w0.heap.size w0 W0) (hps : ∀ x, (encs x).size = ps.size)
    (I : List α → World → Prop) (Ix : Code → List α → World → Prop) (hI : OwnFrom W0.heap.size I) (hIx : ∀ c, OwnFrom W0.heap.size (Ix c)) (h0 : I [] W0) (Ax : α → Act → World → Prop) (hAx : ∀ x a', OwnFrom W0.heap.size (fun (_ : Unit) W => Ax x a' W))
    (hassign : ∀ (pre : List α) (x : α) (W : World) (K : Act → World → Prop), I pre W → (∀ a' W', KeepsFrom W0.heap.size W W' → Kp W W' → I pre W' → Ax x a' W' → K a' W') →
      assign.wpIn (F.inRound W0.heap.size) (n - 1 - 1) P (Exit.then K (fun _ _ _ => False)) { tmps := (ps.zip (encs x)).foldl (fun t (p, v) => t.setIfInBounds p v) a.tmps, defers := [] } W)
    (hbody : ∀ (pre : List α) (x : α) (a' : Act) (W : World), (∃ r, W.heap[W0.heap.size]? = some (.loop r)) → I pre W → Ax x a' W → pre.length < N → body.wpIn (F.inRound W0.heap.size) (n - 1 - 1) P (ownPostG W0.heap.size Kp I Ix (pre ++ [x]) W) a' W)
    (hdone : ∀ (xs : List α) (W : World), S xs → I xs W → Q .normal { a with defers := mark ++ a.defers } W)
    (hstop : ∀ (c : Code) (pre : List α) (W : World), Sp pre → Ix c pre W → c.wpIn F n P Q { a with defers := mark ++ a.defers } W) :
    (Code.rangeFunc g ps assign body).wpIn F n P Q a w := by
  refine wpIn_rangeFunc fun fn hfn => ?_
  obtain ⟨df, he⟩ := hlay fn
  have hsz : (W0.alloc (.loop (recO fn a ps assign body df .ready none))).heap.size = W0.heap.size + 1 := by simp
  have hL : (W0.alloc (.loop (recO fn a ps assign body df .ready none))).heap[W0.heap.size]? = some (.loop (recO fn a ps assign body df .ready none)) := World.alloc_heap_new W0 _
  refine ⟨_, mark, _, { target := .fn (.func gf) lb, args := #[.func (.yield W0.heap.size) #[] #[]] }, W0.alloc (.loop (recO fn a ps assign body df .ready none)), gf, #[.func (.yield W0.heap.size) #[] #[]] ++ lb, W0.alloc (.loop (recO fn a ps assign body df .ready none)), he, ?_, ?_, ?_, fun _ => h1, ?_⟩
  · simp only [resolve, hg]
    simp [go_sem]
  · intro f' hf'
    simp [Target.leads] at hf'
    exact hf' ▸ hFg
  · simp [invoke, go_sem, eg]
  refine (hseq W0.heap.size (fun pre W => I pre W ∧ W.heap[W0.heap.size]? = some (.loop (recO fn a ps assign body df .ready none)))
    (fun pre W => ∃ c, Ix c pre W ∧ W.heap[W0.heap.size]? = some (.loop (recO fn a ps assign body df .done (some c)))) _
    (hb0.trans (((Below.refl _ W0).alloc (Nat.le_refl _) _).mono hb0.size))
    (OwnFrom.and (of_wide hI (by omega)) (ownFrom_at (by omega)))
    (fun s A B row ⟨c, hc, hl⟩ hgr hr => ⟨c, of_wide (hIx c) (by omega) s A B row hc hgr hr, ownFrom_at (β := Unit) (by omega) () A B row hl hgr hr⟩)
    ?_ ⟨hI.alloc _ h0, hL⟩).mono ?_
  · rw [hsz]
    rintro pre x W ⟨hi, hl⟩ hlen
    refine ⟨fn, _, assign, body, run_yield hl (hps x), roundIn_of_wpIn hfn (hassign pre x W _ hi fun a' Wa hka hpa hia hax => ?_)⟩
    have hla := hka.same _ _ (Nat.le_refl _) hl rfl
    refine ⟨_, run_beginRound hla rfl, ?_⟩
    have hlb : (Wa.putObj W0.heap.size (.loop { recO fn a ps assign body df .ready none with state := .busy })).heap[W0.heap.size]? = some (.loop { recO fn a ps assign body df .ready none with state := .busy }) := World.putObj_heap_same (Array.getElem?_eq_some_iff.1 hla).1
    have hk1 : KeepsFrom (W0.heap.size + 1) W (Wa.putObj W0.heap.size (.loop { recO fn a ps assign body df .ready none with state := .busy })) := (kf_narrow hka (Nat.le_succ _)).trans (keepsFrom_putObj (Nat.lt_succ_self _) _ _)
    have hkp1 := hKt hpa (hKb Wa _ (.loop { recO fn a ps assign body df .ready none with state := .busy }) hla rfl)
    have hout : ∀ {j : Option Code} {W3 : World}, KeepsFrom W0.heap.size (Wa.putObj W0.heap.size (.loop { recO fn a ps assign body df .ready none with state := .busy })) W3 →
        (Instr.endRound W0.heap.size j).run P W3 = .ok (.bool j.isNone) (W3.putObj W0.heap.size (.loop (recO fn a ps assign body df (if j.isNone then .ready else .done) j))) ∧
        W3.heap[W0.heap.size]? = some (.loop { recO fn a ps assign body df .ready none with state := .busy }) ∧
        (W3.putObj W0.heap.size (.loop (recO fn a ps assign body df (if j.isNone then .ready else .done) j))).heap[W0.heap.size]? = some (.loop (recO fn a ps assign body df (if j.isNone then .ready else .done) j)) ∧
        KeepsFrom (W0.heap.size + 1) W (W3.putObj W0.heap.size (.loop (recO fn a ps assign body df (if j.isNone then .ready else .done) j))) := fun {j W3} hk3 =>
      have hl3 := hk3.same _ _ (Nat.le_refl _) hlb rfl
      ⟨run_endRound j hl3, hl3, World.putObj_heap_same (Array.getElem?_eq_some_iff.1 hl3).1, hk1.trans ((kf_narrow hk3 (Nat.le_succ _)).trans (keepsFrom_putObj (Nat.lt_succ_self _) _ _))⟩
    refine wpIn_mono (hbody pre x a' _ ⟨_, hlb⟩ (hI.putObj _ hia (Nat.le_refl _) hla rfl) ((hAx x a').putObj (s := ()) _ hax (Nat.le_refl _) hla rfl) hlen) ?_
    have hgone : ∀ {c : Code} {W3 : World}, KeepsFrom W0.heap.size (Wa.putObj W0.heap.size (.loop { recO fn a ps assign body df .ready none with state := .busy })) W3 → Ix c (pre ++ [x]) W3 →
        ∃ v w', (Instr.endRound W0.heap.size (some c)).run P W3 = .ok v w' ∧ (KeepsFrom (W0.heap.size + 1) W w' ∧
          ((Ending.returned v = .returned (.bool true) ∧ (I (pre ++ [x]) w' ∧ w'.heap[W0.heap.size]? = some (.loop (recO fn a ps assign body df .ready none))) ∧ Kp W w') ∨
           (Ending.returned v = .returned (.bool false) ∧ ∃ c, Ix c (pre ++ [x]) w' ∧ w'.heap[W0.heap.size]? = some (.loop (recO fn a ps assign body df .done (some c)))))) := fun {c W3} hk3 hi3 => by
      obtain ⟨hr, hl3, hl4, hk4⟩ := hout (j := some c) hk3
      exact ⟨_, _, hr, hk4, .inr ⟨rfl, c, (hIx c).putObj _ hi3 (Nat.le_refl _) hl3 rfl, hl4⟩⟩
    rintro e a3 W3 hp
    cases e with
    | normal =>
      obtain ⟨hk3, hkp3, hi3⟩ := hp
      obtain ⟨hr, hl3, hl4, hk4⟩ := hout (j := none) hk3
      exact ⟨_, _, hr, hk4, .inl ⟨rfl, ⟨hI.putObj _ hi3 (Nat.le_refl _) hl3 rfl, hl4⟩, hKt (hKt hkp1 hkp3) (hKb _ _ _ hl3 rfl)⟩⟩
    | ret => exact hgone hp.1 hp.2
    | exit id => exact hgone hp.1 hp.2
    | goto t => exact hgone hp.1 hp.2
    | panic ch => exact hp.elim
    | outgrown => exact hp.elim
  · rintro e W2 ⟨⟨v, rfl⟩, (⟨xs, hS, hi, hl⟩ | ⟨pre, hSp, c, hi, hl⟩)⟩
    · exact ⟨none, _, run_endLoop (P := P) hl (by simp [recO]), hdone xs _ hS (hI.putObj _ hi (Nat.le_refl _) hl rfl)⟩
    · exact ⟨some c, _, run_endLoop (P := P) hl (by simp [recO]), hstop c pre _ hSp ((hIx c).putObj _ hi (Nat.le_refl _) hl rfl)⟩

/-- No loop around it. -/
theorem wpIn_rangeO {g : Operand} {ps : Array Tmp} {assign body : Code} {Q : Exit → Act → World → Prop} {a : Act} {w : World}
    (hro : F.round = none) (h1 : 1 ≤ n) {gf : Nat} {lb : Array Value} (hg : a.eval g = .func (.func gf) #[] lb) (hFg : F.fn gf) (eg : ∀ args w, (callFunc gf args).run P w = .ok (.enter gf args) w)
    {encs : α → Array Value} {Kp : World → World → Prop} {S Sp : List α → Prop} {N : Nat} {w0 : World} (hseq : SeqO F (n - 1) P gf lb encs Kp S Sp N w0)
    (hKt : ∀ {A B C : World}, Kp A B → Kp B C → Kp A C) (hKb : ∀ (W : World) (l : Nat) (o o' : Obj), w.heap.size ≤ l → W.heap[l]? = some o → o.isCells = false → Kp W (W.putObj l o')) (hb0 : Below w0.heap.size w0 w) (hps : ∀ x, (encs x).size = ps.size)
    (I : List α → World → Prop) (Ix : Code → List α → World → Prop) (hI : OwnFrom w.heap.size I) (hIx : ∀ c, OwnFrom w.heap.size (Ix c)) (h0 : I [] w) (Ax : α → Act → World → Prop) (hAx : ∀ x a', OwnFrom w.heap.size (fun (_ : Unit) W => Ax x a' W))
    (hassign : ∀ (l : Nat) (pre : List α) (x : α) (W : World) (K : Act → World → Prop), I pre W → (∀ a' W', KeepsFrom w.heap.size W W' → Kp W W' → I pre W' → Ax x a' W' → K a' W') →
      assign.wpIn (F.inRound l) (n - 1 - 1) P (Exit.then K (fun _ _ _ => False)) { tmps := (ps.zip (encs x)).foldl (fun t (p, v) => t.setIfInBounds p v) a.tmps, defers := [] } W)
    (hbody : ∀ (l : Nat) (pre : List α) (x : α) (a' : Act) (W : World), w.heap.size ≤ l → (∃ r, W.heap[l]? = some (.loop r)) → I pre W → Ax x a' W → pre.length < N → body.wpIn (F.inRound l) (n - 1 - 1) P (ownPostG w.heap.size Kp I Ix (pre ++ [x]) W) a' W)
    (hdone : ∀ (D : Nat) (xs : List α) (W : World), w.heap.size ≤ D → S xs → I xs W → W.heap[D]? = some (.deferred (some [])) → Q .normal { a with defers := { target := .collected D, args := #[] } :: a.defers } W)
    (hstop : ∀ (D : Nat) (c : Code) (pre : List α) (W : World), w.heap.size ≤ D → Sp pre → Ix c pre W → W.heap[D]? = some (.deferred (some [])) → c.wpIn F n P Q { a with defers := { target := .collected D, args := #[] } :: a.defers } W) :
    (Code.rangeFunc g ps assign body).wpIn F n P Q a w := by
  have hs : (w.alloc (.deferred (some []))).heap.size = w.heap.size + 1 := by simp
  have hw : OwnFrom (w.heap.size + 1) (fun (_ : List α) W => W.heap[w.heap.size]? = some (.deferred (some []))) := ownFrom_at (Nat.lt_succ_self _)
  have hkf : ∀ {W W' : World}, KeepsFrom w.heap.size W W' → W.heap[w.heap.size]? = some (.deferred (some [])) → W'.heap[w.heap.size]? = some (.deferred (some [])) := fun hk h => hk.same _ _ (Nat.le_refl _) h rfl
  refine wpIn_range_core (W0 := w.alloc (.deferred (some []))) (mark := [{ target := .collected w.heap.size, args := #[] }])
    (fun fn => ⟨w.heap.size, by rw [hro, hs]; exact run_enterLoop_outer _ _ _ _ _⟩) h1 hg hFg eg hseq hKt (fun W o o' ho hc => hKb W _ o o' (by omega) ho hc)
    (hb0.trans (((Below.refl _ w).alloc (Nat.le_refl _) _).mono hb0.size)) hps
    (fun pre W => I pre W ∧ W.heap[w.heap.size]? = some (.deferred (some []))) (fun c pre W => Ix c pre W ∧ W.heap[w.heap.size]? = some (.deferred (some [])))
    (by rw [hs]; exact OwnFrom.and (of_wide hI (Nat.le_succ _)) hw) (fun c => by rw [hs]; exact OwnFrom.and (of_wide (hIx c) (Nat.le_succ _)) hw) ⟨hI.alloc _ h0, World.alloc_heap_new w _⟩ Ax (fun x a' => by rw [hs]; exact of_wide (hAx x a') (Nat.le_succ _))
    (fun pre x W K hi hK => ?_) (fun pre x a' W hr hi hax hlen => ?_) (fun xs W hS hi => hdone _ xs W (Nat.le_refl _) hS hi.1 hi.2) (fun c pre W hS hi => hstop _ c pre W (Nat.le_refl _) hS hi.1 hi.2)
  · rw [hs] at hK ⊢
    exact hassign _ pre x W K hi.1 (fun a' W' hk hp hi' hax => hK a' W' (kf_narrow hk (Nat.le_succ _)) hp ⟨hi', hkf hk hi.2⟩ hax)
  · rw [hs] at hr ⊢
    refine wpIn_mono (hbody _ pre x a' W (Nat.le_succ _) hr hi.1 hax hlen) ?_
    rintro e a3 W3 hp
    cases e with
    | normal => exact ⟨kf_narrow hp.1 (Nat.le_succ _), hp.2.1, hp.2.2, hkf hp.1 hi.2⟩
    | ret => exact ⟨kf_narrow hp.1 (Nat.le_succ _), hp.2, hkf hp.1 hi.2⟩
    | exit id => exact ⟨kf_narrow hp.1 (Nat.le_succ _), hp.2, hkf hp.1 hi.2⟩
    | goto t => exact ⟨kf_narrow hp.1 (Nat.le_succ _), hp.2, hkf hp.1 hi.2⟩
    | panic ch => exact hp.elim
    | outgrown => exact hp.elim

/-- Within a round. -/
theorem wpIn_rangeOin {g : Operand} {ps : Array Tmp} {assign body : Code} {Q : Exit → Act → World → Prop} {a : Act} {w : World} {lo : Nat} {r0 : Loop}
    (hro : F.round = some lo) (hlo : w.heap[lo]? = some (.loop r0)) (h1 : 1 ≤ n) {gf : Nat} {lb : Array Value} (hg : a.eval g = .func (.func gf) #[] lb) (hFg : F.fn gf) (eg : ∀ args w, (callFunc gf args).run P w = .ok (.enter gf args) w)
    {encs : α → Array Value} {Kp : World → World → Prop} {S Sp : List α → Prop} {N : Nat} {w0 : World} (hseq : SeqO F (n - 1) P gf lb encs Kp S Sp N w0)
    (hKt : ∀ {A B C : World}, Kp A B → Kp B C → Kp A C) (hKb : ∀ (W : World) (l : Nat) (o o' : Obj), w.heap.size ≤ l → W.heap[l]? = some o → o.isCells = false → Kp W (W.putObj l o')) (hb0 : Below w0.heap.size w0 w) (hps : ∀ x, (encs x).size = ps.size)
    (I : List α → World → Prop) (Ix : Code → List α → World → Prop) (hI : OwnFrom w.heap.size I) (hIx : ∀ c, OwnFrom w.heap.size (Ix c)) (h0 : I [] w) (Ax : α → Act → World → Prop) (hAx : ∀ x a', OwnFrom w.heap.size (fun (_ : Unit) W => Ax x a' W))
    (hassign : ∀ (l : Nat) (pre : List α) (x : α) (W : World) (K : Act → World → Prop), I pre W → (∀ a' W', KeepsFrom w.heap.size W W' → Kp W W' → I pre W' → Ax x a' W' → K a' W') →
      assign.wpIn (F.inRound l) (n - 1 - 1) P (Exit.then K (fun _ _ _ => False)) { tmps := (ps.zip (encs x)).foldl (fun t (p, v) => t.setIfInBounds p v) a.tmps, defers := [] } W)
    (hbody : ∀ (l : Nat) (pre : List α) (x : α) (a' : Act) (W : World), w.heap.size ≤ l → (∃ r, W.heap[l]? = some (.loop r)) → I pre W → Ax x a' W → pre.length < N → body.wpIn (F.inRound l) (n - 1 - 1) P (ownPostG w.heap.size Kp I Ix (pre ++ [x]) W) a' W)
    (hdone : ∀ (xs : List α) (W : World), S xs → I xs W → Q .normal a W)
    (hstop : ∀ (c : Code) (pre : List α) (W : World), Sp pre → Ix c pre W → c.wpIn F n P Q a W) :
    (Code.rangeFunc g ps assign body).wpIn F n P Q a w :=
  wpIn_range_core (W0 := w) (mark := []) (fun fn => ⟨r0.defers, by rw [hro]; exact run_enterLoop_inner hlo _ _ _ _ _⟩) h1 hg hFg eg hseq hKt (fun W o o' ho hc => hKb W _ o o' (Nat.le_refl _) ho hc) hb0 hps I Ix hI hIx h0 Ax hAx
    (fun pre x W K hi hK => hassign _ pre x W K hi hK) (fun pre x a' W hr hi hax hlen => hbody _ pre x a' W (Nat.le_refl _) hr hi hax hlen) hdone hstop
/-- No loop around it, its one variable boxed in every round. -/
theorem wpIn_rangeO_cell {g : Operand} {ps : Array Tmp} {assign body : Code} {Q : Exit → Act → World → Prop} {a : Act} {w : World}
    (hro : F.round = none) (h1 : 1 ≤ n) {gf : Nat} {lb : Array Value} (hg : a.eval g = .func (.func gf) #[] lb) (hFg : F.fn gf) (eg : ∀ args w, (callFunc gf args).run P w = .ok (.enter gf args) w)
    {encs : α → Array Value} {Kp : World → World → Prop} {S Sp : List α → Prop} {N : Nat} {w0 : World} (hseq : SeqO F (n - 1) P gf lb encs Kp S Sp N w0)
    (hKt : ∀ {A B C : World}, Kp A B → Kp B C → Kp A C) (hKb : ∀ (W : World) (l : Nat) (o o' : Obj), w.heap.size ≤ l → W.heap[l]? = some o → o.isCells = false → Kp W (W.putObj l o')) (hb0 : Below w0.heap.size w0 w) (hps : ∀ x, (encs x).size = ps.size)
    (I : List α → World → Prop) (Ix : Code → List α → World → Prop) (hI : OwnFrom w.heap.size I) (hIx : ∀ c, OwnFrom w.heap.size (Ix c)) (h0 : I [] w) (cv : α → Array Value) (tb : Tmp) (ty : TypeId) (D : Nat)
    (hassign : ∀ (l : Nat) (pre : List α) (x : α) (W : World) (K : Act → World → Prop), I pre W →
      (∀ Bx W', D ≤ Bx → W'.heap[Bx]? = some (.cells (cv x) ty (0, 0)) → KeepsFrom w.heap.size W W' → Kp W W' → I pre W' → K { tmps := ((ps.zip (encs x)).foldl (fun t (p, v) => t.setIfInBounds p v) a.tmps).setIfInBounds tb (.pointer (some ⟨Bx, 0, none⟩)), defers := [] } W') →
      assign.wpIn (F.inRound l) (n - 1 - 1) P (Exit.then K (fun _ _ _ => False)) { tmps := (ps.zip (encs x)).foldl (fun t (p, v) => t.setIfInBounds p v) a.tmps, defers := [] } W)
    (hbody : ∀ (l : Nat) (pre : List α) (x : α) (Bx : Nat) (W : World), w.heap.size ≤ l → (∃ r, W.heap[l]? = some (.loop r)) → I pre W → D ≤ Bx → W.heap[Bx]? = some (.cells (cv x) ty (0, 0)) → pre.length < N →
      body.wpIn (F.inRound l) (n - 1 - 1) P (ownPostG w.heap.size Kp I Ix (pre ++ [x]) W) { tmps := ((ps.zip (encs x)).foldl (fun t (p, v) => t.setIfInBounds p v) a.tmps).setIfInBounds tb (.pointer (some ⟨Bx, 0, none⟩)), defers := [] } W)
    (hdone : ∀ (D : Nat) (xs : List α) (W : World), w.heap.size ≤ D → S xs → I xs W → W.heap[D]? = some (.deferred (some [])) → Q .normal { a with defers := { target := .collected D, args := #[] } :: a.defers } W)
    (hstop : ∀ (D : Nat) (c : Code) (pre : List α) (W : World), w.heap.size ≤ D → Sp pre → Ix c pre W → W.heap[D]? = some (.deferred (some [])) → c.wpIn F n P Q { a with defers := { target := .collected D, args := #[] } :: a.defers } W) :
    (Code.rangeFunc g ps assign body).wpIn F n P Q a w :=
  wpIn_rangeO hro h1 hg hFg eg hseq hKt hKb hb0 hps I Ix hI hIx h0
    (fun x a' W => ∃ Bx, D ≤ Bx ∧ W.heap[Bx]? = some (.cells (cv x) ty (0, 0)) ∧ a' = { tmps := ((ps.zip (encs x)).foldl (fun t (p, v) => t.setIfInBounds p v) a.tmps).setIfInBounds tb (.pointer (some ⟨Bx, 0, none⟩)), defers := [] })
    (fun x a' _ X Y row hs hg hr => by
      obtain ⟨Bx, h1, h2, h3⟩ := hs
      refine ⟨Bx, h1, ?_, h3⟩
      exact (hg.block Bx (Array.getElem?_eq_some_iff.1 h2).1 (fun e => by obtain ⟨_, ho, hc⟩ := (hr Bx e.symm).2; rw [h2] at ho; cases ho; cases hc)).trans h2)
    (fun l pre x W K hi hK => hassign l pre x W K hi (fun Bx W' hD hX hkf hkp hi' => hK _ W' hkf hkp hi' ⟨Bx, hD, hX, rfl⟩))
    (fun l pre x a' W hl hr hi hax hlt => by
      obtain ⟨Bx, hD, hX, rfl⟩ := hax
      exact hbody l pre x Bx W hl hr hi hD hX hlt)
    hdone hstop
/-- Within a round, its one variable boxed in every round. -/
theorem wpIn_rangeOin_cell {g : Operand} {ps : Array Tmp} {assign body : Code} {Q : Exit → Act → World → Prop} {a : Act} {w : World} {lo : Nat} {r0 : Loop}
    (hro : F.round = some lo) (hlo : w.heap[lo]? = some (.loop r0)) (h1 : 1 ≤ n) {gf : Nat} {lb : Array Value} (hg : a.eval g = .func (.func gf) #[] lb) (hFg : F.fn gf) (eg : ∀ args w, (callFunc gf args).run P w = .ok (.enter gf args) w)
    {encs : α → Array Value} {Kp : World → World → Prop} {S Sp : List α → Prop} {N : Nat} {w0 : World} (hseq : SeqO F (n - 1) P gf lb encs Kp S Sp N w0)
    (hKt : ∀ {A B C : World}, Kp A B → Kp B C → Kp A C) (hKb : ∀ (W : World) (l : Nat) (o o' : Obj), w.heap.size ≤ l → W.heap[l]? = some o → o.isCells = false → Kp W (W.putObj l o')) (hb0 : Below w0.heap.size w0 w) (hps : ∀ x, (encs x).size = ps.size)
    (I : List α → World → Prop) (Ix : Code → List α → World → Prop) (hI : OwnFrom w.heap.size I) (hIx : ∀ c, OwnFrom w.heap.size (Ix c)) (h0 : I [] w) (cv : α → Array Value) (tb : Tmp) (ty : TypeId) (D : Nat)
    (hassign : ∀ (l : Nat) (pre : List α) (x : α) (W : World) (K : Act → World → Prop), I pre W →
      (∀ Bx W', D ≤ Bx → W'.heap[Bx]? = some (.cells (cv x) ty (0, 0)) → KeepsFrom w.heap.size W W' → Kp W W' → I pre W' → K { tmps := ((ps.zip (encs x)).foldl (fun t (p, v) => t.setIfInBounds p v) a.tmps).setIfInBounds tb (.pointer (some ⟨Bx, 0, none⟩)), defers := [] } W') →
      assign.wpIn (F.inRound l) (n - 1 - 1) P (Exit.then K (fun _ _ _ => False)) { tmps := (ps.zip (encs x)).foldl (fun t (p, v) => t.setIfInBounds p v) a.tmps, defers := [] } W)
    (hbody : ∀ (l : Nat) (pre : List α) (x : α) (Bx : Nat) (W : World), w.heap.size ≤ l → (∃ r, W.heap[l]? = some (.loop r)) → I pre W → D ≤ Bx → W.heap[Bx]? = some (.cells (cv x) ty (0, 0)) → pre.length < N →
      body.wpIn (F.inRound l) (n - 1 - 1) P (ownPostG w.heap.size Kp I Ix (pre ++ [x]) W) { tmps := ((ps.zip (encs x)).foldl (fun t (p, v) => t.setIfInBounds p v) a.tmps).setIfInBounds tb (.pointer (some ⟨Bx, 0, none⟩)), defers := [] } W)
    (hdone : ∀ (xs : List α) (W : World), S xs → I xs W → Q .normal a W)
    (hstop : ∀ (c : Code) (pre : List α) (W : World), Sp pre → Ix c pre W → c.wpIn F n P Q a W) :
    (Code.rangeFunc g ps assign body).wpIn F n P Q a w :=
  wpIn_rangeOin hro hlo h1 hg hFg eg hseq hKt hKb hb0 hps I Ix hI hIx h0
    (fun x a' W => ∃ Bx, D ≤ Bx ∧ W.heap[Bx]? = some (.cells (cv x) ty (0, 0)) ∧ a' = { tmps := ((ps.zip (encs x)).foldl (fun t (p, v) => t.setIfInBounds p v) a.tmps).setIfInBounds tb (.pointer (some ⟨Bx, 0, none⟩)), defers := [] })
    (fun x a' _ X Y row hs hg hr => by
      obtain ⟨Bx, h1, h2, h3⟩ := hs
      refine ⟨Bx, h1, ?_, h3⟩
      exact (hg.block Bx (Array.getElem?_eq_some_iff.1 h2).1 (fun e => by obtain ⟨_, ho, hc⟩ := (hr Bx e.symm).2; rw [h2] at ho; cases ho; cases hc)).trans h2)
    (fun l pre x W K hi hK => hassign l pre x W K hi (fun Bx W' hD hX hkf hkp hi' => hK _ W' hkf hkp hi' ⟨Bx, hD, hX, rfl⟩))
    (fun l pre x a' W hl hr hi hax hlt => by
      obtain ⟨Bx, hD, hX, rfl⟩ := hax
      exact hbody l pre x Bx W hl hr hi hD hX hlt)
    hdone hstop
end
end Go.Proofs.Ytlopenephgabhaa


namespace Go.Proofs.Ytlopenephgabhaa
open Go.RowKit

def L4 (lo : Nat) := Sl lo (L3 lo)
theorem stable4 (lo : Nat) : Stable lo (L4 lo) := (stable3 lo).sl
theorem L4.below {lo : Nat} {w w' : World} {v : Value} {xs : List (List (List (List Int)))} (h : L4 lo w v xs) (hb : Below w.heap.size w w') : L4 lo w' v xs := stable4 lo _ _ _ _ (Keep.of_below hb) h

/-- A double complex as it is read. -/
structure Dx (lo : Nat) (w : World) (dv av vv : Value) (ds : List (List Int)) (ac dn : List (List (List (List Int)))) : Prop where
  dims : L2 lo w dv ds
  across : L4 lo w av ac
  down : L4 lo w vv dn
theorem Dx.below {lo : Nat} {w w' : World} {dv av vv : Value} {ds : List (List Int)} {ac dn : List (List (List (List Int)))} (h : Dx lo w dv av vv ds ac dn) (hb : Below w.heap.size w w') : Dx lo w' dv av vv ds ac dn :=
  ⟨h.dims.below hb, h.across.below hb, h.down.below hb⟩

/-- .. in a box. -/
structure DBx (w wr : World) (b : Nat) (p : Int) (dv av vv : Value) (ds : List (List Int)) (ac dn : List (List (List (List Int)))) : Prop where
  below : Below w.heap.size w wr
  c0 : wr.cell? ⟨b, 0, none⟩ = some (.int .i64 p)
  c1 : wr.cell? ⟨b, 1, none⟩ = some dv
  c2 : wr.cell? ⟨b, 2, none⟩ = some av
  c3 : wr.cell? ⟨b, 3, none⟩ = some vv
  lt : b < wr.heap.size
  dx : Dx 0 wr dv av vv ds ac dn
theorem DBx.next {w wr w' : World} {b : Nat} {p : Int} {dv av vv : Value} {ds : List (List Int)} {ac dn : List (List (List (List Int)))} (h : DBx w wr b p dv av vv ds ac dn) (hb : Below wr.heap.size wr w') : DBx w w' b p dv av vv ds ac dn :=
  ⟨h.below.trans (hb.mono h.below.size), later hb (Nat.le_refl _) h.c0, later hb (Nat.le_refl _) h.c1, later hb (Nat.le_refl _) h.c2, later hb (Nat.le_refl _) h.c3, Nat.lt_of_lt_of_le h.lt hb.size, h.dx.below hb⟩
theorem DBx.start {w : World} {p : Int} {dv av vv : Value} {ds : List (List Int)} {ac dn : List (List (List (List Int)))} (t : TypeId) (h : Dx 0 w dv av vv ds ac dn) : DBx w (w.alloc (.cells #[.int .i64 p, dv, av, vv] t)) w.heap.size p dv av vv ds ac dn :=
  ⟨(Below.refl _ _).alloc (Nat.le_refl _) _, by simp, by simp, by simp, by simp, by simp, h.below ((Below.refl _ _).alloc (Nat.le_refl _) _)⟩

/-- What the cells of a double complex keep. -/
structure DclOk (ds : List (List Int)) : Prop where
  len0 : 1 ≤ ds.length
  len1 : ds.length ≤ 4
  h0 : 1 ≤ (ds.getD 0 []).length
  h1 : (ds.getD 0 []).length ≤ 4
  col : ∀ r ∈ ds, r.length = (ds.getD 0 []).length ∧ AllIn 0 4 r

set_option maxRecDepth 100000 in
theorem widthOf_any (p : Int) (dv av vv : Value) (ds : List (List Int)) (w : World) (h : L2 0 w dv ds) :
    Calls Try.prog 58 #[.agg #[.int .i64 p, dv, av, vv]] w fun e w' => e = .returned (.int .i64 (ds.length : Int)) ∧ Below w.heap.size w w' := by
  obtain ⟨ad, cd, rfl⟩ := Sl.shape h
  clear h
  go_enter Try.func58, Try.ntmps58
  go_wp2
  go_ret
  exact ⟨rfl, by first | exact Below.refl _ _ | exact (Below.refl _ _).alloc (Nat.le_refl _) _⟩

set_option maxRecDepth 100000 in
theorem heightOf_any (p : Int) (dv av vv : Value) (ds : List (List Int)) (w : World) (h : L2 0 w dv ds) (h0 : 1 ≤ ds.length) :
    Calls Try.prog 93 #[.agg #[.int .i64 p, dv, av, vv]] w fun e w' => e = .returned (.int .i64 ((ds.getD 0 []).length : Int)) ∧ Below w.heap.size w w' := by
  rcases h with ⟨hx, _⟩ | ⟨b, o, cd, rfl, _, hpos, hc⟩
  · subst hx; simp at h0
  obtain ⟨u, hu, hr⟩ := hc 0 hpos
  obtain ⟨ar, cr, rfl⟩ := Sl.shape hr
  rw [getD_of_lt _ hpos]
  obtain ⟨q, hq⟩ : ∃ q, q = (ds[0]).length := ⟨_, rfl⟩
  rw [← hq] at hu ⊢
  obtain ⟨m, hm⟩ : ∃ m, m = ds.length := ⟨_, rfl⟩
  rw [← hm] at hpos ⊢
  rw [Nat.add_zero] at hu
  clear hc hr hq hm h0
  have hu1 : (w.alloc (.cells #[.int .i64 p, .slice (some ⟨b, o, none⟩) m cd, av, vv] 28)).cell? ⟨b, o, none⟩ = some (.slice ar q cr) := later (B := w.heap.size) ((Below.refl _ _).alloc (Nat.le_refl _) _) (Nat.le_refl _) hu
  go_enter Try.func93, Try.ntmps93
  go_wp2
  go_ret
  exact ⟨rfl, by first | exact Below.refl _ _ | exact (Below.refl _ _).alloc (Nat.le_refl _) _⟩
end Go.Proofs.Ytlopenephgabhaa


namespace Go.Proofs.Ytlopenephgabhaa
open Go.RowKit

/-- The dimension of a cell. -/
def dcl (ds : List (List Int)) (i j : Int) : Int := if i < 0 ∨ j < 0 then 0 else (ds.getD i.toNat []).getD j.toNat 0

set_option maxRecDepth 100000 in
theorem dimOfCell_any (p i j : Int) (dv av vv : Value) (ds : List (List Int)) (w : World) (h : L2 0 w dv ds) (hd : Bd2 1048576 ds) (hi : -1 ≤ i) (hj : -1 ≤ j) (hi1 : i < ds.length) (hj1 : 0 ≤ i → j < (ds.getD i.toNat []).length) :
    Calls Try.prog 95 #[.agg #[.int .i64 p, dv, av, vv], .agg #[.int .i64 i, .int .i64 j]] w fun e w' => e = .returned (.int .i64 (dcl ds i j)) ∧ Below w.heap.size w w' := by
  have hm0 : ds.length ≤ 1048576 := hd.1
  by_cases h1 : i < 0
  · rw [show dcl ds i j = 0 from if_pos (.inl h1)]
    obtain ⟨ad, cd, rfl⟩ := Sl.shape h
    clear h hj1
    go_enter Try.func95, Try.ntmps95
    go_wp2
    go_ret
    exact ⟨rfl, ((Below.refl _ _).alloc (Nat.le_refl _) _).alloc (by simp) _⟩
  · by_cases h2 : j < 0
    · rw [show dcl ds i j = 0 from if_pos (.inr h2)]
      obtain ⟨ad, cd, rfl⟩ := Sl.shape h
      clear h hj1
      go_enter Try.func95, Try.ntmps95
      go_wp2
      go_ret
      exact ⟨rfl, ((Below.refl _ _).alloc (Nat.le_refl _) _).alloc (by simp) _⟩
    · rw [show dcl ds i j = (ds.getD i.toNat []).getD j.toNat 0 from if_neg (by omega)]
      obtain ⟨a, rfl⟩ := Int.eq_ofNat_of_zero_le (show 0 ≤ i by omega)
      obtain ⟨b, rfl⟩ := Int.eq_ofNat_of_zero_le (show 0 ≤ j by omega)
      simp only [Int.toNat_natCast] at hj1 ⊢
      have ha : a < ds.length := by omega
      have hb := hj1 (by omega)
      have hb8 : (ds.getD a []).length ≤ 1048576 := by rw [getD_of_lt _ ha]; exact hd.2 _ (List.getElem_mem _)
      have hb' : b < (ds.getD a []).length := by omega
      rcases h with ⟨hx, _⟩ | ⟨bb, o, cd, rfl, _, hpos, hc⟩
      · subst hx; simp at ha
      obtain ⟨u, hu, hr⟩ := hc a ha
      rw [getD_of_lt _ ha] at hb' hb8 ⊢
      rcases hr with ⟨hx, _⟩ | ⟨b2, o2, cd2, rfl, _, hpos2, hc2⟩
      · rw [hx] at hb'; simp at hb'
      obtain ⟨u2, hu2, hr2⟩ := hc2 b hb'
      have hr2' : u2 = .int .i64 ((ds[a])[b]) := hr2
      subst hr2'
      rw [getD_of_lt _ hb']
      obtain ⟨z, hz⟩ : ∃ z, z = (ds[a])[b] := ⟨_, rfl⟩
      rw [← hz] at hu2 ⊢
      clear hz hc2 hr2 hc
      obtain ⟨q, hq⟩ : ∃ q, q = (ds[a]).length := ⟨_, rfl⟩
      rw [← hq] at hb' hb8 hu hpos2
      clear hq hj1 hb
      obtain ⟨m, hm⟩ : ∃ m, m = ds.length := ⟨_, rfl⟩
      rw [← hm] at ha hm0 hpos hi1 ⊢
      clear hm
      have hB : Below w.heap.size w ((w.alloc (.cells #[.int .i64 p, .slice (some ⟨bb, o, none⟩) m cd, av, vv] 28)).alloc (.cells #[.int .i64 (a : Int), .int .i64 (b : Int)] 101)) := ((Below.refl _ _).alloc (Nat.le_refl _) _).alloc (by simp) _
      have hu' := later hB (Nat.le_refl _) hu
      have hu2' := later hB (Nat.le_refl _) hu2
      go_enter Try.func95, Try.ntmps95
      go_wp2
      clear hi hj hi1
      go_region
      go_wp2
      go_ret
      exact ⟨rfl, hB.drew⟩
end Go.Proofs.Ytlopenephgabhaa


namespace Go.Proofs.Ytlopenephgabhaa
open Go.RowKit

theorem rowsIn_of {l n : Nat} {P : Program} {row : String} {args : Array Value} {w : World} {R : Value → World → Prop} (h : Rows P row args w R) : RowsIn (Fence.wide.inRound l) n P row args w R :=
  fun c cs _ => let ⟨v, w', r, s⟩ := h c cs; ⟨v, w', r, stepsIn_wide.2 s⟩

theorem wpOpIn_of {l n : Nat} {P : Program} {ops : Array Oper} {Q : Exit → Act → World → Prop} (hd : ∀ (i : Nat) (o : Oper) c, ops[i]? = some o → o.op ≠ .defer c) (hno : ¬ LetsOut Q) {i : Nat} {K : Act → World → Prop} {a : Act} {w : World}
    (h : wpOp P ops Q i K a w) : wpOpIn (Fence.wide.inRound l) n P ops Q i K a w := by
  unfold wpOp at h
  unfold wpOpIn
  cases ho : ops[i]? with
  | none => rw [ho] at h; exact h
  | some o =>
    rw [ho] at h
    dsimp only at h ⊢
    split
    · rename_i hw
      rw [if_pos hw] at h
      rcases h with h | ⟨_, h⟩
      · refine ⟨fun _ _ => trivial, ?_⟩
        rw [Oper.semAt_eq _ _ _ (fun c => hd i o c ho)]
        unfold Oper.wp at h
        generalize (execOp a.eval o).run P w = r at h
        cases r with
        | ok nx w' =>
          cases nx with
          | value v => exact h
          | skip => exact h
          | defer d => exact h
          | enter f args => exact ⟨fun hc => absurd hc (by simp [Fence.inRound, Fence.wide]), CallsIn.inRound l (callsIn_wide.2 h)⟩
          | row row args => exact ⟨fun hc => absurd hc (by simp [Fence.inRound, Fence.wide]), rowsIn_of h⟩
          | _ => exact h.elim
        | halt x w' => cases x <;> first | exact h | exact h.elim
      · exact absurd h hno
    · rename_i hw
      rw [if_neg hw] at h
      exact ⟨fun _ _ => trivial, h⟩

theorem wpAnyIn_of {l n : Nat} {P : Program} {ops : Array Oper} {md : Region.Mode} {Q : Exit → Act → World → Prop} (hd : ∀ (i : Nat) (o : Oper) c, ops[i]? = some o → o.op ≠ .defer c) (hno : ¬ LetsOut Q) :
    ∀ (fuel : Nat) (listed : Array Bool) (a : Act) (w : World), wpAny P md ops Q fuel listed a w → wpAnyIn (Fence.wide.inRound l) n P md ops Q fuel listed a w
  | 0, _, _, _, h => h
  | fuel + 1, _, _, _, h => ⟨h.1, fun i hi => wpOpIn_mono (fun _ _ h' => wpAnyIn_of hd hno fuel _ _ _ h') (wpOpIn_of hd hno (h.2 i hi))⟩

/-- No operation defers. -/
def noDefer (ops : Array Oper) : Bool := ops.all fun o => match o.op with | .defer _ => false | _ => true
theorem noDefer_spec {ops : Array Oper} (h : noDefer ops = true) (i : Nat) (o : Oper) (c) (ho : ops[i]? = some o) : o.op ≠ .defer c := fun e => by
  have hm : o ∈ ops := Array.mem_of_getElem? ho
  unfold noDefer at h
  rw [Array.all_eq_true'] at h
  have := h o hm
  rw [e] at this
  cases this

/-- **The beginning**: with the walk that holds S behind every operation. -/
theorem wpIn_region_held {l n id : Nat} {P : Program} {ops : Array Oper} {Q : Exit → Act → World → Prop} {S : World → Prop} {a : Act} {w : World} (hm : P.follows .mixedOrders = true)
    (hd : noDefer ops = true) (hno : ¬ LetsOut Q)
    (h : wpAnyH P .any ops Q S ops.size (Array.replicate ops.size false) a { w with drawn := w.drawn + 1 }) : (Code.region id ops true).wpIn (Fence.wide.inRound l) n P Q a w :=
  wpIn_region_any hm (wpAnyIn_of (noDefer_spec hd) hno _ _ _ _ (wpAny_of_held _ _ _ _ h))
end Go.Proofs.Ytlopenephgabhaa


namespace Go.Proofs.Ytlopenephgabhaa
open Go.RowKit Go.Shelf
attribute [local go_sem] Oper.semAt_some

/-- The two tables that lead from a cell have their sizes. -/
def DTab (p : Int) (ds : List (List Int)) (ac dn : List (List (List (List Int)))) (c : Nat × Nat) : Prop :=
  TabOk p (dcl ds c.1 c.2) (dcl ds ((c.1 : Int) - 1) c.2) ((ac.getD c.1 []).getD c.2 []) ∧ TabOk p (dcl ds c.1 c.2) (dcl ds c.1 ((c.2 : Int) - 1)) ((dn.getD c.1 []).getD c.2 [])
structure TbsOk (p : Int) (ds : List (List Int)) (ac dn : List (List (List (List Int)))) : Prop where
  la : ac.length = ds.length
  ld : dn.length = ds.length
  ca : ∀ i, i < ds.length → (ac.getD i []).length = (ds.getD i []).length
  cd : ∀ i, i < ds.length → (dn.getD i []).length = (ds.getD i []).length
  tab : ∀ c ∈ cellsTo ds ds.length, DTab p ds ac dn c
def Bd4 (n : Nat) (xs : List (List (List (List Int)))) : Prop := xs.length ≤ n ∧ ∀ x ∈ xs, Bd3 n x

section
variable {P : Program} {ops : Array Oper} {S : World → Prop}
theorem yieldsIf_binD {o : Oper} {a : Act} {x y : Operand} {v u i : Value} {b : BinOp} {t t' : TypeId} (hg : o.guard = none) (ho : o.op = .binOp b t x y t') (hx : a.eval x = u) (hy : a.eval y = i) (hge : ∀ w, (eqGuard b t x y u i).run P w = .ok () w) (hrun : ∀ w, (binOp b t u i).run P w = .ok v w) : YieldsIf P ops S o v a :=
  Or.inl ⟨by unfold Region.wanted; rw [hg], fun w _ => by
    unfold execOp
    simp only [ho, hx, hy, Sem.run_bind, hge w, hrun w, Result.andThen_ok]
    rfl⟩
theorem yieldsIf_indexD {o : Oper} {a : Act} {x y : Operand} {v u i : Value} {t : TypeId} (hw : Region.wanted o (yielded ops a.tmps) = true) (ho : o.op = .indexAddr t x y) (hx : a.eval x = u) (hy : a.eval y = i) (hrun : ∀ w, (Instr.indexAt t u i).run P w = .ok v w) : YieldsIf P ops S o v a :=
  Or.inl ⟨hw, fun w _ => by
    unfold execOp
    simp only [ho, hx, hy, Sem.run_bind, hrun w, Result.andThen_ok]
    rfl⟩
end
theorem hsubB {n : Nat} (hn : n ≤ 1000) (_ : 0 ≤ n) (w : World) : (binOp .sub 2 (.int .i64 (n : Int)) (.int .i64 1)).run Try.prog w = .ok (.int .i64 ((n : Int) - 1)) w := by
  have hz : IntKind.i64.wrap ((n : Int) - 1) = (n : Int) - 1 := IntWalk.i64_in _ (by omega)
  go_simp
theorem hloadDb (w : World) {w0 : World} {b : Nat} {p : Int} {dv av vv : Value} {ds : List (List Int)} {ac dn : List (List (List (List Int)))} (h : DBx w0 w b p dv av vv ds ac dn) : (Instr.loadAt 28 (.pointer (some ⟨b, 0, none⟩))).run Try.prog w = .ok (.agg #[.int .i64 p, dv, av, vv]) w := by
  have c0 := h.c0
  have c1 := h.c1
  have c2 := h.c2
  have c3 := h.c3
  go_simp
theorem hloadCe (w : World) {b : Nat} {x y : Value} (c0 : w.cell? ⟨b, 0, none⟩ = some x) (c1 : w.cell? ⟨b, 1, none⟩ = some y) : (Instr.loadAt 101 (.pointer (some ⟨b, 0, none⟩))).run Try.prog w = .ok (.agg #[x, y]) w := by go_simp
theorem hloadIn (w : World) {b o : Nat} {x : Value} (h : w.cell? ⟨b, o, none⟩ = some x) : (Instr.loadAt 2 (.pointer (some ⟨b, o, none⟩))).run Try.prog w = .ok x w := by go_simp

theorem hidx4 {aa : Option Addr} {b o k n cap : Nat} (haa : aa = some ⟨b, o, none⟩) (hk : k < n) (w : World) : (Instr.indexAt 23 (.slice aa n cap) (.int .i64 k)).run Try.prog w = .ok (.pointer (some ⟨b, o + k, none⟩)) w := by
  subst haa
  have h2 : (0 : Int) ≤ (k : Int) := by omega
  have h3 : (k : Int) < (n : Int) := by omega
  go_simp
theorem hidx3 (b o : Nat) {k n : Nat} (cap : Nat) (hk : k < n) (w : World) : (Instr.indexAt 36 (.slice (some ⟨b, o, none⟩) n cap) (.int .i64 k)).run Try.prog w = .ok (.pointer (some ⟨b, o + k, none⟩)) w := by
  have h2 : (0 : Int) ≤ (k : Int) := by omega
  have h3 : (k : Int) < (n : Int) := by omega
  go_simp
theorem hload4 (w : World) {b o : Nat} {x : Value} (h : w.cell? ⟨b, o, none⟩ = some x) : (Instr.loadAt 23 (.pointer (some ⟨b, o, none⟩))).run Try.prog w = .ok x w := by go_simp
theorem hload3s (w : World) {b o : Nat} {x : Value} (h : w.cell? ⟨b, o, none⟩ = some x) : (Instr.loadAt 36 (.pointer (some ⟨b, o, none⟩))).run Try.prog w = .ok x w := by go_simp
theorem hload2s (w : World) {b o : Nat} {x : Value} (h : w.cell? ⟨b, o, none⟩ = some x) : (Instr.loadAt 22 (.pointer (some ⟨b, o, none⟩))).run Try.prog w = .ok x w := by go_simp

theorem results_bool {fn : Func} {t : Tmp} (h : fn.results = #[.cell t 4]) (tmps : Array Value) (B : Nat) (b : Bool) (W : World) (ht : tmps.getD t undef = .pointer (some ⟨B, 0, none⟩)) (hc : W.cell? ⟨B, 0, none⟩ = some (.bool b)) :
    (results fn tmps).run Try.prog W = .ok (.bool b) W := by
  simp only [Array.getD_eq_getD_getElem?] at ht
  simp [results, h, ht, go_sem, hc]

set_option maxRecDepth 100000 in
set_option maxHeartbeats 8000000 in
theorem hasTables_any (p : Int) (dv av vv : Value) (ds : List (List Int)) (ac dn : List (List (List (List Int)))) (w : World) (h : Dx 0 w dv av vv ds ac dn) (hp : IsP p) (hok : DclOk ds) (hba : Bd4 1048576 ac) (hbd : Bd4 1048576 dn) :
    Calls Try.prog 46 #[.agg #[.int .i64 p, dv, av, vv]] w (BB (TbsOk p ds ac dn) w) := by
  have HP := Lib.hid hp
  have hp0 := hp.lo
  have hp1 := hp.hi
  have HOK := Lib.hid hok
  have HBA := Lib.hid hba
  have HBD := Lib.hid hbd
  have hm4 := hok.len1
  have hla8 := hba.1
  have hld8 := hbd.1
  clear hp hok hba hbd
  have hx0 := DBx.start (p := p) 28 h
  obtain ⟨ad, cd, rfl⟩ := Sl.shape h.dims
  obtain ⟨aa, ca, rfl⟩ := Sl.shape h.across
  obtain ⟨av, cv, rfl⟩ := Sl.shape h.down
  clear h
  obtain ⟨m, hm⟩ : ∃ m, m = ds.length := ⟨_, rfl⟩
  obtain ⟨ma, hma⟩ : ∃ m, m = ac.length := ⟨_, rfl⟩
  obtain ⟨md, hmd⟩ : ∃ m, m = dn.length := ⟨_, rfl⟩
  have HM := Lib.hid hm
  have HMA := Lib.hid hma
  have HMD := Lib.hid hmd
  rw [← hm] at hx0 hm4 ⊢
  rw [← hma] at hx0 hla8 ⊢
  rw [← hmd] at hx0 hld8 ⊢
  clear hm hma hmd
  have hx1 := hx0.next (w' := (w.alloc (.cells #[.int .i64 p, .slice ad m cd, .slice aa ma ca, .slice av md cv] 28)).alloc (.cells #[.bool false] 4)) ((Below.refl _ _).alloc (Nat.le_refl _) _)
  clear hx0
  have br := Go.Boxed.new (w.alloc (.cells #[.int .i64 p, .slice ad m cd, .slice aa ma ca, .slice av md cv] 28)) 4 (.bool false)
  rw [World.size_alloc] at br
  have hsz : ((w.alloc (.cells #[.int .i64 p, .slice ad m cd, .slice aa ma ca, .slice av md cv] 28)).alloc (.cells #[.bool false] 4)).heap.size = w.heap.size + 1 + 1 := by simp
  obtain ⟨w1, hw1⟩ : ∃ w1, w1 = (w.alloc (.cells #[.int .i64 p, .slice ad m cd, .slice aa ma ca, .slice av md cv] 28)).alloc (.cells #[.bool false] 4) := ⟨_, rfl⟩
  rw [← hw1] at hx1 br hsz
  have HX1 := Lib.hid hx1
  have c0 := hx1.c0
  have c1 := hx1.c1
  have c2 := hx1.c2
  have c3 := hx1.c3
  have cr := br.cell
  have fr := br.frozen
  have HBR := Lib.hid br
  clear hx1 br
  have hres : Try.f46.results = #[.cell 2 4] := by kernel_rfl
  have HRES := Lib.hid hres
  clear hres
  by_cases hea : ma = m
  · by_cases hed : md = m
    · subst hea
      subst hed
      refine (callsIn_wide (n := 6)).1 ?_
      refine callsIn_of_wp_marks Try.func46 rfl trivial ?_
      simp only [Try.ntmps46, List.size_toArray, List.length_cons, List.length_nil, Nat.reduceAdd, Nat.reduceSub, Array.replicate_succ, Array.replicate_zero, List.push_toArray, List.append_toArray, List.nil_append, List.cons_append]
      have hq1 : ((md : Int) != (md : Int)) = false := by simp
      gi_wp2
      rw [← hw1]
      clear hw1 hq1
      gi_loopw [28] (fun i wr => ∃ (k : Nat), k ≤ md ∧ i = .int .i64 k ∧ wr = w1 ∧ Hid (∀ i, i < k → (ac.getD i []).length = (ds.getD i []).length ∧ (dn.getD i []).length = (ds.getD i []).length)) (fun i _ => md - (intOf i).toNat)
      case atStart => exact ⟨0, Nat.zero_le _, rfl, rfl, Lib.hid (fun _ h => absurd h (Nat.not_lt_zero _))⟩
      case round =>
        obtain ⟨k, hk, rfl, rfl, HC⟩ := hrel
        by_cases hlt : k < md
        · have hlt' : k < ds.length := by rw [← HM.out]; exact hlt
          have hlta : k < ac.length := by rw [← HMA.out]; exact hlt
          have hltd : k < dn.length := by rw [← HMD.out]; exact hlt
          rcases HX1.out.dx.dims with ⟨hx, _⟩ | ⟨b, o, c2', hv, _, _, hcl⟩
          · exact absurd (hx ▸ hlt') (Nat.not_lt_zero _)
          injection hv with e1 e2 e3
          subst e1 e3
          rcases HX1.out.dx.across with ⟨hx, _⟩ | ⟨ba, oa, ca', hva, _, _, hcla⟩
          · exact absurd (hx ▸ hlta) (Nat.not_lt_zero _)
          injection hva with e4 e5 e6
          subst e4 e6
          rcases HX1.out.dx.down with ⟨hx, _⟩ | ⟨bd, od, cd', hvd, _, _, hcld⟩
          · exact absurd (hx ▸ hltd) (Nat.not_lt_zero _)
          injection hvd with e7 e8 e9
          subst e7 e9
          obtain ⟨ur, hur, hrr⟩ := hcl k hlt'
          obtain ⟨ua, hua, hra⟩ := hcla k hlta
          obtain ⟨ud, hud, hrd⟩ := hcld k hltd
          obtain ⟨a1, z1, rfl⟩ := Sl.shape hrr
          obtain ⟨a2, z2, rfl⟩ := Sl.shape hra
          obtain ⟨a3, z3, rfl⟩ := Sl.shape hrd
          rw [← getD_of_lt [] hlt'] at hur
          rw [← getD_of_lt [] hlta] at hua
          rw [← getD_of_lt [] hltd] at hud
          have hqa8 : (ac.getD k []).length ≤ 1048576 := by rw [getD_of_lt _ hlta]; exact (HBA.out.2 _ (List.getElem_mem _)).1
          have hqd8 : (dn.getD k []).length ≤ 1048576 := by rw [getD_of_lt _ hltd]; exact (HBD.out.2 _ (List.getElem_mem _)).1
          have hq4 : (ds.getD k []).length ≤ 4 := by rw [getD_of_lt _ hlt', (HOK.out.col _ (List.getElem_mem hlt')).1]; exact HOK.out.h1
          clear hcl hcla hcld hrr hra hrd e2 e5 e8 hlta hltd hlt'
          obtain ⟨q, hq⟩ : ∃ q, q = (ds.getD k []).length := ⟨_, rfl⟩
          obtain ⟨qa, hqa⟩ : ∃ q, q = (ac.getD k []).length := ⟨_, rfl⟩
          obtain ⟨qd, hqd⟩ : ∃ q, q = (dn.getD k []).length := ⟨_, rfl⟩
          rw [← hq] at hur hq4
          rw [← hqa] at hua hqa8
          rw [← hqd] at hud hqd8
          have HQ := Lib.hid hq
          have HQA := Lib.hid hqa
          have HQD := Lib.hid hqd
          clear hq hqa hqd
          by_cases h1 : qa = q
          · have hq1 : ((qa : Int) != (q : Int)) = false := by rw [h1]; simp
            by_cases h2 : qd = q
            · have hq2 : ((qd : Int) != (q : Int)) = false := by rw [h2]; simp
              gi_wp2
              go_roundw
              case rel => exact ⟨k + 1, by omega, by go_num, by simp, Lib.hid (fun i hi => by
                by_cases e : i = k
                · subst e; exact ⟨by rw [← HQA.out, ← HQ.out]; exact h1, by rw [← HQD.out, ← HQ.out]; exact h2⟩
                · exact HC.out i (by omega))⟩
              case measure => simp [intOf]; omega
            · have hq2 : ((qd : Int) != (q : Int)) = true := by have hz : (qd : Int) ≠ (q : Int) := (by omega); simp [hz]
              have HNO : Hid (¬ TbsOk p ds ac dn) := Lib.hid (fun h => h2 (by rw [HQD.out, HQ.out]; exact h.cd k (by rw [← HM.out]; exact hlt)))
              clear HC
              gi_wp2
              exact ⟨_, results_bool HRES.out _ _ _ _ rfl (HBR.out.set _).cell, bb_false (HX1.out.below.setCell (p := ⟨w.heap.size + 1, 0, none⟩) (Nat.le_succ _) _) HNO.out⟩
          · have hq1 : ((qa : Int) != (q : Int)) = true := by have hz : (qa : Int) ≠ (q : Int) := (by omega); simp [hz]
            have HNO : Hid (¬ TbsOk p ds ac dn) := Lib.hid (fun h => h1 (by rw [HQA.out, HQ.out]; exact h.ca k (by rw [← HM.out]; exact hlt)))
            clear HC
            gi_wp2
            exact ⟨_, results_bool HRES.out _ _ _ _ rfl (HBR.out.set _).cell, bb_false (HX1.out.below.setCell (p := ⟨w.heap.size + 1, 0, none⟩) (Nat.le_succ _) _) HNO.out⟩
        · obtain rfl : k = md := by omega
          gi_wp2_with fail
          refine ⟨trivial, (callsIn_wide.2 (cellsOf_any p _ _ _ _)).mono ?_⟩
          rintro e w2 ⟨rfl, rfl⟩
          dsimp only
          gi_wp2
          have hB0 : Below wr.heap.size wr (wr.alloc (.cells #[.int .i64 p, .slice ad k cd, .slice aa k ca, .slice av k cv] 28)) := (Below.refl _ _).alloc (Nat.le_refl _) _
          have hd0 : (wr.alloc (.cells #[.int .i64 p, .slice ad k cd, .slice aa k ca, .slice av k cv] 28)).cell? ⟨wr.heap.size, 1, none⟩ = some (.slice ad k cd) := by simp
          have hs0 : (wr.alloc (.cells #[.int .i64 p, .slice ad k cd, .slice aa k ca, .slice av k cv] 28)).heap.size = wr.heap.size + 1 := by simp
          have hwb := HX1.out.below.size
          obtain ⟨W0, hW0⟩ : ∃ W0, W0 = wr.alloc (.cells #[.int .i64 p, .slice ad k cd, .slice aa k ca, .slice av k cv] 28) := ⟨_, rfl⟩
          rw [← hW0] at hB0 hd0 hs0 ⊢
          clear hW0
          have hst := cells_stops Fence.wide 5 trivial rfl (by decide) wr.heap.size _ ds (by have := HM.out; omega) (fun r hr => by have := (HOK.out.col r hr).1; have := HOK.out.h1; omega) wr W0 (by omega) hd0 HX1.out.dx.dims hB0
          refine wpIn_rangeFunc_cell rfl (by decide : 1 ≤ 6) (gf := 118) (lb := #[.pointer (some ⟨wr.heap.size, 0, none⟩)]) rfl trivial (enters_of Try.func118 (by kernel_rfl) rfl)
            hst belowK_t (belowK_b (by omega)) (Below.refl _ _) (fun _ => rfl)
            (fun pre W => (∀ c ∈ pre, DTab p ds ac dn c.1) ∧ Below wr.heap.size wr W)
            (fun c _ W => ((c = .ret ∧ ¬ TbsOk p ds ac dn) ∧ Go.Boxed W (w.heap.size + 1) 4 (.bool false)) ∧ Below w.heap.size w W)
            (OwnFrom.and (ownFrom_pure (β := List (CellIn ds)) _ (fun pre => ∀ c ∈ pre, DTab p ds ac dn c.1)) (ownFrom_below (Nat.le_refl _) (by omega)))
            (fun c => OwnFrom.and (OwnFrom.and (ownFrom_pure (β := List (CellIn ds)) _ (fun _ => c = .ret ∧ ¬ TbsOk p ds ac dn)) (Own.from (boxed_own (β := List (CellIn ds)) _ _ (fun _ => Value.bool false)) _)) (ownFrom_below (Nat.le_refl _) (by omega)))
            ⟨fun c h => absurd h (by simp), hB0⟩
            (fun x => #[.int .i64 (x.1.1 : Int), .int .i64 (x.1.2 : Int)]) 5 101 wr.heap.size
            ?assign ?body ?done ?stop
          case assign =>
            rintro l pre x W K ⟨hI, hB1⟩ hK
            simp only [cellV] at hK ⊢
            gi_wp2
            have hk := hK W.heap.size _ hB1.size (World.alloc_heap_new W _) ((KeepsOthers.alloc _ _).from _) ((Below.refl _ W).alloc hB1.size _) ⟨hI, hB1.alloc hB1.size _⟩
            simp at hk
            refine Eq.mp ?_ hk
            congr 1
            all_goals (try congr 1)
            simp
          case body =>
            rintro l pre x Bx W hl ⟨r, hr⟩ ⟨hI, hB1⟩ hBx hX hlt
            obtain ⟨⟨i, j⟩, hxm⟩ := x
            dsimp only at hX
            have hxc := cells_fst hxm
            dsimp only at hxc
            have HX2 := Lib.hid (HX1.out.next hB1)
            have x0 : W.cell? ⟨Bx, 0, none⟩ = some (.int .i64 (i : Int)) := by simp [World.cell?, hX]
            have x1 : W.cell? ⟨Bx, 1, none⟩ = some (.int .i64 (j : Int)) := by simp [World.cell?, hX]
            have HI := Lib.hid hI
            have HB1 := Lib.hid hB1
            clear hI hB1
            have hil : ds.length ≤ 4 := HOK.out.len1
            have hi4 : i < 4 := by have := hxc.1; omega
            have hr1 : (ds.getD i []).length = (ds.getD 0 []).length := by rw [getD_of_lt _ hxc.1]; exact (HOK.out.col _ (List.getElem_mem hxc.1)).1
            have hj4 : j < 4 := by have := hxc.2; have := HOK.out.h1; omega
            have hid : (i : Int) < ds.length := by have := hxc.1; omega
            have HJ0 : Hid (0 ≤ (i : Int) → (j : Int) < (ds.getD (i : Int).toNat []).length) := Lib.hid (fun _ => by rw [Int.toNat_natCast]; have := hxc.2; omega)
            have HJ1 : Hid (0 ≤ (i : Int) - 1 → (j : Int) < (ds.getD ((i : Int) - 1).toNat []).length) := Lib.hid (fun h0 => by
              have hlt1 : ((i : Int) - 1).toNat < ds.length := by omega
              have := (HOK.out.col _ (List.getElem_mem hlt1)).1
              rw [getD_of_lt _ hlt1]
              have := hxc.2
              omega)
            have HJ2 : Hid (0 ≤ (i : Int) → (j : Int) < (ds.getD (i : Int).toNat []).length) := HJ0
            have HNX : Hid (∀ W2, Below W.heap.size W W2 → DBx w W2 w.heap.size p (.slice ad k cd) (.slice aa k ca) (.slice av k cv) ds ac dn) := Lib.hid (fun W2 h => HX2.out.next h)
            have HC0 : Hid (∀ W2, Below W.heap.size W W2 → W2.cell? ⟨Bx, 0, none⟩ = some (.int .i64 (i : Int))) := Lib.hid (fun W2 h => later h (Nat.le_refl _) x0)
            have HC1 : Hid (∀ W2, Below W.heap.size W W2 → W2.cell? ⟨Bx, 1, none⟩ = some (.int .i64 (j : Int))) := Lib.hid (fun W2 h => later h (Nat.le_refl _) x1)
            clear x0 x1 hX
            have HCALL : Hid (∀ W' : World, Below W.heap.size W W' → ∀ i j : Int, -1 ≤ i → -1 ≤ j → i < ds.length → (0 ≤ i → j < (ds.getD i.toNat []).length) → Calls Try.prog 95 #[.agg #[.int .i64 p, .slice ad k cd, .slice aa k ca, .slice av k cv], .agg #[.int .i64 i, .int .i64 j]] W' fun e w' => e = .returned (.int .i64 (dcl ds i j)) ∧ Below W.heap.size W w') :=
              Lib.hid (fun W' hb i j h1 h2 h3 h4 => (dimOfCell_any p i j _ _ _ ds W' (HX2.out.dx.dims.below hb) ⟨by omega, fun r hr => by have := (HOK.out.col r hr).1; have := HOK.out.h1; show r.length ≤ _; omega⟩ h1 h2 h3 h4).mono fun _ _ h => ⟨h.1, hb.trans (h.2.mono hb.size)⟩)
            have HNOUT : Hid (∀ (K : Act → World → Prop) (b : Nat) (xs : List (CellIn ds)), ¬ LetsOut (Exit.then K (Exit.inBlock b (ownPostG W0.heap.size (Below wr.heap.size) (fun pre W => (∀ c ∈ pre, DTab p ds ac dn c.1) ∧ Below wr.heap.size wr W)
              (fun c _ W => ((c = .ret ∧ ¬ TbsOk p ds ac dn) ∧ Go.Boxed W (w.heap.size + 1) 4 (.bool false)) ∧ Below w.heap.size w W) xs W)))) := Lib.hid (fun _ _ _ ⟨_, _, h⟩ => h)
            have hik : i < k := by have := HM.out; omega
            have hia : i < ac.length := by have := HMA.out; omega
            have hiv : i < dn.length := by have := HMD.out; omega
            have hca := (HC.out i hik).1
            have hcv := (HC.out i hik).2
            rcases HX2.out.dx.across with ⟨hx, _⟩ | ⟨ba, oa, ca', hva, _, _, hcla⟩
            · exact absurd (hx ▸ hia) (Nat.not_lt_zero _)
            injection hva with haa _ _
            rcases HX2.out.dx.down with ⟨hx, _⟩ | ⟨bd, od, cd', hvd, _, _, hcld⟩
            · exact absurd (hx ▸ hiv) (Nat.not_lt_zero _)
            injection hvd with hvv _ _
            obtain ⟨ua, hA1, hra⟩ := hcla i hia
            obtain ⟨ud, hD1, hrd⟩ := hcld i hiv
            rw [getD_of_lt _ hia] at hca
            rw [getD_of_lt _ hiv] at hcv
            have hja' : j < (ac[i]).length := by have := hxc.2; omega
            have hjd' : j < (dn[i]).length := by have := hxc.2; omega
            have hT1b : Bd2 1048576 (ac[i])[j] := (HBA.out.2 _ (List.getElem_mem hia)).2 _ (List.getElem_mem hja')
            have hT2b : Bd2 1048576 (dn[i])[j] := (HBD.out.2 _ (List.getElem_mem hiv)).2 _ (List.getElem_mem hjd')
            rcases hra with ⟨hx, _⟩ | ⟨b2, o2, c2, rfl, _, _, hcl2⟩
            · rw [hx] at hja'; exact absurd hja' (Nat.not_lt_zero _)
            rcases hrd with ⟨hx, _⟩ | ⟨b3, o3, c3, rfl, _, _, hcl3⟩
            · rw [hx] at hjd'; exact absurd hjd' (Nat.not_lt_zero _)
            obtain ⟨u2, hA2, hT1l⟩ := hcl2 j hja'
            obtain ⟨u3', hD2, hT2l⟩ := hcl3 j hjd'
            have HDT : Hid ((TabOk p (dcl ds i j) (dcl ds ((i : Int) - 1) j) (ac[i])[j] ∧ TabOk p (dcl ds i j) (dcl ds i ((j : Int) - 1)) (dn[i])[j]) ↔ DTab p ds ac dn (i, j)) := Lib.hid (by
              show _ ↔ (TabOk p _ _ ((ac.getD i []).getD j []) ∧ TabOk p _ _ ((dn.getD i []).getD j []))
              rw [getD_of_lt _ hia, getD_of_lt _ hiv, getD_of_lt _ hja', getD_of_lt _ hjd'])
            have HT1l := Lib.hid hT1l
            have HT2l := Lib.hid hT2l
            obtain ⟨t2a, t2c, rfl⟩ := Sl.shape hT1l
            obtain ⟨t3a, t3c, rfl⟩ := Sl.shape hT2l
            have HT1 : Hid (∀ W2, Below W.heap.size W W2 → Calls Try.prog 96 #[.int .i64 p, .slice t2a ((ac[i])[j]).length t2c, .int .i64 (dcl ds i j), .int .i64 (dcl ds ((i : Int) - 1) j)] W2 (BW (TabOk p (dcl ds i j) (dcl ds ((i : Int) - 1) j) (ac[i])[j]) W2)) := Lib.hid (fun W2 h => isTable_any p _ _ _ _ W2 HP.out (HT1l.out.below h) hT1b)
            have HT2 : Hid (∀ W2, Below W.heap.size W W2 → Calls Try.prog 96 #[.int .i64 p, .slice t3a ((dn[i])[j]).length t3c, .int .i64 (dcl ds i j), .int .i64 (dcl ds i ((j : Int) - 1))] W2 (BW (TabOk p (dcl ds i j) (dcl ds i ((j : Int) - 1)) (dn[i])[j]) W2)) := Lib.hid (fun W2 h => isTable_any p _ _ _ _ W2 HP.out (HT2l.out.below h) hT2b)
            have HYES : Hid (TabOk p (dcl ds i j) (dcl ds ((i : Int) - 1) j) (ac[i])[j] → TabOk p (dcl ds i j) (dcl ds i ((j : Int) - 1)) (dn[i])[j] → ∀ z : CellIn ds, z.1 = (i, j) → ∀ c ∈ pre ++ [z], DTab p ds ac dn c.1) := Lib.hid (fun h1 h2 z hz c hc => by
              rcases List.mem_append.1 hc with hc | hc
              · exact HI.out c hc
              · rw [List.mem_singleton.1 hc, hz]; exact HDT.out.1 ⟨h1, h2⟩)
            have HNO : Hid (¬ (TabOk p (dcl ds i j) (dcl ds ((i : Int) - 1) j) (ac[i])[j] ∧ TabOk p (dcl ds i j) (dcl ds i ((j : Int) - 1)) (dn[i])[j]) → ¬ TbsOk p ds ac dn) := Lib.hid (fun hn h => hn (HDT.out.2 (h.tab _ hxm)))
            have HBX : Hid (∀ W2, Below W.heap.size W W2 → Go.Boxed W2 (w.heap.size + 1) 4 (.bool false)) := Lib.hid (fun W2 h => ((HB1.out.trans (h.mono HB1.out.size)).block _ (by omega)).trans HBR.out)
            obtain ⟨t2n, ht2n⟩ : ∃ n, n = ((ac[i])[j]).length := ⟨_, rfl⟩
            obtain ⟨t3n, ht3n⟩ : ∃ n, n = ((dn[i])[j]).length := ⟨_, rfl⟩
            obtain ⟨TA, hTA⟩ : ∃ t, t = (ac[i])[j] := ⟨_, rfl⟩
            obtain ⟨TD, hTD⟩ : ∃ t, t = (dn[i])[j] := ⟨_, rfl⟩
            rw [← ht2n] at HT1 hA2
            rw [← ht3n] at HT2 hD2
            rw [← hTA] at HT1 HYES HNO
            rw [← hTD] at HT2 HYES HNO
            obtain ⟨qa, hqa⟩ : ∃ n, n = (ac[i]).length := ⟨_, rfl⟩
            obtain ⟨qd, hqd⟩ : ∃ n, n = (dn[i]).length := ⟨_, rfl⟩
            rw [← hqa] at hA1
            rw [← hqd] at hD1
            have hja : j < qa := by omega
            have hjd : j < qd := by omega
            clear hsz hcla hcld hcl2 hcl3 hT1l hT2l ht2n ht3n hTA hTD hqa hqd hT1b hT2b hja' hjd' hca hcv HDT HT1l HT2l
            gi_wp2_with fail
            -- ROUND
            refine wpIn_region_held (S := fun W2 => Below W.heap.size W W2) (by kernel_rfl) (by kernel_rfl) (HNOUT.out _ _ _) ?_
            have S0 : Below W.heap.size W W.drew := (Below.refl _ _).drew
            change wpAnyH _ _ _ _ _ _ _ _ W.drew
            generalize W.drew = wd at *
            refine held_take (i := 0) (v := .agg #[.int .i64 p, .slice ad k cd, .slice aa k ca, .slice av k cv]) (some 57) rfl rfl (by kernel_rfl) (by kernel_rfl) (by kernel_rfl) (fun _ _ _ h => h) (yieldsIf_cell (by kernel_rfl) rfl (by kernel_rfl) (fun W2 h => hloadDb W2 (HNX.out W2 h))) S0 ?_
            refine held_take (i := 1) (v := .agg #[.int .i64 (i : Int), .int .i64 (j : Int)]) (some 58) rfl rfl (by kernel_rfl) (by kernel_rfl) (by kernel_rfl) (fun _ _ _ h => h) (yieldsIf_cell (by kernel_rfl) rfl (by kernel_rfl) (fun W2 h => hloadCe W2 (HC0.out W2 h) (HC1.out W2 h))) S0 ?_
            refine held_take (i := 3) (v := .agg #[.int .i64 p, .slice ad k cd, .slice aa k ca, .slice av k cv]) (some 60) rfl rfl (by kernel_rfl) (by kernel_rfl) (by kernel_rfl) (fun _ _ _ h => h) (yieldsIf_cell (by kernel_rfl) rfl (by kernel_rfl) (fun W2 h => hloadDb W2 (HNX.out W2 h))) S0 ?_
            refine held_take (i := 4) (v := .pointer (some ⟨Bx, 0, none⟩)) (some 61) rfl rfl (by kernel_rfl) (by kernel_rfl) (by kernel_rfl) (fun _ _ _ h => h) (yieldsIf_run0 (by kernel_rfl) (fun W _ => by kernel_rfl)) S0 ?_
            refine held_take (i := 5) (v := .int .i64 (i : Int)) (some 62) rfl rfl (by kernel_rfl) (by kernel_rfl) (by kernel_rfl) (fun _ _ _ h => h) (yieldsIf_cell (by kernel_rfl) rfl (by kernel_rfl) (fun W2 h => hloadIn W2 (HC0.out W2 h))) S0 ?_
            refine held_take (i := 6) (v := .int .i64 ((i : Int) - 1)) (some 63) rfl rfl (by kernel_rfl) (by kernel_rfl) (by kernel_rfl) (fun _ _ _ h => h) (yieldsIf_binD (by kernel_rfl) rfl (by kernel_rfl) (by kernel_rfl) (fun _ => by kernel_rfl) (fun W2 => hsubB (by omega) (by omega) W2)) S0 ?_
            refine held_take (i := 7) (v := .pointer (some ⟨Bx, 1, none⟩)) (some 64) rfl rfl (by kernel_rfl) (by kernel_rfl) (by kernel_rfl) (fun _ _ _ h => h) (yieldsIf_run0 (by kernel_rfl) (fun W _ => by kernel_rfl)) S0 ?_
            refine held_take (i := 8) (v := .int .i64 (j : Int)) (some 65) rfl rfl (by kernel_rfl) (by kernel_rfl) (by kernel_rfl) (fun _ _ _ h => h) (yieldsIf_cell (by kernel_rfl) rfl (by kernel_rfl) (fun W2 h => hloadIn W2 (HC1.out W2 h))) S0 ?_
            refine held_take (i := 9) (v := .agg #[.int .i64 ((i : Int) - 1), .int .i64 (j : Int)]) (some 66) rfl rfl (by kernel_rfl) (by kernel_rfl) (by kernel_rfl) (fun _ _ _ h => h) (yieldsIf_run0 (by kernel_rfl) (fun W _ => by kernel_rfl)) S0 ?_
            refine held_take (i := 11) (v := .agg #[.int .i64 p, .slice ad k cd, .slice aa k ca, .slice av k cv]) (some 68) rfl rfl (by kernel_rfl) (by kernel_rfl) (by kernel_rfl) (fun _ _ _ h => h) (yieldsIf_cell (by kernel_rfl) rfl (by kernel_rfl) (fun W2 h => hloadDb W2 (HNX.out W2 h))) S0 ?_
            refine held_take (i := 12) (v := .pointer (some ⟨Bx, 0, none⟩)) (some 69) rfl rfl (by kernel_rfl) (by kernel_rfl) (by kernel_rfl) (fun _ _ _ h => h) (yieldsIf_run0 (by kernel_rfl) (fun W _ => by kernel_rfl)) S0 ?_
            refine held_take (i := 13) (v := .int .i64 (i : Int)) (some 70) rfl rfl (by kernel_rfl) (by kernel_rfl) (by kernel_rfl) (fun _ _ _ h => h) (yieldsIf_cell (by kernel_rfl) rfl (by kernel_rfl) (fun W2 h => hloadIn W2 (HC0.out W2 h))) S0 ?_
            refine held_take (i := 14) (v := .pointer (some ⟨Bx, 1, none⟩)) (some 71) rfl rfl (by kernel_rfl) (by kernel_rfl) (by kernel_rfl) (fun _ _ _ h => h) (yieldsIf_run0 (by kernel_rfl) (fun W _ => by kernel_rfl)) S0 ?_
            refine held_take (i := 15) (v := .int .i64 (j : Int)) (some 72) rfl rfl (by kernel_rfl) (by kernel_rfl) (by kernel_rfl) (fun _ _ _ h => h) (yieldsIf_cell (by kernel_rfl) rfl (by kernel_rfl) (fun W2 h => hloadIn W2 (HC1.out W2 h))) S0 ?_
            refine held_take (i := 16) (v := .int .i64 ((j : Int) - 1)) (some 73) rfl rfl (by kernel_rfl) (by kernel_rfl) (by kernel_rfl) (fun _ _ _ h => h) (yieldsIf_binD (by kernel_rfl) rfl (by kernel_rfl) (by kernel_rfl) (fun _ => by kernel_rfl) (fun W2 => hsubB (by omega) (by omega) W2)) S0 ?_
            refine held_take (i := 17) (v := .agg #[.int .i64 (i : Int), .int .i64 ((j : Int) - 1)]) (some 74) rfl rfl (by kernel_rfl) (by kernel_rfl) (by kernel_rfl) (fun _ _ _ h => h) (yieldsIf_run0 (by kernel_rfl) (fun W _ => by kernel_rfl)) S0 ?_
            refine held_enter (i := 2) (some 59) (f := 95) (args := #[.agg #[.int .i64 p, .slice ad k cd, .slice aa k ca, .slice av k cv], .agg #[.int .i64 (i : Int), .int .i64 (j : Int)]]) (by kernel_rfl) rfl rfl rfl (by kernel_rfl) (HCALL.out wd S0 (i : Int) (j : Int) (by omega) (by omega) (by omega) (fun h0 => by have := HJ0.out h0; omega)) ?_ (fun c w' h => by obtain ⟨h, _⟩ := h; cases h) (fun w' h => by obtain ⟨h, _⟩ := h; cases h)
            rintro v0 wa ⟨hv0, S1⟩
            injection hv0 with hv0
            subst hv0
            refine ⟨S1, ?_⟩
            refine held_enter (i := 10) (some 67) (f := 95) (args := #[.agg #[.int .i64 p, .slice ad k cd, .slice aa k ca, .slice av k cv], .agg #[.int .i64 ((i : Int) - 1), .int .i64 (j : Int)]]) (by kernel_rfl) rfl rfl rfl (by kernel_rfl) (HCALL.out wa S1 ((i : Int) - 1) (j : Int) (by omega) (by omega) (by omega) (fun h0 => by have := HJ1.out h0; omega)) ?_ (fun c w' h => by obtain ⟨h, _⟩ := h; cases h) (fun w' h => by obtain ⟨h, _⟩ := h; cases h)
            rintro v1 wb ⟨hv1, S2⟩
            injection hv1 with hv1
            subst hv1
            refine ⟨S2, ?_⟩
            refine held_enter (i := 18) (some 75) (f := 95) (args := #[.agg #[.int .i64 p, .slice ad k cd, .slice aa k ca, .slice av k cv], .agg #[.int .i64 (i : Int), .int .i64 ((j : Int) - 1)]]) (by kernel_rfl) rfl rfl rfl (by kernel_rfl) (HCALL.out wb S2 (i : Int) ((j : Int) - 1) (by omega) (by omega) (by omega) (fun h0 => by have := HJ2.out h0; omega)) ?_ (fun c w' h => by obtain ⟨h, _⟩ := h; cases h) (fun w' h => by obtain ⟨h, _⟩ := h; cases h)
            rintro v2 wc ⟨hv2, S3⟩
            injection hv2 with hv2
            subst hv2
            refine ⟨S3, ?_⟩
            refine held_take (i := 19) (v := .int .i64 (dcl ds i j)) (some 6) rfl rfl (by kernel_rfl) (by kernel_rfl) (by kernel_rfl) (fun _ _ _ h => h) (yieldsIf_run0 (by kernel_rfl) (fun W _ => by kernel_rfl)) S3 ?_
            refine held_take (i := 20) (v := .int .i64 (dcl ds ((i : Int) - 1) j)) (some 7) rfl rfl (by kernel_rfl) (by kernel_rfl) (by kernel_rfl) (fun _ _ _ h => h) (yieldsIf_run0 (by kernel_rfl) (fun W _ => by kernel_rfl)) S3 ?_
            refine held_take (i := 21) (v := .int .i64 (dcl ds i ((j : Int) - 1))) (some 8) rfl rfl (by kernel_rfl) (by kernel_rfl) (by kernel_rfl) (fun _ _ _ h => h) (yieldsIf_run0 (by kernel_rfl) (fun W _ => by kernel_rfl)) S3 ?_
            refine wpAnyH_done (by kernel_rfl) ?_ _
            simp only [Act.put, List.setIfInBounds_toArray, List.set_cons_zero, List.set_cons_succ]
            clear S0 S1 S2
            gi_wp2_with fail
            have HS3 := Lib.hid S3
            clear S3
            have hcr := fun W2 (h : Below W.heap.size W W2) => (HBX.out W2 h).cell
            clear hcr
            refine wpIn_region_held (S := fun W2 => Below W.heap.size W W2) (by kernel_rfl) (by kernel_rfl) (HNOUT.out _ _ _) ?_
            have S4 : Below W.heap.size W wc.drew := HS3.out.drew
            change wpAnyH _ _ _ _ _ _ _ _ wc.drew
            generalize wc.drew = we at *
            refine held_take (i := 0) (v := .pointer (some ⟨w.heap.size, 0, none⟩)) (some 76) rfl rfl (by kernel_rfl) (by kernel_rfl) (by kernel_rfl) (fun _ _ _ h => h) (yieldsIf_run0 (by kernel_rfl) (fun W _ => by kernel_rfl)) S4 ?_
            refine held_take (i := 1) (v := .int .i64 p) (some 77) rfl rfl (by kernel_rfl) (by kernel_rfl) (by kernel_rfl) (fun _ _ _ h => h) (yieldsIf_cell (by kernel_rfl) rfl (by kernel_rfl) (fun W2 h => hloadIn W2 ((HNX.out W2 h).c0))) S4 ?_
            refine held_take (i := 2) (v := .pointer (some ⟨w.heap.size, 2, none⟩)) (some 78) rfl rfl (by kernel_rfl) (by kernel_rfl) (by kernel_rfl) (fun _ _ _ h => h) (yieldsIf_run0 (by kernel_rfl) (fun W _ => by kernel_rfl)) S4 ?_
            refine held_take (i := 3) (v := .slice aa k ca) (some 79) rfl rfl (by kernel_rfl) (by kernel_rfl) (by kernel_rfl) (fun _ _ _ h => h) (yieldsIf_cell (by kernel_rfl) rfl (by kernel_rfl) (fun W2 h => hload4 W2 ((HNX.out W2 h).c2))) S4 ?_
            refine held_take (i := 4) (v := .pointer (some ⟨Bx, 0, none⟩)) (some 80) rfl rfl (by kernel_rfl) (by kernel_rfl) (by kernel_rfl) (fun _ _ _ h => h) (yieldsIf_run0 (by kernel_rfl) (fun W _ => by kernel_rfl)) S4 ?_
            refine held_take (i := 5) (v := .int .i64 (i : Int)) (some 81) rfl rfl (by kernel_rfl) (by kernel_rfl) (by kernel_rfl) (fun _ _ _ h => h) (yieldsIf_cell (by kernel_rfl) rfl (by kernel_rfl) (fun W2 h => hloadIn W2 (HC0.out W2 h))) S4 ?_
            refine held_take (i := 6) (v := .pointer (some ⟨ba, oa + i, none⟩)) (some 82) rfl rfl (by kernel_rfl) (by kernel_rfl) (by kernel_rfl) (fun _ _ _ h => h) (yieldsIf_index (u := .slice aa k ca) (i := .int .i64 (i : Int)) (by kernel_rfl) rfl (by kernel_rfl) (by kernel_rfl) (fun W2 => hidx4 haa hik W2)) S4 ?_
            refine held_take (i := 7) (v := .slice (some ⟨b2, o2, none⟩) qa c2) (some 83) rfl rfl (by kernel_rfl) (by kernel_rfl) (by kernel_rfl) (fun _ _ _ h => h) (yieldsIf_cell (by kernel_rfl) rfl (by kernel_rfl) (fun W2 h => hload3s W2 (later h (Nat.le_refl _) hA1))) S4 ?_
            refine held_take (i := 8) (v := .pointer (some ⟨Bx, 1, none⟩)) (some 84) rfl rfl (by kernel_rfl) (by kernel_rfl) (by kernel_rfl) (fun _ _ _ h => h) (yieldsIf_run0 (by kernel_rfl) (fun W _ => by kernel_rfl)) S4 ?_
            refine held_take (i := 9) (v := .int .i64 (j : Int)) (some 85) rfl rfl (by kernel_rfl) (by kernel_rfl) (by kernel_rfl) (fun _ _ _ h => h) (yieldsIf_cell (by kernel_rfl) rfl (by kernel_rfl) (fun W2 h => hloadIn W2 (HC1.out W2 h))) S4 ?_
            refine held_take (i := 10) (v := .pointer (some ⟨b2, o2 + j, none⟩)) (some 86) rfl rfl (by kernel_rfl) (by kernel_rfl) (by kernel_rfl) (fun _ _ _ h => h) (yieldsIf_index (u := .slice (some ⟨b2, o2, none⟩) qa c2) (i := .int .i64 (j : Int)) (by kernel_rfl) rfl (by kernel_rfl) (by kernel_rfl) (fun W2 => hidx3 b2 o2 c2 hja W2)) S4 ?_
            refine held_take (i := 11) (v := .slice t2a t2n t2c) (some 87) rfl rfl (by kernel_rfl) (by kernel_rfl) (by kernel_rfl) (fun _ _ _ h => h) (yieldsIf_cell (by kernel_rfl) rfl (by kernel_rfl) (fun W2 h => hload2s W2 (later h (Nat.le_refl _) hA2))) S4 ?_
            refine held_take (i := 12) (v := .int .i64 (dcl ds i j)) (some 88) rfl rfl (by kernel_rfl) (by kernel_rfl) (by kernel_rfl) (fun _ _ _ h => h) (yieldsIf_move (by kernel_rfl) rfl (by kernel_rfl)) S4 ?_
            refine held_take (i := 13) (v := .int .i64 (dcl ds ((i : Int) - 1) j)) (some 89) rfl rfl (by kernel_rfl) (by kernel_rfl) (by kernel_rfl) (fun _ _ _ h => h) (yieldsIf_move (by kernel_rfl) rfl (by kernel_rfl)) S4 ?_
            refine held_enter (i := 14) (some 90) (f := 96) (args := #[.int .i64 p, .slice t2a t2n t2c, .int .i64 (dcl ds i j), .int .i64 (dcl ds ((i : Int) - 1) j)]) (by kernel_rfl) rfl rfl rfl (by kernel_rfl) (HT1.out we S4) ?_ (fun c w' h => by obtain ⟨_, h, _⟩ := h; cases h) (fun w' h => by obtain ⟨_, h, _⟩ := h; cases h)
            rintro v5 w5 ⟨bb, hv5, hw5, hbb⟩
            injection hv5 with hv5
            subst hv5
            subst hw5
            refine ⟨S4, ?_⟩
            have HBB := Lib.hid hbb
            clear hbb
            cases bb with
            | true =>
              refine held_take (i := 15) (v := .bool false) (some 91) rfl rfl (by kernel_rfl) (by kernel_rfl) (by kernel_rfl) (fun _ _ _ h => h) (yieldsIf_run0 (by kernel_rfl) (fun W _ => by kernel_rfl)) S4 ?_
              refine held_take (i := 16) (v := .bool false) (some 92) rfl rfl (by kernel_rfl) (by kernel_rfl) (by kernel_rfl) (fun _ _ _ h => h) (yieldsIf_move (by kernel_rfl) rfl (by kernel_rfl)) S4 ?_
              refine held_take (i := 17) (v := .pointer (some ⟨w.heap.size, 0, none⟩)) (some 93) rfl rfl (by kernel_rfl) (by kernel_rfl) (by kernel_rfl) (fun _ _ _ h => h) (yieldsIf_runG (by kernel_rfl) (fun W _ => by kernel_rfl)) S4 ?_
              refine held_take (i := 18) (v := .int .i64 p) (some 94) rfl rfl (by kernel_rfl) (by kernel_rfl) (by kernel_rfl) (fun _ _ _ h => h) (yieldsIf_cellG (by kernel_rfl) rfl (by kernel_rfl) (fun W2 h => hloadIn W2 ((HNX.out W2 h).c0))) S4 ?_
              refine held_take (i := 19) (v := .pointer (some ⟨w.heap.size, 3, none⟩)) (some 95) rfl rfl (by kernel_rfl) (by kernel_rfl) (by kernel_rfl) (fun _ _ _ h => h) (yieldsIf_runG (by kernel_rfl) (fun W _ => by kernel_rfl)) S4 ?_
              refine held_take (i := 20) (v := .slice av k cv) (some 96) rfl rfl (by kernel_rfl) (by kernel_rfl) (by kernel_rfl) (fun _ _ _ h => h) (yieldsIf_cellG (by kernel_rfl) rfl (by kernel_rfl) (fun W2 h => hload4 W2 ((HNX.out W2 h).c3))) S4 ?_
              refine held_take (i := 21) (v := .pointer (some ⟨Bx, 0, none⟩)) (some 97) rfl rfl (by kernel_rfl) (by kernel_rfl) (by kernel_rfl) (fun _ _ _ h => h) (yieldsIf_runG (by kernel_rfl) (fun W _ => by kernel_rfl)) S4 ?_
              refine held_take (i := 22) (v := .int .i64 (i : Int)) (some 98) rfl rfl (by kernel_rfl) (by kernel_rfl) (by kernel_rfl) (fun _ _ _ h => h) (yieldsIf_cellG (by kernel_rfl) rfl (by kernel_rfl) (fun W2 h => hloadIn W2 (HC0.out W2 h))) S4 ?_
              refine held_take (i := 23) (v := .pointer (some ⟨bd, od + i, none⟩)) (some 99) rfl rfl (by kernel_rfl) (by kernel_rfl) (by kernel_rfl) (fun _ _ _ h => h) (yieldsIf_indexD (u := .slice av k cv) (i := .int .i64 (i : Int)) (by kernel_rfl) rfl (by kernel_rfl) (by kernel_rfl) (fun W2 => hidx4 hvv hik W2)) S4 ?_
              refine held_take (i := 24) (v := .slice (some ⟨b3, o3, none⟩) qd c3) (some 100) rfl rfl (by kernel_rfl) (by kernel_rfl) (by kernel_rfl) (fun _ _ _ h => h) (yieldsIf_cellG (by kernel_rfl) rfl (by kernel_rfl) (fun W2 h => hload3s W2 (later h (Nat.le_refl _) hD1))) S4 ?_
              refine held_take (i := 25) (v := .pointer (some ⟨Bx, 1, none⟩)) (some 101) rfl rfl (by kernel_rfl) (by kernel_rfl) (by kernel_rfl) (fun _ _ _ h => h) (yieldsIf_runG (by kernel_rfl) (fun W _ => by kernel_rfl)) S4 ?_
              refine held_take (i := 26) (v := .int .i64 (j : Int)) (some 102) rfl rfl (by kernel_rfl) (by kernel_rfl) (by kernel_rfl) (fun _ _ _ h => h) (yieldsIf_cellG (by kernel_rfl) rfl (by kernel_rfl) (fun W2 h => hloadIn W2 (HC1.out W2 h))) S4 ?_
              refine held_take (i := 27) (v := .pointer (some ⟨b3, o3 + j, none⟩)) (some 103) rfl rfl (by kernel_rfl) (by kernel_rfl) (by kernel_rfl) (fun _ _ _ h => h) (yieldsIf_indexD (u := .slice (some ⟨b3, o3, none⟩) qd c3) (i := .int .i64 (j : Int)) (by kernel_rfl) rfl (by kernel_rfl) (by kernel_rfl) (fun W2 => hidx3 b3 o3 c3 hjd W2)) S4 ?_
              refine held_take (i := 28) (v := .slice t3a t3n t3c) (some 104) rfl rfl (by kernel_rfl) (by kernel_rfl) (by kernel_rfl) (fun _ _ _ h => h) (yieldsIf_cellG (by kernel_rfl) rfl (by kernel_rfl) (fun W2 h => hload2s W2 (later h (Nat.le_refl _) hD2))) S4 ?_
              refine held_take (i := 29) (v := .int .i64 (dcl ds i j)) (some 105) rfl rfl (by kernel_rfl) (by kernel_rfl) (by kernel_rfl) (fun _ _ _ h => h) (yieldsIf_runG (by kernel_rfl) (fun W _ => by kernel_rfl)) S4 ?_
              refine held_take (i := 30) (v := .int .i64 (dcl ds i ((j : Int) - 1))) (some 106) rfl rfl (by kernel_rfl) (by kernel_rfl) (by kernel_rfl) (fun _ _ _ h => h) (yieldsIf_runG (by kernel_rfl) (fun W _ => by kernel_rfl)) S4 ?_
              refine held_enterG (i := 31) (some 107) (f := 96) (args := #[.int .i64 p, .slice t3a t3n t3c, .int .i64 (dcl ds i j), .int .i64 (dcl ds i ((j : Int) - 1))]) (by kernel_rfl) rfl (by kernel_rfl) rfl (by kernel_rfl) (HT2.out we S4) ?_ (fun c w' h => by obtain ⟨_, h, _⟩ := h; cases h) (fun w' h => by obtain ⟨_, h, _⟩ := h; cases h)
              rintro v6 w6 ⟨bc, hv6, hw6, hbc⟩
              injection hv6 with hv6
              subst hv6
              subst hw6
              refine ⟨S4, ?_⟩
              have HBC := Lib.hid hbc
              clear hbc
              cases bc with
              | true =>
                refine held_take (i := 32) (v := .bool false) (some 108) rfl rfl (by kernel_rfl) (by kernel_rfl) (by kernel_rfl) (fun _ _ _ h => h) (yieldsIf_runG (by kernel_rfl) (fun W _ => by kernel_rfl)) S4 ?_
                refine held_take (i := 33) (v := .bool false) (some 109) rfl rfl (by kernel_rfl) (by kernel_rfl) (by kernel_rfl) (fun _ _ _ h => h) (yieldsIf_run0 (by kernel_rfl) (fun W _ => by kernel_rfl)) S4 ?_
                refine wpAnyH_done (by kernel_rfl) ?_ _
                simp only [Act.put, List.setIfInBounds_toArray, List.set_cons_zero, List.set_cons_succ]
                have HS4 := Lib.hid S4
                clear S4
                gi_wp2
                exact ⟨keepsFrom_below HS4.out, HS4.out.mono HB1.out.size, HYES.out (HBB.out.1 (by simp)) (HBC.out.1 (by simp)) _ rfl, HB1.out.trans (HS4.out.mono HB1.out.size)⟩
              | false =>
                refine held_take (i := 32) (v := .bool true) (some 108) rfl rfl (by kernel_rfl) (by kernel_rfl) (by kernel_rfl) (fun _ _ _ h => h) (yieldsIf_runG (by kernel_rfl) (fun W _ => by kernel_rfl)) S4 ?_
                refine held_take (i := 33) (v := .bool true) (some 109) rfl rfl (by kernel_rfl) (by kernel_rfl) (by kernel_rfl) (fun _ _ _ h => h) (yieldsIf_run0 (by kernel_rfl) (fun W _ => by kernel_rfl)) S4 ?_
                refine wpAnyH_done (by kernel_rfl) ?_ _
                simp only [Act.put, List.setIfInBounds_toArray, List.set_cons_zero, List.set_cons_succ]
                have cr2 := (HBX.out we S4).cell
                have fr2 := (HBX.out we S4).frozen
                have HS4 := Lib.hid S4
                clear S4
                gi_wp2
                exact ⟨(keepsFrom_below HS4.out).trans ((KeepsOthers.setCell _ _ _).from _), ⟨⟨rfl, HNO.out (fun h => absurd (HBC.out.2 h.2) (by simp))⟩, (HBX.out we HS4.out).set _⟩, ((HNX.out we HS4.out).below).setCell (p := ⟨w.heap.size + 1, 0, none⟩) (Nat.le_succ _) _⟩
            | false =>
              refine held_take (i := 15) (v := .bool true) (some 91) rfl rfl (by kernel_rfl) (by kernel_rfl) (by kernel_rfl) (fun _ _ _ h => h) (yieldsIf_run0 (by kernel_rfl) (fun W _ => by kernel_rfl)) S4 ?_
              refine held_take (i := 16) (v := .bool true) (some 92) rfl rfl (by kernel_rfl) (by kernel_rfl) (by kernel_rfl) (fun _ _ _ h => h) (yieldsIf_move (by kernel_rfl) rfl (by kernel_rfl)) S4 ?_
              refine held_skip0 (i := 17) (some 93) rfl rfl (by kernel_rfl) (by kernel_rfl) (by kernel_rfl) (fun _ _ _ h => h) (by kernel_rfl) S4 ?_
              refine held_skip0 (i := 18) (some 94) rfl rfl (by kernel_rfl) (by kernel_rfl) (by kernel_rfl) (fun _ _ _ h => h) (by kernel_rfl) S4 ?_
              refine held_skip0 (i := 19) (some 95) rfl rfl (by kernel_rfl) (by kernel_rfl) (by kernel_rfl) (fun _ _ _ h => h) (by kernel_rfl) S4 ?_
              refine held_skip0 (i := 20) (some 96) rfl rfl (by kernel_rfl) (by kernel_rfl) (by kernel_rfl) (fun _ _ _ h => h) (by kernel_rfl) S4 ?_
              refine held_skip0 (i := 21) (some 97) rfl rfl (by kernel_rfl) (by kernel_rfl) (by kernel_rfl) (fun _ _ _ h => h) (by kernel_rfl) S4 ?_
              refine held_skip0 (i := 22) (some 98) rfl rfl (by kernel_rfl) (by kernel_rfl) (by kernel_rfl) (fun _ _ _ h => h) (by kernel_rfl) S4 ?_
              refine held_skip0 (i := 23) (some 99) rfl rfl (by kernel_rfl) (by kernel_rfl) (by kernel_rfl) (fun _ _ _ h => h) (by kernel_rfl) S4 ?_
              refine held_skip0 (i := 24) (some 100) rfl rfl (by kernel_rfl) (by kernel_rfl) (by kernel_rfl) (fun _ _ _ h => h) (by kernel_rfl) S4 ?_
              refine held_skip0 (i := 25) (some 101) rfl rfl (by kernel_rfl) (by kernel_rfl) (by kernel_rfl) (fun _ _ _ h => h) (by kernel_rfl) S4 ?_
              refine held_skip0 (i := 26) (some 102) rfl rfl (by kernel_rfl) (by kernel_rfl) (by kernel_rfl) (fun _ _ _ h => h) (by kernel_rfl) S4 ?_
              refine held_skip0 (i := 27) (some 103) rfl rfl (by kernel_rfl) (by kernel_rfl) (by kernel_rfl) (fun _ _ _ h => h) (by kernel_rfl) S4 ?_
              refine held_skip0 (i := 28) (some 104) rfl rfl (by kernel_rfl) (by kernel_rfl) (by kernel_rfl) (fun _ _ _ h => h) (by kernel_rfl) S4 ?_
              refine held_skip0 (i := 29) (some 105) rfl rfl (by kernel_rfl) (by kernel_rfl) (by kernel_rfl) (fun _ _ _ h => h) (by kernel_rfl) S4 ?_
              refine held_skip0 (i := 30) (some 106) rfl rfl (by kernel_rfl) (by kernel_rfl) (by kernel_rfl) (fun _ _ _ h => h) (by kernel_rfl) S4 ?_
              refine held_skip0 (i := 31) (some 107) rfl rfl (by kernel_rfl) (by kernel_rfl) (by kernel_rfl) (fun _ _ _ h => h) (by kernel_rfl) S4 ?_
              refine held_skip0 (i := 32) (some 108) rfl rfl (by kernel_rfl) (by kernel_rfl) (by kernel_rfl) (fun _ _ _ h => h) (by kernel_rfl) S4 ?_
              refine held_take (i := 33) (v := .bool true) (some 109) rfl rfl (by kernel_rfl) (by kernel_rfl) (by kernel_rfl) (fun _ _ _ h => h) (yieldsIf_run0 (by kernel_rfl) (fun W _ => by kernel_rfl)) S4 ?_
              refine wpAnyH_done (by kernel_rfl) ?_ _
              simp only [Act.put, List.setIfInBounds_toArray, List.set_cons_zero, List.set_cons_succ]
              have cr2 := (HBX.out we S4).cell
              have fr2 := (HBX.out we S4).frozen
              have HS4 := Lib.hid S4
              clear S4
              gi_wp2
              exact ⟨(keepsFrom_below HS4.out).trans ((KeepsOthers.setCell _ _ _).from _), ⟨⟨rfl, HNO.out (fun h => absurd (HBB.out.2 h.1) (by simp))⟩, (HBX.out we HS4.out).set _⟩, ((HNX.out we HS4.out).below).setCell (p := ⟨w.heap.size + 1, 0, none⟩) (Nat.le_succ _) _⟩
          case done =>
            rintro D zs W hD hS ⟨hI, hB1⟩ hK
            have hDw : w.heap.size ≤ D := by omega
            have hbw : Go.Boxed W (w.heap.size + 1) 4 (.bool false) := (hB1.block _ (by omega)).trans HBR.out
            have cr2 := hbw.cell
            have fr2 := hbw.frozen
            have HOK2 : Hid (TbsOk p ds ac dn) := Lib.hid ⟨by rw [← HMA.out, ← HM.out], by rw [← HMD.out, ← HM.out], fun i hi => (HC.out i (by rw [HM.out]; exact hi)).1, fun i hi => (HC.out i (by rw [HM.out]; exact hi)).2, fun c hc => by
              rw [← hS] at hc
              obtain ⟨z, hz, rfl⟩ := List.mem_map.1 hc
              exact hI z hz⟩
            have HK := Lib.hid hK
            have HBW := Lib.hid (hbw.set (.bool true))
            have HB2 : Hid (Below w.heap.size w (W.setCell ⟨w.heap.size + 1, 0, none⟩ (.bool true))) := Lib.hid ((HX1.out.below.trans (hB1.mono (by omega))).setCell (p := ⟨w.heap.size + 1, 0, none⟩) (Nat.le_succ _) _)
            clear hsz hI hS hbw hB1 hK
            gi_wp2
            have hK2 : (W.setCell ⟨w.heap.size + 1, 0, none⟩ (.bool true)).heap[D]? = some (.deferred (some [])) := (KeepsOthers.setCell W _ _).same D _ HK.out rfl
            refine ⟨by simp, .inl ⟨_, _, rfl, run_takeDeferred hK2, ?_⟩⟩
            exact ⟨_, results_bool HRES.out _ _ _ _ rfl (cell_kept HBW.out.cell (grownBy_putObj' _ D (.deferred none)) (fun r e => by cases e; exact ⟨_, hK2, rfl⟩)),
              bb_true (HB2.out.trans (belowK_b (w := w) (Nat.le_refl _) _ D _ _ hDw hK2 rfl rfl)) HOK2.out⟩
          case stop =>
            rintro D c pre W hD _ ⟨⟨⟨rfl, hno⟩, hbx⟩, hB1⟩ hK
            have hDw : w.heap.size ≤ D := by omega
            have HK := Lib.hid hK
            have HNO := Lib.hid hno
            clear hsz hno hK
            gi_wp2
            refine ⟨by simp, .inl ⟨_, _, rfl, run_takeDeferred HK.out, ?_⟩⟩
            exact ⟨_, results_bool HRES.out _ _ _ _ rfl (cell_kept hbx.cell (grownBy_putObj' _ D (.deferred none)) (fun r e => by cases e; exact ⟨_, HK.out, rfl⟩)),
              bb_false (hB1.trans (belowK_b (w := w) (Nat.le_refl _) _ D _ _ hDw HK.out rfl rfl)) HNO.out⟩
    · subst hea
      have hq2 : ((md : Int) != (ma : Int)) = true := by have hz : (md : Int) ≠ (ma : Int) := (by omega); simp [hz]
      refine (callsIn_wide (n := 6)).1 ?_
      refine callsIn_of_wp_marks Try.func46 rfl trivial ?_
      simp only [Try.ntmps46, List.size_toArray, List.length_cons, List.length_nil, Nat.reduceAdd, Nat.reduceSub, Array.replicate_succ, Array.replicate_zero, List.push_toArray, List.append_toArray, List.nil_append, List.cons_append]
      gi_wp2
      rw [← hw1]
      exact ⟨_, results_bool HRES.out _ _ _ _ rfl cr, bb_false HX1.out.below (fun h => hed (by rw [HMD.out, HM.out]; exact h.ld))⟩
  · have hq1 : ((ma : Int) != (m : Int)) = true := by have hz : (ma : Int) ≠ (m : Int) := (by omega); simp [hz]
    refine (callsIn_wide (n := 6)).1 ?_
    refine callsIn_of_wp_marks Try.func46 rfl trivial ?_
    simp only [Try.ntmps46, List.size_toArray, List.length_cons, List.length_nil, Nat.reduceAdd, Nat.reduceSub, Array.replicate_succ, Array.replicate_zero, List.push_toArray, List.append_toArray, List.nil_append, List.cons_append]
    gi_wp2
    rw [← hw1]
    exact ⟨_, results_bool HRES.out _ _ _ _ rfl cr, bb_false HX1.out.below (fun h => hea (by rw [HMA.out, HM.out]; exact h.la))⟩
end Go.Proofs.Ytlopenephgabhaa

