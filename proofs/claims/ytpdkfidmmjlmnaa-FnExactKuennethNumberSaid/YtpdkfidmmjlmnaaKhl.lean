/-
  What homologyOf gathers in its box: two lists of lists, a list of numbers; which appends and stores leave what.
-/
import Derived.Test.YtpdkfidmmjlmnaaKsd
import Derived.Test.YtpdkfidmmjlmnaaSdp
import Derived.Test.YtpdkfidmmjlmnaaHld
namespace Go.Proofs.Ytpdkfidmmjlmnaa
open Go.RowKit

def sel5 (x y z u v : Value) : Nat → Value := fun i => if i = 0 then x else if i = 1 then y else if i = 2 then z else if i = 3 then u else v
theorem rowIs5 {w : World} {b : Nat} {x y z u v : Value} {t : TypeId} (h : w.heap[b]? = some (.cells #[x, y, z, u, v] t)) : w.rowIs b t 5 (sel5 x y z u v) :=
  ⟨#[x, y, z, u, v], h, rfl, fun i hi => by
    match i, hi with
    | 0, _ => rfl
    | 1, _ => rfl
    | 2, _ => rfl
    | 3, _ => rfl
    | 4, _ => rfl⟩
theorem hoT : 120 ≠ 2 ∧ 120 ≠ 86 := by decide
theorem Try.infoLv : (Try.prog.info? 86).map (fun i => (i.zero, i.size, i.bytes)) = some (some (.slice none 0 0), 1, 24) := by kernel_rfl
theorem Try.underlyingLv : Try.prog.underlying 118 = some (.slice 86) := by kernel_rfl
theorem hloadL (w : World) {b o : Nat} {x : Value} (h : w.cell? ⟨b, o, none⟩ = some x) : (Instr.loadAt 118 (.pointer (some ⟨b, o, none⟩))).run Try.prog w = .ok x w := by go_simp

/-- A homology that is being gathered: its box at block g. -/
structure Ho (w1 wr : World) (g : Nat) (p s : Int) (bv sv tv : Value) (bs ss : List Value) (ys : List Int) : Prop where
  below : Below w1.heap.size w1 wr
  lo : w1.heap.size ≤ g
  box : wr.rowIs g 120 5 (sel5 (.int .i64 p) (.int .i64 s) bv sv tv)
  bot : wr.ownsRow w1.heap.size 86 1 bv bs.length bs
  bas : wr.ownsRow w1.heap.size 86 1 sv ss.length ss
  st : Gb w1.heap.size wr tv ys
  off : OffB bv.ownBlock sv
theorem OffB.turn {u v : Value} (h : OffB u.ownBlock v) : OffB v.ownBlock u := fun g hg e => h g e hg
theorem Ho.next {w1 wr wa : World} {g : Nat} {p s : Int} {bv sv tv : Value} {bs ss : List Value} {ys : List Int} (h : Ho w1 wr g p s bv sv tv bs ss ys) (hb : Below wr.heap.size wr wa) : Ho w1 wa g p s bv sv tv bs ss ys :=
  ⟨h.below.trans (hb.mono h.below.size), h.lo, h.box.of_block (hb.block _ h.box.lt), owns_below h.bot hb, owns_below h.bas hb, h.st.below hb, h.off⟩
theorem Ho.stepB {w1 wa w' : World} {g g' n c : Nat} {p s : Int} {bv sv tv : Value} {bs ss bs' : List Value} {ys : List Int} (h : Ho w1 wa g p s bv sv tv bs ss ys) (hg : wa.grownBy w' bv.ownBlock) (hn : w'.ownsRow w1.heap.size 86 1 (.slice (some ⟨g', 0, none⟩) n c) bs'.length bs') (hl : bv.ownBlock = some g' ∨ g' = wa.heap.size) :
    Ho w1 (w'.setCell ⟨g, 2, none⟩ (.slice (some ⟨g', 0, none⟩) n c)) g p s (.slice (some ⟨g', 0, none⟩) n c) sv tv bs' ss ys := by
  have hr := row_grown h.box h.bot hoT.2 hg
  have hb := h.below.grown hg h.below.size (fun g hg => ((World.ownsRow.lt h.bot) g hg).1)
  have hs := owns_grown_off h.bas h.off hg
  have ht : Gb w1.heap.size w' tv ys := owns_grown h.st h.bot (by decide) hg
  refine ⟨hb.setCell h.lo _, h.lo, (hr.set 2 _).congr (fun j hj => ?_), owns_off hn hr hoT.2 _ _, owns_off hs hr hoT.2 _ _, ht.off hr hoT.1 _ _, fun g2 hg2 e => ?_⟩
  · match j, hj with
    | 0, _ => rfl
    | 1, _ => rfl
    | 2, _ => rfl
    | 3, _ => rfl
    | 4, _ => rfl
  · injection e with e
    subst e
    rcases hl with hl | hl
    · exact h.off _ hg2 hl
    · have h3 : g' < wa.heap.size := owns_lt h.bas hg2
      omega
theorem Ho.stepS {w1 wa w' : World} {g g' n c : Nat} {p s : Int} {bv sv tv : Value} {bs ss ss' : List Value} {ys : List Int} (h : Ho w1 wa g p s bv sv tv bs ss ys) (hg : wa.grownBy w' sv.ownBlock) (hn : w'.ownsRow w1.heap.size 86 1 (.slice (some ⟨g', 0, none⟩) n c) ss'.length ss') (hl : sv.ownBlock = some g' ∨ g' = wa.heap.size) :
    Ho w1 (w'.setCell ⟨g, 3, none⟩ (.slice (some ⟨g', 0, none⟩) n c)) g p s bv (.slice (some ⟨g', 0, none⟩) n c) tv bs ss' ys := by
  have hr := row_grown h.box h.bas hoT.2 hg
  have hb := h.below.grown hg h.below.size (fun g hg => ((World.ownsRow.lt h.bas) g hg).1)
  have hs := owns_grown_off h.bot h.off.turn hg
  have ht : Gb w1.heap.size w' tv ys := owns_grown h.st h.bas (by decide) hg
  refine ⟨hb.setCell h.lo _, h.lo, (hr.set 3 _).congr (fun j hj => ?_), owns_off hs hr hoT.2 _ _, owns_off hn hr hoT.2 _ _, ht.off hr hoT.1 _ _, fun g2 hg2 e => ?_⟩
  · match j, hj with
    | 0, _ => rfl
    | 1, _ => rfl
    | 2, _ => rfl
    | 3, _ => rfl
    | 4, _ => rfl
  · injection hg2 with hg2
    subst hg2
    rcases hl with hl | hl
    · exact h.off _ hl e
    · have h3 : g' < wa.heap.size := owns_lt h.bot e
      omega
theorem Ho.stepT {w1 wa w' : World} {g : Nat} {p s : Int} {bv sv tv v' : Value} {bs ss : List Value} {ys ys' : List Int} (h : Ho w1 wa g p s bv sv tv bs ss ys) (hg : wa.grownBy w' tv.ownBlock) (hn : Gb w1.heap.size w' v' ys') :
    Ho w1 (w'.setCell ⟨g, 4, none⟩ v') g p s bv sv v' bs ss ys' := by
  have hr := row_grown h.box h.st hoT.1 hg
  have hb := h.below.grown hg h.below.size (fun g hg => (h.st.lt g hg).1)
  have h1 := owns_grown h.bot h.st (by decide) hg
  have h2 := owns_grown h.bas h.st (by decide) hg
  refine ⟨hb.setCell h.lo _, h.lo, (hr.set 4 _).congr (fun j hj => ?_), owns_off h1 hr hoT.2 _ _, owns_off h2 hr hoT.2 _ _, hn.off hr hoT.1 _ _, h.off⟩
  match j, hj with
  | 0, _ => rfl
  | 1, _ => rfl
  | 2, _ => rfl
  | 3, _ => rfl
  | 4, _ => rfl
theorem Ho.setZ {w1 wa : World} {g : Nat} {p s : Int} {bv sv tv : Value} {bs ss : List Value} {ys : List Int} (h : Ho w1 wa g p s bv sv tv bs ss ys) (z : Int) : Ho w1 (wa.setCell ⟨g, 1, none⟩ (.int .i64 z)) g p z bv sv tv bs ss ys := by
  have hr := h.box
  refine ⟨h.below.setCell h.lo _, h.lo, (hr.set 1 _).congr (fun j hj => ?_), owns_off h.bot hr hoT.2 _ _, owns_off h.bas hr hoT.2 _ _, h.st.off hr hoT.1 _ _, h.off⟩
  match j, hj with
  | 0, _ => rfl
  | 1, _ => rfl
  | 2, _ => rfl
  | 3, _ => rfl
  | 4, _ => rfl

section
variable {o : Oper} {a : Act} {w : World} {K : Act → World → Prop} {Q : Exit → Act → World → Prop}
/-- append of one list to an owned list of lists. -/
theorem wp_appendLl (dst : Option Tmp) (hdst : o.dst = dst) (s x : Operand) (ho : o.op = .call { callee := .builtin .append, args := #[s, x], argTypes := #[118, 118] }) (base : Nat) (v : Value) (xs : List Value) (hs : a.eval s = v) (hown : w.ownsRow base 86 1 v xs.length xs)
    (b : Nat) (hx : a.eval x = .slice (some ⟨b, 0, none⟩) 1 1) (ar : Option Addr) (nr cr : Nat) (hc : w.cell? ⟨b, 0, none⟩ = some (.slice ar nr cr)) (hl : xs.length ≤ 2097151) (hb : base ≤ w.heap.size)
    (h : ∀ g cap w', w'.ownsRow base 86 1 (.slice (some ⟨g, 0, none⟩) (xs.length + 1) cap) (xs ++ [Value.slice ar nr cr]).length (xs ++ [Value.slice ar nr cr]) → w.grownBy w' v.ownBlock → (v.ownBlock = some g ∨ g = w.heap.size) → K (a.put dst (.slice (some ⟨g, 0, none⟩) (xs.length + 1) cap)) w') : o.wp Try.prog a w K Q := by
  obtain ⟨i, hi, hz, hs1, hb1⟩ := info_parts Try.infoLv
  subst hdst
  refine wp_append_lies w s x 118 ho base 86 i _ 1 24 Try.underlyingLv hi hz hs1 hb1 rfl (by decide) v xs.length xs hs hown ⟨b, 0, none⟩ 1 1 [.slice ar nr cr] hx rfl ?_ ?_ (by omega) (by unfold maxLen; omega) (by omega) hb _ rfl (fun g cap w' h1 h2 h3 _ => h g cap w' (by simpa using h1) h2 h3)
  · intro j u hj
    match j, hj with
    | 0, hj =>
      simp at hj
      subst hj
      exact hc
  · intro u hu
    simp at hu
    subst hu
    rfl
theorem wpList_appendLl {ops : Array Oper} {rest : List Oper} (hgd : o.guard = none) (dst : Option Tmp) (hdst : o.dst = dst) (s x : Operand) (ho : o.op = .call { callee := .builtin .append, args := #[s, x], argTypes := #[118, 118] }) (base : Nat) (v : Value) (xs : List Value) (hs : a.eval s = v) (hown : w.ownsRow base 86 1 v xs.length xs)
    (b : Nat) (hx : a.eval x = .slice (some ⟨b, 0, none⟩) 1 1) (ar : Option Addr) (nr cr : Nat) (hc : w.cell? ⟨b, 0, none⟩ = some (.slice ar nr cr)) (hl : xs.length ≤ 2097151) (hb : base ≤ w.heap.size)
    (h : ∀ g cap w', w'.ownsRow base 86 1 (.slice (some ⟨g, 0, none⟩) (xs.length + 1) cap) (xs ++ [Value.slice ar nr cr]).length (xs ++ [Value.slice ar nr cr]) → w.grownBy w' v.ownBlock → (v.ownBlock = some g ∨ g = w.heap.size) → wpList Try.prog ops Q rest (a.put dst (.slice (some ⟨g, 0, none⟩) (xs.length + 1) cap)) w') : wpList Try.prog ops Q (o :: rest) a w :=
  wpList_plain hgd fun _ hK => wp_appendLl dst hdst s x ho base v xs hs hown b hx ar nr cr hc hl hb fun g cap w' h1 h2 h3 => by subst hdst; exact hK _ _ (h g cap w' h1 h2 h3)
end

/-- What an owned list of lists reads as: its lengths. -/
structure Els (ss : List Value) (ns : List Int) : Prop where
  len : ns.length = ss.length
  el : ∀ k (h1 : k < ns.length) (h2 : k < ss.length), ∃ (m : Nat) (a : Option Addr) (c : Nat), ns[k] = (m : Int) ∧ ss[k] = .slice a m c
theorem Els.nil : Els [] [] := ⟨rfl, fun _ h => absurd h (Nat.not_lt_zero _)⟩
theorem Els.push {ss : List Value} {ns : List Int} (h : Els ss ns) (m : Nat) (a : Option Addr) (c : Nat) : Els (ss ++ [Value.slice a m c]) (ns ++ [(m : Int)]) := by
  refine ⟨by simp [h.len], fun k h1 h2 => ?_⟩
  by_cases e : k < ns.length
  · have e2 : k < ss.length := by rw [← h.len]; exact e
    rw [List.getElem_append_left e, List.getElem_append_left e2]
    exact h.el k e e2
  · have e2 : k = ns.length := by simp at h1; omega
    subst e2
    rw [List.getElem_append_right (Nat.le_refl _), List.getElem_append_right (by rw [h.len]; exact Nat.le_refl _)]
    simp only [Nat.sub_self, h.len, List.getElem_cons_zero]
    exact ⟨m, a, c, rfl, rfl⟩
theorem Els.lq {w : World} {base : Nat} {v : Value} {ss : List Value} {ns : List Int} (h : Els ss ns) (ho : w.ownsRow base 86 1 v ss.length ss) : Lq w v ns := sl_of_owns ho (Nat.zero_le _) h.len (fun k h1 h2 => h.el k h1 h2)
end Go.Proofs.Ytpdkfidmmjlmnaa
