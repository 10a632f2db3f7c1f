/-
  Tables whose rows lie off a block, gathered row by row; the appends of Sdo at a plain region.
-/
import Derived.Test.YtpdkfidmmjlmnaaSdo
namespace Go.Proofs.Ytpdkfidmmjlmnaa
open Go.RowKit

/-- A table that the call gathers, its rows off a block. -/
def Grb (b : Option Nat) (base : Nat) (w : World) (u : Value) (t : List (List Int)) : Prop := ∃ vs, w.ownsRow base 22 1 u t.length vs ∧ ∀ k (h1 : k < vs.length) (h2 : k < t.length), G1 w vs[k] t[k] ∧ OffB b vs[k]
theorem Grb.gs {b : Option Nat} {base : Nat} {w : World} {u : Value} {t : List (List Int)} (h : Grb b base w u t) : Gs base w u t := by
  obtain ⟨vs, ho, hr⟩ := h
  exact ⟨vs, ho, fun k h1 h2 => (hr k h1 h2).1⟩
theorem Grb.below {b : Option Nat} {base : Nat} {w w' : World} {u : Value} {t : List (List Int)} (h : Grb b base w u t) (hb : Below w.heap.size w w') : Grb b base w' u t := by
  obtain ⟨vs, ho, hr⟩ := h
  exact ⟨vs, owns_below ho hb, fun k h1 h2 => ⟨(hr k h1 h2).1.below hb, (hr k h1 h2).2⟩⟩
theorem Grb.start {b : Option Nat} {base : Nat} {w : World} {u : Value} (h : Gs base w u []) : Grb b base w u [] := by
  obtain ⟨vs, ho, _⟩ := h
  exact ⟨vs, ho, fun k _ h2 => absurd h2 (Nat.not_lt_zero _)⟩
theorem Grb.gr {b : Option Nat} {base : Nat} {w : World} {u : Value} {t : List (List Int)} (h : Grb b base w u t) : Gr b w u t := by
  have h0 := h.gs.mono (Nat.zero_le _)
  obtain ⟨vs, ho, hr⟩ := h
  refine ⟨vs, ⟨ho.1, ?_⟩, hr⟩
  rcases ho.2 with h2 | ⟨g, cap, cur, hu, _, r⟩
  · exact Or.inl h2
  · exact Or.inr ⟨g, cap, cur, hu, Nat.zero_le _, r⟩
theorem Gb.offB {base g : Nat} {w : World} {u : Value} {xs : List Int} (h : Gb base w u xs) (hg : g < base) : OffB (some g) u := fun g2 h2 e => by
  have := (h.lt g2 h2).1
  injection e with e
  omega
theorem Grb.push {b : Option Nat} {base : Nat} {w w3 : World} {v v' row : Value} {t : List (List Int)} {vs : List Value} {x : List Int} (ho : w.ownsRow base 22 1 v t.length vs) (hr : ∀ k (h1 : k < vs.length) (h2 : k < t.length), G1 w vs[k] t[k] ∧ OffB b vs[k]) (hx : G1 w row x) (hb : OffB b row)
    (ho3 : w3.ownsRow base 22 1 v' (t.length + 1) (vs ++ [row])) (hg : w.grownBy w3 v.ownBlock) : Grb b base w3 v' (t ++ [x]) := by
  have hvl : vs.length = t.length := by have := ho.1; omega
  have keep : ∀ u xs, G1 w u xs → G1 w3 u xs := fun u xs h => owns_grown h ho (by decide) hg
  refine ⟨vs ++ [row], by simpa using ho3, fun k h1 h2 => ?_⟩
  by_cases e : k < vs.length
  · rw [List.getElem_append_left e, List.getElem_append_left (by omega)]
    exact ⟨keep _ _ (hr k e (by omega)).1, (hr k e (by omega)).2⟩
  · have e2 : k = vs.length := by simp at h1; omega
    subst e2
    rw [List.getElem_append_right (Nat.le_refl _), List.getElem_append_right (by omega)]
    simp only [Nat.sub_self, hvl, List.getElem_cons_zero]
    exact ⟨keep _ _ hx, hb⟩
section
variable {o : Oper} {a : Act} {w : World} {K : Act → World → Prop} {Q : Exit → Act → World → Prop}
theorem wp_appendS1o (dst : Option Tmp) (hdst : o.dst = dst) (s x : Operand) (ho : o.op = .call { callee := .builtin .append, args := #[s, x], argTypes := #[41, 41] }) (off : Option Nat) (base : Nat) (v : Value) (tb : List (List Int)) (hs : a.eval s = v) (hown : Grb off base w v tb)
    (b : Nat) (hx : a.eval x = .slice (some ⟨b, 0, none⟩) 1 1) (ar : Option Addr) (nr cr : Nat) (hc : w.cell? ⟨b, 0, none⟩ = some (.slice ar nr cr)) (y : List Int) (hy : G1 w (.slice ar nr cr) y) (hyo : OffB off (.slice ar nr cr)) (hl : tb.length ≤ 2097151) (hb : base ≤ w.heap.size)
    (h : ∀ g cap w', Grb off base w' (.slice (some ⟨g, 0, none⟩) (tb.length + 1) cap) (tb ++ [y]) → w.grownBy w' v.ownBlock → K (a.put dst (.slice (some ⟨g, 0, none⟩) (tb.length + 1) cap)) w') : o.wp Try.prog a w K Q := by
  obtain ⟨i, hi, hz, hs1, hb1⟩ := info_parts Try.infoS
  obtain ⟨vs, hvo, hvr⟩ := hown
  subst hdst
  refine wp_append_lies w s x 41 ho base 22 i _ 1 24 Try.underlying41 hi hz hs1 hb1 rfl (by decide) v tb.length vs hs hvo ⟨b, 0, none⟩ 1 1 [.slice ar nr cr] hx rfl ?_ ?_ (by omega) (by unfold maxLen; omega) (by omega) hb _ rfl (fun g cap w' h1 h2 _ _ => h g cap w' (Grb.push hvo hvr hy hyo h1 h2) h2)
  · intro j u hj
    match j, hj with
    | 0, hj =>
      simp at hj
      subst hj
      exact hc
  · intro u hu
    simp at hu
    subst hu
    rfl
end
section
variable {ops : Array Oper} {rest : List Oper} {o : Oper} {a : Act} {w : World} {Q : Exit → Act → World → Prop}
theorem wpList_appendB1l (hgd : o.guard = none) (dst : Option Tmp) (hdst : o.dst = dst) (s x : Operand) (ho : o.op = .call { callee := .builtin .append, args := #[s, x], argTypes := #[22, 22] }) (base : Nat) (v : Value) (xs : List Int) (hs : a.eval s = v) (hown : Gb base w v xs)
    (b : Nat) (hx : a.eval x = .slice (some ⟨b, 0, none⟩) 1 1) (z : Int) (hc : w.cell? ⟨b, 0, none⟩ = some (.int .i64 z)) (hl : xs.length ≤ 2097151) (hb : base ≤ w.heap.size)
    (h : ∀ g cap w', Gb base w' (.slice (some ⟨g, 0, none⟩) (xs.length + 1) cap) (xs ++ [z]) → w.grownBy w' v.ownBlock → (v.ownBlock = some g ∨ g = w.heap.size) → wpList Try.prog ops Q rest (a.put dst (.slice (some ⟨g, 0, none⟩) (xs.length + 1) cap)) w') : wpList Try.prog ops Q (o :: rest) a w :=
  wpList_plain hgd fun _ hK => wp_appendB1l dst hdst s x ho base v xs hs hown b hx z hc hl hb fun g cap w' h1 h2 h3 => by subst hdst; exact hK _ _ (h g cap w' h1 h2 h3)
theorem wpList_appendT1o (hgd : o.guard = none) (dst : Option Tmp) (hdst : o.dst = dst) (s x : Operand) (ho : o.op = .call { callee := .builtin .append, args := #[s, x], argTypes := #[23, 23] }) (base : Nat) (v : Value) (ts : List (List (List Int))) (hs : a.eval s = v) (off : Option Nat) (hown : Gto off base w v ts)
    (b : Nat) (hx : a.eval x = .slice (some ⟨b, 0, none⟩) 1 1) (ar : Option Addr) (nr cr : Nat) (hc : w.cell? ⟨b, 0, none⟩ = some (.slice ar nr cr)) (y : List (List Int)) (hy : Gr off w (.slice ar nr cr) y) (hl : ts.length ≤ 2097151) (hb : base ≤ w.heap.size)
    (h : ∀ g cap w', Gto off base w' (.slice (some ⟨g, 0, none⟩) (ts.length + 1) cap) (ts ++ [y]) → w.grownBy w' v.ownBlock → wpList Try.prog ops Q rest (a.put dst (.slice (some ⟨g, 0, none⟩) (ts.length + 1) cap)) w') : wpList Try.prog ops Q (o :: rest) a w :=
  wpList_plain hgd fun _ hK => wp_appendT1o dst hdst s x ho base v ts hs off hown b hx ar nr cr hc y hy hl hb fun g cap w' h1 h2 => by subst hdst; exact hK _ _ (h g cap w' h1 h2)
end
end Go.Proofs.Ytpdkfidmmjlmnaa
