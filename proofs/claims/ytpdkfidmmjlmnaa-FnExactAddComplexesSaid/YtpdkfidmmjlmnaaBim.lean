/-
  The bottom in the model: spec.l02Images, l02Bottom by their contracts.
-/
import Derived.Test.YtpdkfidmmjlmnaaBot
import Derived.Test.YtpdkfidmmjlmnaaMeet
namespace Go.Proofs.Ytpdkfidmmjlmnaa
open Go.RowKit

section
variable {md : Region.Mode} {ops : Array Oper} {Q : Exit → Act → World → Prop} {S : World → Prop}
/-- append of one row to a table that the call gathers, in a drawn region. -/
theorem held_appendG {i : Nat} {oi : Oper} {fuel : Nat} {listed : Array Bool} {a : Act} {w : World} (d : Option Tmp) (hr : Region.ready md ops listed = [i]) (hi : ops[i]? = some oi) (hg : oi.guard = none) (hd : oi.dst = d)
    (s x : Operand) (ho : oi.op = .call { callee := .builtin .append, args := #[s, x], argTypes := #[41, 41] }) (base : Nat) (v : Value) (tb : List (List Int)) (hs : a.eval s = v) (hst : Gs base w v tb)
    (b : Nat) (ad : Option Addr) (m c : Nat) (hx : a.eval x = .slice (some ⟨b, 0, none⟩) 1 1) (hc : w.cell? ⟨b, 0, none⟩ = some (.slice ad m c)) (y : List Int) (hy : G1 w (.slice ad m c) y) (hn : tb.length ≤ 1048576) (hb : base ≤ w.heap.size)
    (h : ∀ v' w', Gs base w' v' (tb ++ [y]) → Below base w w' → S w' ∧ wpAnyH Try.prog md ops Q S fuel (listed.setIfInBounds i true) (a.put d v') w') : wpAnyH Try.prog md ops Q S (fuel + 1) listed a w := by
  obtain ⟨vs, hvo, hvr⟩ := hst
  exact held_appendS d hr hi hg hd s x ho base v tb.length vs hs hvo b ad m c hx hc (by omega) hb (fun v' w' hown hgrow => h v' w' (Gs.push hvo hvr hy hown hgrow) ((Below.refl _ _).grown hgrow hb (fun g hg => (World.ownsRow.lt hvo g hg).1)))
end

/-- Gathered rows of a table behind one another. -/
structure CatA (base : Nat) (w : World) (v : Value) (tb : List (List Int)) (xs : List Value) : Prop where
  own : w.ownsRow base 22 1 v tb.length xs
  len : xs.length = tb.length
  rows : ∀ k (h1 : k < xs.length) (h2 : k < tb.length), G1 w xs[k] tb[k]
theorem CatA.below {base : Nat} {w w' : World} {v : Value} {tb : List (List Int)} {xs : List Value} (h : CatA base w v tb xs) (hb : Below w.heap.size w w') : CatA base w' v tb xs := ⟨owns_below h.own hb, h.len, fun k h1 h2 => (h.rows k h1 h2).below hb⟩
theorem CatA.gs {base : Nat} {w : World} {v : Value} {tb : List (List Int)} {xs : List Value} (h : CatA base w v tb xs) : Gs base w v tb := ⟨xs, h.own, h.rows⟩
theorem CatA.start (w : World) (base : Nat) (hb : base ≤ w.heap.size) : CatA base (w.alloc (.cells #[] 22)) (.slice (some ⟨w.heap.size, 0, none⟩) 0 0) [] [] :=
  ⟨by simpa using World.ownsRow_made (base := base) (e := 22) (size := 1) w #[] 0 hb (by unfold maxLen; omega) (by simp), rfl, fun k h1 _ => absurd h1 (Nat.not_lt_zero _)⟩
/-- behind the append of a gathered table. -/
theorem CatA.add {base : Nat} {w w' : World} {v v' : Value} {ta tb : List (List Int)} {xs ys : List Value} (h : CatA base w v ta xs) (hb : ∀ k (h1 : k < ys.length) (h2 : k < tb.length), G1 w ys[k] tb[k]) (hl : ys.length = tb.length)
    (ho : w'.ownsRow base 22 1 v' (ta.length + tb.length) (xs ++ ys)) (hg : w.grownBy w' v.ownBlock) : CatA base w' v' (ta ++ tb) (xs ++ ys) := by
  have h1 := h.len
  refine ⟨by rw [List.length_append]; exact ho, by simp; omega, fun k hk hk2 => ?_⟩
  by_cases e : k < xs.length
  · rw [List.getElem_append_left e, List.getElem_append_left (by omega)]
    exact owns_grown (h.rows k e (by omega)) h.own (by decide) hg
  · rw [List.getElem_append_right (by omega), List.getElem_append_right (by omega)]
    have h3 : k - xs.length < ys.length := by rw [List.length_append] at hk; omega
    have : G1 w' ys[k - xs.length] (tb[k - xs.length]'(by omega)) := owns_grown (hb (k - xs.length) h3 (by omega)) h.own (by decide) hg
    simpa [h1] using this
end Go.Proofs.Ytpdkfidmmjlmnaa
