/-
  Texts that ProofFtl needs, part 6.
-/
import Derived.Test.YtlopenephgabhaaZh5
import Derived.Lib.AppendZerosOnto
namespace Go.Proofs.Ytlopenephgabhaa
open Go.RowKit

theorem Gr.turnD {base' : Nat} {w w' : World} {u v : Value} {t : List (List Int)} {xs : List Int} {b' : Option Nat} (h : Gr v.ownBlock w u t) (hv : Gb base' w v xs) (hg : w.grownBy w' v.ownBlock) (hx : ∀ g, b' = some g → v.ownBlock = some g ∨ w.heap.size ≤ g) : Gr b' w' u t := by
  obtain ⟨us, hu, hq⟩ := h
  refine ⟨us, owns_grown hu hv (by decide) hg, fun i a1 a2 => ⟨owns_grown_off (hq i a1 a2).1 (hq i a1 a2).2 hg, fun g hg2 e => ?_⟩⟩
  rcases hx g e with h3 | h3
  · exact (hq i a1 a2).2 g hg2 h3
  · have := owns_lt (hq i a1 a2).1 hg2
    omega
theorem Grb.turnD {base base' : Nat} {w w' : World} {u v : Value} {t : List (List Int)} {xs : List Int} {b' : Option Nat} (h : Grb v.ownBlock base w u t) (hv : Gb base' w v xs) (hg : w.grownBy w' v.ownBlock) (hx : ∀ g, b' = some g → v.ownBlock = some g ∨ w.heap.size ≤ g) : Grb b' base w' u t := by
  obtain ⟨us, hu, hq⟩ := h
  refine ⟨us, owns_grown hu hv (by decide) hg, fun i a1 a2 => ⟨owns_grown_off (hq i a1 a2).1 (hq i a1 a2).2 hg, fun g hg2 e => ?_⟩⟩
  rcases hx g e with h3 | h3
  · exact (hq i a1 a2).2 g hg2 h3
  · have := owns_lt (hq i a1 a2).1 hg2
    omega
theorem Grb.off {b : Option Nat} {base : Nat} {w : World} {g k : Nat} {t : TypeId} {f : Nat → Value} {u : Value} {xs : List (List Int)} (h : Grb b base w u xs) (hr : w.rowIs g t k f) (ht : t ≠ 2 ∧ t ≠ 35) (i : Nat) (x : Value) : Grb b base (w.setCell ⟨g, i, none⟩ x) u xs := by
  obtain ⟨vs, ho, h1⟩ := h
  exact ⟨vs, owns_off ho hr ht.2 i x, fun k a c => ⟨(h1 k a c).1.off hr ht.1 i x, (h1 k a c).2⟩⟩
/-- Another table grows, whose own block is not this one's. -/
theorem Gr.turnL {base n : Nat} {w w' : World} {b : Option Nat} {u v : Value} {t : List (List Int)} {vs : List Value} (h : Gr b w u t) (ho : OffB v.ownBlock u) (hv : w.ownsRow base 35 1 v n vs) (hg : w.grownBy w' v.ownBlock) : Gr b w' u t := by
  obtain ⟨us, hu, hq⟩ := h
  exact ⟨us, owns_grown_off hu ho hg, fun i a1 a2 => ⟨owns_grown (hq i a1 a2).1 hv (by decide) hg, (hq i a1 a2).2⟩⟩
theorem Grb.lt {b : Option Nat} {base : Nat} {w : World} {u : Value} {t : List (List Int)} (h : Grb b base w u t) {g : Nat} (hg : u.ownBlock = some g) : base ≤ g ∧ g < w.heap.size := by
  obtain ⟨vs, ho, _⟩ := h
  rcases ho.2 with ⟨rfl, _⟩ | ⟨g2, cap, cur, rfl, hb, hh, _⟩
  · simp [Value.ownBlock] at hg
  · simp [Value.ownBlock] at hg
    subst hg
    exact ⟨hb, (Array.getElem?_eq_some_iff.1 hh).1⟩
/-- Tables whose rows lie off one block, and that lie themselves off another one. -/
def Gtp (b1 b2 : Option Nat) (base : Nat) (w : World) (u : Value) (ts : List (List (List Int))) : Prop := ∃ vs, w.ownsRow base 22 1 u ts.length vs ∧ ∀ k (h1 : k < vs.length) (h2 : k < ts.length), Gr b1 w vs[k] ts[k] ∧ OffB b2 vs[k]
theorem Gtp.gto {b1 b2 : Option Nat} {base : Nat} {w : World} {u : Value} {ts : List (List (List Int))} (h : Gtp b1 b2 base w u ts) : Gto b1 base w u ts := by
  obtain ⟨vs, ho, hr⟩ := h
  exact ⟨vs, ho, fun k h1 h2 => (hr k h1 h2).1⟩
theorem Gtp.nil {b1 b2 : Option Nat} {base : Nat} {w : World} {u : Value} (h : Gt base w u []) : Gtp b1 b2 base w u [] := by
  obtain ⟨vs, ho, _⟩ := h
  exact ⟨vs, ho, fun k _ h2 => absurd h2 (Nat.not_lt_zero _)⟩
theorem Gtp.below {b1 b2 : Option Nat} {base : Nat} {w w' : World} {u : Value} {ts : List (List (List Int))} (h : Gtp b1 b2 base w u ts) (hb : Below w.heap.size w w') : Gtp b1 b2 base w' u ts := by
  obtain ⟨vs, ho, hr⟩ := h
  exact ⟨vs, owns_below ho hb, fun k h1 h2 => ⟨(hr k h1 h2).1.below hb, (hr k h1 h2).2⟩⟩
theorem Gtp.push {b b2 : Option Nat} {base : Nat} {w w3 : World} {v v' row : Value} {ts : List (List (List Int))} {vs : List Value} {x : List (List Int)} (ho : w.ownsRow base 22 1 v ts.length vs) (hr : ∀ k (h1 : k < vs.length) (h2 : k < ts.length), Gr b w vs[k] ts[k] ∧ OffB b2 vs[k]) (hx : Gr b w row x) (hx2 : OffB b2 row)
    (ho3 : w3.ownsRow base 22 1 v' (ts.length + 1) (vs ++ [row])) (hg : w.grownBy w3 v.ownBlock) : Gtp b b2 base w3 v' (ts ++ [x]) := by
  have hvl : vs.length = ts.length := by have := ho.1; omega
  refine ⟨vs ++ [row], by simpa using ho3, fun k h1 h2 => ?_⟩
  by_cases e : k < vs.length
  · rw [List.getElem_append_left e, List.getElem_append_left (by omega)]
    exact ⟨(hr k e (by omega)).1.grown ho hg, (hr k e (by omega)).2⟩
  · have e2 : k = vs.length := by simp at h1; omega
    subst e2
    rw [List.getElem_append_right (Nat.le_refl _), List.getElem_append_right (by omega)]
    simp only [Nat.sub_self, hvl, List.getElem_cons_zero]
    exact ⟨hx.grown ho hg, hx2⟩
theorem Gtp.off {b1 b2 : Option Nat} {base : Nat} {w : World} {g k : Nat} {t : TypeId} {f : Nat → Value} {u : Value} {xs : List (List (List Int))} (h : Gtp b1 b2 base w u xs) (hr : w.rowIs g t k f) (ht : t ≠ 2 ∧ t ≠ 35 ∧ t ≠ 22) (i : Nat) (x : Value) : Gtp b1 b2 base (w.setCell ⟨g, i, none⟩ x) u xs := by
  obtain ⟨vs, ho, h1⟩ := h
  exact ⟨vs, owns_off ho hr ht.2.2 i x, fun k a c => ⟨(h1 k a c).1.off hr ⟨ht.1, ht.2.1⟩ i x, (h1 k a c).2⟩⟩
/-- A complex and levels that the model gathers: the complex in a box at block g. -/
structure Tgs (w1 wr : World) (g : Nat) (p : Int) (v vm vl : Value) (xs : List Int) (ts : List (List (List Int))) (ls : List (List Int)) : Prop where
  below : Below w1.heap.size w1 wr
  lo : w1.heap.size ≤ g
  box : wr.rowIs g 38 3 (sel3 (.int .i64 p) v vm)
  dims : Gb w1.heap.size wr v xs
  maps : Gtp v.ownBlock vl.ownBlock w1.heap.size wr vm ts
  lv : Grb v.ownBlock w1.heap.size wr vl ls
section
variable {w1 wr wa w' : World} {g : Nat} {p : Int} {v vm vl : Value} {xs : List Int} {ts : List (List (List Int))} {ls : List (List Int)}
theorem Tgs.sdo (h : Tgs w1 wr g p v vm vl xs ts ls) : Sdo w1 wr g p v vm xs ts := ⟨h.below, h.lo, h.box, h.dims, h.maps.gto⟩
theorem Tgs.next (h : Tgs w1 wr g p v vm vl xs ts ls) (hb : Below wr.heap.size wr wa) : Tgs w1 wa g p v vm vl xs ts ls :=
  ⟨h.below.trans (hb.mono h.below.size), h.lo, h.box.of_block (hb.block _ h.box.lt), h.dims.below hb, h.maps.below hb, h.lv.below hb⟩
theorem Tgs.stepD {g' n c : Nat} {xs' : List Int} (h : Tgs w1 wa g p v vm vl xs ts ls) (hg : wa.grownBy w' v.ownBlock) (hn : Gb w1.heap.size w' (.slice (some ⟨g', 0, none⟩) n c) xs') (hl : v.ownBlock = some g' ∨ g' = wa.heap.size) :
    Tgs w1 (w'.setCell ⟨g, 1, none⟩ (.slice (some ⟨g', 0, none⟩) n c)) g p (.slice (some ⟨g', 0, none⟩) n c) vm vl xs' ts ls := by
  have hs := h.sdo.stepD hg hn hl
  have hr := row_grown h.box h.dims coT.1 hg
  have hx : ∀ g2, some g' = some g2 → v.ownBlock = some g2 ∨ wa.heap.size ≤ g2 := fun g2 e => by
    injection e with e
    subst e
    rcases hl with hl | hl
    · exact Or.inl hl
    · exact Or.inr (Nat.le_of_eq hl.symm)
  have hm : Gtp (some g') vl.ownBlock w1.heap.size w' vm ts := by
    obtain ⟨vs, ho, hq⟩ := h.maps
    exact ⟨vs, owns_grown ho h.dims (by decide) hg, fun k h1 h2 => ⟨(hq k h1 h2).1.turnD h.dims hg hx, (hq k h1 h2).2⟩⟩
  have hlv : Grb (some g') w1.heap.size w' vl ls := h.lv.turnD h.dims hg hx
  exact ⟨hs.below, hs.lo, hs.box, hs.dims, hm.off hr coT _ _, hlv.off hr ⟨coT.1, coT.2.1⟩ _ _⟩
theorem Tgs.stepL {g' n c : Nat} {ls' : List (List Int)} (h : Tgs w1 wa g p v vm vl xs ts ls) (hg : wa.grownBy w' vl.ownBlock) (hn : Grb v.ownBlock w1.heap.size w' (.slice (some ⟨g', 0, none⟩) n c) ls') (hl : vl.ownBlock = some g' ∨ g' = wa.heap.size) : Tgs w1 w' g p v vm (.slice (some ⟨g', 0, none⟩) n c) xs ts ls' := by
  obtain ⟨us, hu, hur⟩ := h.lv
  have hx : ∀ g2, some g' = some g2 → vl.ownBlock = some g2 ∨ wa.heap.size ≤ g2 := fun g2 e => by
    injection e with e
    subst e
    rcases hl with hl | hl
    · exact Or.inl hl
    · exact Or.inr (Nat.le_of_eq hl.symm)
  refine ⟨h.below.grown hg h.below.size (fun g hg => (h.lv.lt hg).1), h.lo, row_grown h.box hu coT.2.1 hg, owns_grown h.dims hu (by decide) hg, ?_, hn⟩
  obtain ⟨vs, ho, hq⟩ := h.maps
  refine ⟨vs, owns_grown ho hu (by decide) hg, fun k h1 h2 => ⟨(hq k h1 h2).1.turnL (hq k h1 h2).2 hu hg, fun g2 hg2 e => ?_⟩⟩
  obtain ⟨ws, hw, _⟩ := (hq k h1 h2).1
  rcases hx g2 e with h3 | h3
  · exact (hq k h1 h2).2 g2 hg2 h3
  · have := owns_lt hw hg2
    omega
theorem Tgs.stepM {v' : Value} {ts' : List (List (List Int))} (h : Tgs w1 wa g p v vm vl xs ts ls) (hg : wa.grownBy w' vm.ownBlock) (hn : Gtp v.ownBlock vl.ownBlock w1.heap.size w' v' ts') : Tgs w1 (w'.setCell ⟨g, 2, none⟩ v') g p v v' vl xs ts' ls := by
  have hs := h.sdo.stepM hg hn.gto
  obtain ⟨vs, ho, _⟩ := h.maps
  have hr := row_grown h.box ho coT.2.2 hg
  have hlv : Grb v.ownBlock w1.heap.size w' vl ls := by
    obtain ⟨us, hu, hq⟩ := h.lv
    exact ⟨us, owns_grown hu ho (by decide) hg, fun k h1 h2 => ⟨owns_grown (hq k h1 h2).1 ho (by decide) hg, (hq k h1 h2).2⟩⟩
  exact ⟨hs.below, hs.lo, hs.box, hs.dims, hn.off hr coT _ _, hlv.off hr ⟨coT.1, coT.2.1⟩ _ _⟩
end
section
variable {o : Oper} {a : Act} {w : World} {K : Act → World → Prop} {Q : Exit → Act → World → Prop}
/-- As wp_appendS1o, telling where the new block lies. -/
theorem wp_appendS1l (dst : Option Tmp) (hdst : o.dst = dst) (s x : Operand) (ho : o.op = .call { callee := .builtin .append, args := #[s, x], argTypes := #[22, 22] }) (off : Option Nat) (base : Nat) (v : Value) (tb : List (List Int)) (hs : a.eval s = v) (hown : Grb off base w v tb)
    (b : Nat) (hx : a.eval x = .slice (some ⟨b, 0, none⟩) 1 1) (ar : Option Addr) (nr cr : Nat) (hc : w.cell? ⟨b, 0, none⟩ = some (.slice ar nr cr)) (y : List Int) (hy : G1 w (.slice ar nr cr) y) (hyo : OffB off (.slice ar nr cr)) (hl : tb.length ≤ 2097151) (hb : base ≤ w.heap.size)
    (h : ∀ g cap w', Grb off base w' (.slice (some ⟨g, 0, none⟩) (tb.length + 1) cap) (tb ++ [y]) → w.grownBy w' v.ownBlock → (v.ownBlock = some g ∨ g = w.heap.size) → K (a.put dst (.slice (some ⟨g, 0, none⟩) (tb.length + 1) cap)) w') : o.wp Try.prog a w K Q := by
  obtain ⟨i, hi, hz, hs1, hb1⟩ := info_parts Try.infoS
  obtain ⟨vs, hvo, hvr⟩ := hown
  subst hdst
  refine wp_append_lies w s x 22 ho base 35 i _ 1 24 Try.underlying22 hi hz hs1 hb1 rfl (by decide) v tb.length vs hs hvo ⟨b, 0, none⟩ 1 1 [.slice ar nr cr] hx rfl ?_ ?_ (by omega) (by unfold maxLen; omega) (by omega) hb _ rfl (fun g cap w' h1 h2 h3 _ => h g cap w' (Grb.push hvo hvr hy hyo h1 h2) h2 h3)
  · intro j u hj
    match j, hj with
    | 0, hj =>
      simp at hj
      subst hj
      exact hc
  · intro u hu
    simp at hu
    subst hu
    rfl
/-- As wp_appendT1o, the tables off a second block. -/
theorem wp_appendT1p (dst : Option Tmp) (hdst : o.dst = dst) (s x : Operand) (ho : o.op = .call { callee := .builtin .append, args := #[s, x], argTypes := #[36, 36] }) (base : Nat) (v : Value) (ts : List (List (List Int))) (hs : a.eval s = v) (off off2 : Option Nat) (hown : Gtp off off2 base w v ts)
    (b : Nat) (hx : a.eval x = .slice (some ⟨b, 0, none⟩) 1 1) (ar : Option Addr) (nr cr : Nat) (hc : w.cell? ⟨b, 0, none⟩ = some (.slice ar nr cr)) (y : List (List Int)) (hy : Gr off w (.slice ar nr cr) y) (hy2 : OffB off2 (.slice ar nr cr)) (hl : ts.length ≤ 2097151) (hb : base ≤ w.heap.size)
    (h : ∀ g cap w', Gtp off off2 base w' (.slice (some ⟨g, 0, none⟩) (ts.length + 1) cap) (ts ++ [y]) → w.grownBy w' v.ownBlock → K (a.put dst (.slice (some ⟨g, 0, none⟩) (ts.length + 1) cap)) w') : o.wp Try.prog a w K Q := by
  obtain ⟨i, hi, hz, hs1, hb1⟩ := info_parts Try.infoSS
  obtain ⟨vs, hvo, hvr⟩ := hown
  subst hdst
  refine wp_append_lies w s x 36 ho base 22 i _ 1 24 Try.underlying36 hi hz hs1 hb1 rfl (by decide) v ts.length vs hs hvo ⟨b, 0, none⟩ 1 1 [.slice ar nr cr] hx rfl ?_ ?_ (by omega) (by unfold maxLen; omega) (by omega) hb _ rfl (fun g cap w' h1 h2 _ _ => h g cap w' (Gtp.push hvo hvr hy hy2 h1 h2) h2)
  · intro j u hj
    match j, hj with
    | 0, hj =>
      simp at hj
      subst hj
      exact hc
  · intro u hu
    simp at hu
    subst hu
    rfl
end
section
variable {ops : Array Oper} {rest : List Oper} {o : Oper} {a : Act} {w : World} {Q : Exit → Act → World → Prop}
theorem wpList_appendS1l (hgd : o.guard = none) (dst : Option Tmp) (hdst : o.dst = dst) (s x : Operand) (ho : o.op = .call { callee := .builtin .append, args := #[s, x], argTypes := #[22, 22] }) (off : Option Nat) (base : Nat) (v : Value) (tb : List (List Int)) (hs : a.eval s = v) (hown : Grb off base w v tb)
    (b : Nat) (hx : a.eval x = .slice (some ⟨b, 0, none⟩) 1 1) (ar : Option Addr) (nr cr : Nat) (hc : w.cell? ⟨b, 0, none⟩ = some (.slice ar nr cr)) (y : List Int) (hy : G1 w (.slice ar nr cr) y) (hyo : OffB off (.slice ar nr cr)) (hl : tb.length ≤ 2097151) (hb : base ≤ w.heap.size)
    (h : ∀ g cap w', Grb off base w' (.slice (some ⟨g, 0, none⟩) (tb.length + 1) cap) (tb ++ [y]) → w.grownBy w' v.ownBlock → (v.ownBlock = some g ∨ g = w.heap.size) → wpList Try.prog ops Q rest (a.put dst (.slice (some ⟨g, 0, none⟩) (tb.length + 1) cap)) w') : wpList Try.prog ops Q (o :: rest) a w :=
  wpList_plain hgd fun _ hK => wp_appendS1l dst hdst s x ho off base v tb hs hown b hx ar nr cr hc y hy hyo hl hb fun g cap w' h1 h2 h3 => by subst hdst; exact hK _ _ (h g cap w' h1 h2 h3)
theorem wpList_appendT1p (hgd : o.guard = none) (dst : Option Tmp) (hdst : o.dst = dst) (s x : Operand) (ho : o.op = .call { callee := .builtin .append, args := #[s, x], argTypes := #[36, 36] }) (base : Nat) (v : Value) (ts : List (List (List Int))) (hs : a.eval s = v) (off off2 : Option Nat) (hown : Gtp off off2 base w v ts)
    (b : Nat) (hx : a.eval x = .slice (some ⟨b, 0, none⟩) 1 1) (ar : Option Addr) (nr cr : Nat) (hc : w.cell? ⟨b, 0, none⟩ = some (.slice ar nr cr)) (y : List (List Int)) (hy : Gr off w (.slice ar nr cr) y) (hy2 : OffB off2 (.slice ar nr cr)) (hl : ts.length ≤ 2097151) (hb : base ≤ w.heap.size)
    (h : ∀ g cap w', Gtp off off2 base w' (.slice (some ⟨g, 0, none⟩) (ts.length + 1) cap) (ts ++ [y]) → w.grownBy w' v.ownBlock → wpList Try.prog ops Q rest (a.put dst (.slice (some ⟨g, 0, none⟩) (ts.length + 1) cap)) w') : wpList Try.prog ops Q (o :: rest) a w :=
  wpList_plain hgd fun _ hK => wp_appendT1p dst hdst s x ho base v ts hs off off2 hown b hx ar nr cr hc y hy hy2 hl hb fun g cap w' h1 h2 => by subst hdst; exact hK _ _ (h g cap w' h1 h2)
end
end Go.Proofs.Ytlopenephgabhaa


namespace Go.Proofs.Ytlopenephgabhaa
open Go.RowKit
theorem Same.setRow {lo hi g : Nat} {w : World} (x : Array Value) (h : g < lo ∨ hi ≤ g) : Same lo hi w (w.setRow g x) := fun b hl hb => setRow_other w g b x (by omega)
end Go.Proofs.Ytlopenephgabhaa


namespace Go.Proofs.Ytlopenephgabhaa
open Go.RowKit
theorem owns_offRowC {w : World} {base n g : Nat} {e t : TypeId} {u : Value} {xs : List Value} {cs : Array Value} {fr : Nat × Nat} (ho : w.ownsRow base e 1 u n xs) (hg : w.heap[g]? = some (.cells cs t fr)) (h : t ≠ e) (x : Array Value) : (w.setRow g x).ownsRow base e 1 u n xs := by
  refine ⟨ho.1, ?_⟩
  rcases ho.2 with h2 | ⟨g2, cap, cur, hu, hb, hh, r⟩
  · exact Or.inl h2
  · refine Or.inr ⟨g2, cap, cur, hu, hb, ?_, r⟩
    rw [setRow_other w g g2 x (fun e2 => by
      subst e2
      rw [hg] at hh
      simp at hh
      exact h hh.2.1)]
    exact hh
theorem Gb.offRowC {base g : Nat} {w : World} {u : Value} {xs : List Int} {t : TypeId} {cs : Array Value} (h : Gb base w u xs) (hg : Rz w g t cs) (ht : t ≠ 2) (x : Array Value) : Gb base (w.setRow g x) u xs := owns_offRowC h hg ht x
theorem Gs.offRowC {base g : Nat} {w : World} {u : Value} {xs : List (List Int)} {t : TypeId} {cs : Array Value} (h : Gs base w u xs) (hg : Rz w g t cs) (ht : t ≠ 2 ∧ t ≠ 35) (x : Array Value) : Gs base (w.setRow g x) u xs := by
  obtain ⟨vs, ho, h1⟩ := h
  exact ⟨vs, owns_offRowC ho hg ht.2 x, fun k a b => owns_offRowC (h1 k a b) hg ht.1 x⟩
theorem Gt.offRowC {base g : Nat} {w : World} {u : Value} {ts : List (List (List Int))} {t : TypeId} {cs : Array Value} (h : Gt base w u ts) (hg : Rz w g t cs) (ht : t ≠ 2 ∧ t ≠ 35 ∧ t ≠ 22) (x : Array Value) : Gt base (w.setRow g x) u ts := by
  obtain ⟨vs, ho, h1⟩ := h
  exact ⟨vs, owns_offRowC ho hg ht.2.2 x, fun k a b => (h1 k a b).offRowC hg ⟨ht.1, ht.2.1⟩ x⟩
/-- A complex as the model's answer. -/
def GwC (base : Nat) (W : World) (u : Value) (o : Co) : Prop := ∃ ad cd am cm, u = .agg #[.int .i64 o.1, .slice ad o.2.1.length cd, .slice am o.2.2.length cm] ∧ Gb base W (.slice ad o.2.1.length cd) o.2.1 ∧ Gt base W (.slice am o.2.2.length cm) o.2.2
theorem GwC.nil (base : Nat) (W : World) : GwC base W (.agg #[.int .i64 0, .slice none 0 0, .slice none 0 0]) (0, [], []) := ⟨none, 0, none, 0, rfl, ⟨rfl, Or.inl ⟨rfl, rfl⟩⟩, ⟨[], ⟨rfl, Or.inl ⟨rfl, rfl⟩⟩, fun _ h => absurd h (Nat.not_lt_zero _)⟩⟩
end Go.Proofs.Ytlopenephgabhaa


namespace Go.Proofs.Ytlopenephgabhaa
open Go.RowKit

def Grp (P : Value → Prop) (base : Nat) (w : World) (u : Value) (t : List (List Int)) : Prop := ∃ vs, w.ownsRow base 35 1 u t.length vs ∧ ∀ k (h1 : k < vs.length) (h2 : k < t.length), G1 w vs[k] t[k] ∧ P vs[k]
section
variable {P P' : Value → Prop} {base base' : Nat} {w w' : World} {u v : Value} {t : List (List Int)} {xs : List Int}
theorem Grp.gs (h : Grp P base w u t) : Gs base w u t := by
  obtain ⟨vs, ho, hr⟩ := h
  exact ⟨vs, ho, fun k h1 h2 => (hr k h1 h2).1⟩
theorem Grp.below (h : Grp P base w u t) (hb : Below w.heap.size w w') : Grp P base w' u t := by
  obtain ⟨vs, ho, hr⟩ := h
  exact ⟨vs, owns_below ho hb, fun k h1 h2 => ⟨(hr k h1 h2).1.below hb, (hr k h1 h2).2⟩⟩
theorem Grp.start (h : Gs base w u []) : Grp P base w u [] := by
  obtain ⟨vs, ho, _⟩ := h
  exact ⟨vs, ho, fun k _ h2 => absurd h2 (Nat.not_lt_zero _)⟩
theorem Grp.map (h : Grp P base w u t) (hp : ∀ u, P u → P' u) : Grp P' base w u t := by
  obtain ⟨vs, ho, hr⟩ := h
  exact ⟨vs, ho, fun k h1 h2 => ⟨(hr k h1 h2).1, hp _ (hr k h1 h2).2⟩⟩
theorem Grp.grb {b : Option Nat} (h : Grp P base w u t) (hp : ∀ u, P u → OffB b u) : Grb b base w u t := by
  obtain ⟨vs, ho, hr⟩ := h
  exact ⟨vs, ho, fun k h1 h2 => ⟨(hr k h1 h2).1, hp _ (hr k h1 h2).2⟩⟩
theorem Grp.lt (h : Grp P base w u t) {g : Nat} (hg : u.ownBlock = some g) : base ≤ g ∧ g < w.heap.size := by
  obtain ⟨vs, ho, _⟩ := h
  rcases ho.2 with ⟨rfl, _⟩ | ⟨g2, cap, cur, rfl, hb, hh, _⟩
  · simp [Value.ownBlock] at hg
  · simp [Value.ownBlock] at hg
    subst hg
    exact ⟨hb, (Array.getElem?_eq_some_iff.1 hh).1⟩
/-- A list of numbers grows beside it. -/
theorem Grp.turn (h : Grp P base w u t) (hv : Gb base' w v xs) (hg : w.grownBy w' v.ownBlock) (ho : ∀ u, P u → OffB v.ownBlock u) (hp : ∀ u, P u → (∀ g, u.ownBlock = some g → g < w.heap.size) → P' u) : Grp P' base w' u t := by
  obtain ⟨us, hu, hq⟩ := h
  exact ⟨us, owns_grown hu hv (by decide) hg, fun i a1 a2 => ⟨owns_grown_off (hq i a1 a2).1 (ho _ (hq i a1 a2).2) hg, hp _ (hq i a1 a2).2 (fun g hg2 => owns_lt (hq i a1 a2).1 hg2)⟩⟩
theorem Grp.push {w3 : World} {v' row : Value} {vs : List Value} {x : List Int} (ho : w.ownsRow base 35 1 v t.length vs) (hr : ∀ k (h1 : k < vs.length) (h2 : k < t.length), G1 w vs[k] t[k] ∧ P vs[k]) (hx : G1 w row x) (hb : P row)
    (ho3 : w3.ownsRow base 35 1 v' (t.length + 1) (vs ++ [row])) (hg : w.grownBy w3 v.ownBlock) : Grp P base w3 v' (t ++ [x]) := by
  have hvl : vs.length = t.length := by have := ho.1; omega
  have keep : ∀ u xs, G1 w u xs → G1 w3 u xs := fun u xs h => owns_grown h ho (by decide) hg
  refine ⟨vs ++ [row], by simpa using ho3, fun k h1 h2 => ?_⟩
  by_cases e : k < vs.length
  · rw [List.getElem_append_left e, List.getElem_append_left (by omega)]
    exact ⟨keep _ _ (hr k e (by omega)).1, (hr k e (by omega)).2⟩
  · have e2 : k = vs.length := by simp at h1; omega
    subst e2
    rw [List.getElem_append_right (Nat.le_refl _), List.getElem_append_right (by omega)]
    simp only [Nat.sub_self, hvl, List.getElem_cons_zero]
    exact ⟨keep _ _ hx, hb⟩
theorem Gt.mono {ts : List (List (List Int))} (h : Gt base w u ts) (hb : base' ≤ base) : Gt base' w u ts := by
  obtain ⟨vs, ho, hr⟩ := h
  exact ⟨vs, owns_mono ho hb, hr⟩
end
section
variable {ops : Array Oper} {rest : List Oper} {o : Oper} {a : Act} {w : World} {K : Act → World → Prop} {Q : Exit → Act → World → Prop}
theorem wp_appendP (dst : Option Tmp) (hdst : o.dst = dst) (s x : Operand) (ho : o.op = .call { callee := .builtin .append, args := #[s, x], argTypes := #[22, 22] }) (P : Value → Prop) (base : Nat) (v : Value) (tb : List (List Int)) (hs : a.eval s = v) (hown : Grp P base w v tb)
    (b : Nat) (hx : a.eval x = .slice (some ⟨b, 0, none⟩) 1 1) (ar : Option Addr) (nr cr : Nat) (hc : w.cell? ⟨b, 0, none⟩ = some (.slice ar nr cr)) (y : List Int) (hy : G1 w (.slice ar nr cr) y) (hyo : P (.slice ar nr cr)) (hl : tb.length ≤ 2097151) (hb : base ≤ w.heap.size)
    (h : ∀ g cap w', Grp P base w' (.slice (some ⟨g, 0, none⟩) (tb.length + 1) cap) (tb ++ [y]) → w.grownBy w' v.ownBlock → K (a.put dst (.slice (some ⟨g, 0, none⟩) (tb.length + 1) cap)) w') : o.wp Try.prog a w K Q := by
  obtain ⟨i, hi, hz, hs1, hb1⟩ := info_parts Try.infoS
  obtain ⟨vs, hvo, hvr⟩ := hown
  subst hdst
  refine wp_append_lies w s x 22 ho base 35 i _ 1 24 Try.underlying22 hi hz hs1 hb1 rfl (by decide) v tb.length vs hs hvo ⟨b, 0, none⟩ 1 1 [.slice ar nr cr] hx rfl ?_ ?_ (by omega) (by unfold maxLen; omega) (by omega) hb _ rfl (fun g cap w' h1 h2 _ _ => h g cap w' (Grp.push hvo hvr hy hyo h1 h2) h2)
  · intro j u hj
    match j, hj with
    | 0, hj =>
      simp at hj
      subst hj
      exact hc
  · intro u hu
    simp at hu
    subst hu
    rfl
theorem wpList_appendP (hgd : o.guard = none) (dst : Option Tmp) (hdst : o.dst = dst) (s x : Operand) (ho : o.op = .call { callee := .builtin .append, args := #[s, x], argTypes := #[22, 22] }) (P : Value → Prop) (base : Nat) (v : Value) (tb : List (List Int)) (hs : a.eval s = v) (hown : Grp P base w v tb)
    (b : Nat) (hx : a.eval x = .slice (some ⟨b, 0, none⟩) 1 1) (ar : Option Addr) (nr cr : Nat) (hc : w.cell? ⟨b, 0, none⟩ = some (.slice ar nr cr)) (y : List Int) (hy : G1 w (.slice ar nr cr) y) (hyo : P (.slice ar nr cr)) (hl : tb.length ≤ 2097151) (hb : base ≤ w.heap.size)
    (h : ∀ g cap w', Grp P base w' (.slice (some ⟨g, 0, none⟩) (tb.length + 1) cap) (tb ++ [y]) → w.grownBy w' v.ownBlock → wpList Try.prog ops Q rest (a.put dst (.slice (some ⟨g, 0, none⟩) (tb.length + 1) cap)) w') : wpList Try.prog ops Q (o :: rest) a w :=
  wpList_plain hgd fun _ hK => wp_appendP dst hdst s x ho P base v tb hs hown b hx ar nr cr hc y hy hyo hl hb fun g cap w' h1 h2 => by subst hdst; exact hK _ _ (h g cap w' h1 h2)
end
end Go.Proofs.Ytlopenephgabhaa


namespace Go.Proofs.Ytlopenephgabhaa
open Go.RowKit

theorem row_at {w : World} {u : Value} {t : List (List Int)} {r : Nat} (h : L2 0 w u t) (hr : r < t.length) : ∃ b o c ur, u = .slice (some ⟨b, o, none⟩) t.length c ∧ w.cell? ⟨b, o + r, none⟩ = some ur ∧ L1 0 w ur t[r] := by
  rcases h with ⟨hx, _⟩ | ⟨b, o, c, rfl, _, _, hcl⟩
  · exact absurd (hx ▸ hr) (Nat.not_lt_zero _)
  obtain ⟨u1, hu1, hr1⟩ := hcl r hr
  exact ⟨b, o, c, u1, rfl, hu1, hr1⟩

set_option maxRecDepth 100000 in
set_option maxHeartbeats 12800000 in
theorem l03Square_any (p : Int) (hp : IsP p) (dv av vv : Value) (ds : List (List Int)) (ac dn : List (List (List (List Int)))) (w : World) (h : Dx 0 w dv av vv ds ac dn) (hok : DclOk ds) (htb : TbsOk p ds ac dn) :
    Calls Try.prog 91 #[.agg #[.int .i64 p, dv, av, vv]] w (BB (∀ c ∈ cellsTo ds ds.length, SqCell p ds ac dn c) w) := by
  obtain ⟨PP, hPP⟩ : ∃ P : Prop, P = (∀ c ∈ cellsTo ds ds.length, SqCell p ds ac dn c) := ⟨_, rfl⟩
  rw [← hPP]
  have HPI : Hid (PP ↔ (∀ c ∈ cellsTo ds ds.length, SqCell p ds ac dn c)) := Lib.hid (by rw [hPP])
  clear hPP
  have HP := Lib.hid hp
  have HOK := Lib.hid hok
  have HTB := Lib.hid htb
  have HX := Lib.hid h
  have hm4 := hok.len1
  have hm1 := hok.len0
  have hq1 := hok.h0
  have hq4 := hok.h1
  rcases h.dims with ⟨hx, _⟩ | ⟨bb, o, cd, rfl, _, hpos, hcl⟩
  · subst hx; simp at hm1
  have HCL := Lib.hid hcl
  obtain ⟨u0, hu0, hr0⟩ := hcl 0 hpos
  rw [Nat.add_zero] at hu0
  obtain ⟨a0, z0, rfl⟩ := Sl.shape hr0
  rw [← getD_of_lt [] hpos] at hu0
  clear hcl hr0 h hp hok htb
  obtain ⟨aa, ca', rfl⟩ := Sl.shape HX.out.across
  obtain ⟨ae, ce', rfl⟩ := Sl.shape HX.out.down
  obtain ⟨m, hm⟩ : ∃ m, m = ds.length := ⟨_, rfl⟩
  obtain ⟨q, hq⟩ : ∃ q, q = (ds.getD 0 []).length := ⟨_, rfl⟩
  obtain ⟨n1, hn1⟩ : ∃ n, n = ac.length := ⟨_, rfl⟩
  obtain ⟨n4, hn4⟩ : ∃ n, n = dn.length := ⟨_, rfl⟩
  have hn1m : m ≤ n1 := by rw [hn1, hm]; exact Nat.le_of_eq HTB.out.la.symm
  have hn4m : m ≤ n4 := by rw [hn4, hm]; exact Nat.le_of_eq HTB.out.ld.symm
  rw [← hm, ← hn1, ← hn4] at HX ⊢
  rw [← hm] at hm4 hm1 hpos
  rw [← hq] at hq1 hq4 hu0
  have HN1 := Lib.hid hn1
  have HN4 := Lib.hid hn4
  have HM := Lib.hid hm
  have HQ := Lib.hid hq
  clear hn1 hn4 hm hq
  have hx0 := DBx.start (p := p) 28 HX.out
  have hBa : Below w.heap.size w (w.alloc (.cells #[.int .i64 p, .slice (some ⟨bb, o, none⟩) m cd, .slice aa n1 ca', .slice ae n4 ce'] 28)) := (Below.refl _ _).alloc (Nat.le_refl _) _
  have hu1 := later hBa (Nat.le_refl _) hu0
  clear hBa hu0
  obtain ⟨w1, hw1⟩ : ∃ w1, w1 = w.alloc (.cells #[.int .i64 p, .slice (some ⟨bb, o, none⟩) m cd, .slice aa n1 ca', .slice ae n4 ce'] 28) := ⟨_, rfl⟩
  rw [← hw1] at hx0 hu1
  have HX1 := Lib.hid hx0
  have HU1 := Lib.hid hu1
  have HNX : Hid (∀ W, Below w1.heap.size w1 W → DBx w W w.heap.size p (.slice (some ⟨bb, o, none⟩) m cd) (.slice aa n1 ca') (.slice ae n4 ce') ds ac dn ∧ W.cell? ⟨bb, o, none⟩ = some (.slice a0 q z0)) := Lib.hid (fun W hb => ⟨HX1.out.next hb, later hb (Nat.le_refl _) HU1.out⟩)
  have HSTEP : Hid (∀ W, Below w1.heap.size w1 W → ∀ (b : Bool) (i j : Int) (va : Value) (v : List Int), L1 0 W va v → v.length ≤ 40 → -1 ≤ i ∧ i ≤ 4 → -1 ≤ j ∧ j ≤ 4 → StOk p ds ac dn i j v b → Calls Try.prog 116 #[.agg #[.int .i64 p, .slice (some ⟨bb, o, none⟩) m cd, .slice aa n1 ca', .slice ae n4 ce'], .int .i64 i, .int .i64 j, va, .bool b] W fun e w' => ∃ u, e = .returned u ∧ L1 0 w' u (stp p ds ac dn i j v b) ∧ Below W.heap.size W w') := Lib.hid (fun W hb b i j va v hv hl hi hj hs => l03Step_any b p i j _ _ _ va ds ac dn v W (HNX.out W hb).1.dx HOK.out HTB.out hv hl hi hj hs)
  have c0 := hx0.c0
  have c1 := hx0.c1
  clear hx0 hu1
  go_enter Try.func91, Try.ntmps91
  go_wp2
  rw [← hw1]
  clear hw1 c0 c1
  go_loopw [4, 5, 6, 7, 8, 9, 10] (fun i _ _ _ _ _ _ wr => ∃ a : Nat, a ≤ m ∧ i = .int .i64 a ∧ Hid (Below w1.heap.size w1 wr) ∧ Hid (∀ c ∈ cellsTo ds ds.length, c.1 < a → SqCell p ds ac dn c)) (fun i _ _ _ _ _ _ _ => m - (intOf i).toNat)
  case atStart => exact ⟨0, Nat.zero_le _, rfl, Lib.hid (Below.refl _ _), Lib.hid (fun _ _ h => absurd h (Nat.not_lt_zero _))⟩
  case round =>
    obtain ⟨a, ha, rfl, HBwx, HA⟩ := hrel
    obtain ⟨wx, hwx⟩ : ∃ wx : World, wx = wr := ⟨_, rfl⟩
    subst hwx
    have hnx := HNX.out wx HBwx.out
    have c0 := hnx.1.c0
    have c1 := hnx.1.c1
    have c2 := hnx.1.c2
    have c3 := hnx.1.c3
    have hu0 := hnx.2
    clear hnx
    by_cases hlt : a < m
    · have hlti : (a : Int) < (m : Int) := by omega
      go_wp2
      clear c0 c1 c2 c3 hu0
      go_loopw [5, 6, 7, 8, 9, 10] (fun j _ _ _ _ _ wr => ∃ b : Nat, b ≤ q ∧ j = .int .i64 b ∧ Hid (Below w1.heap.size w1 wr) ∧ Hid (∀ b', b' < b → SqCell p ds ac dn (a, b'))) (fun j _ _ _ _ _ _ => q - (intOf j).toNat)
      case atStart => exact ⟨0, Nat.zero_le _, rfl, HBwx, Lib.hid (fun _ h => absurd h (Nat.not_lt_zero _))⟩
      case round =>
        clear HBwx
        obtain ⟨b, hb, rfl, HBwy, HBC⟩ := hrel
        obtain ⟨wy, hwy⟩ : ∃ wy : World, wy = wr := ⟨_, rfl⟩
        subst hwy
        have hnx := HNX.out wy HBwy.out
        have c0 := hnx.1.c0
        have c1 := hnx.1.c1
        have c2 := hnx.1.c2
        have c3 := hnx.1.c3
        have hu0 := hnx.2
        clear hnx
        by_cases hltb : b < q
        · have hltj : (b : Int) < (q : Int) := by omega
          have hal : a < ds.length := by rw [← HM.out]; exact hlt
          have hc : (a, b) ∈ cellsTo ds ds.length := mem_cells.2 ⟨hal, by dsimp only; rw [getD_of_lt _ hal, (HOK.out.col _ (List.getElem_mem hal)).1, ← HQ.out]; exact hltb⟩
          have HC := Lib.hid hc
          obtain ⟨d, hd⟩ : ∃ d, d = cdim ds (a, b) := ⟨_, rfl⟩
          have hd4 : d ≤ 4 := by rw [hd]; exact (cdim_cast HOK.out hc).2
          have HD := Lib.hid hd
          have hdv : (d : Int) = (ds.getD a []).getD b 0 := by rw [hd, (cdim_cast HOK.out hc).1, dcl_nat]
          obtain ⟨ui, hui, hri⟩ := HCL.out a hal
          have hbl : b < (ds[a]).length := by rw [(HOK.out.col _ (List.getElem_mem hal)).1, ← HQ.out]; exact hltb
          rcases hri with ⟨hx, _⟩ | ⟨bi, oi, ci, rfl, hpa, hpb, hci⟩
          · rw [hx] at hbl; exact absurd hbl (Nat.not_lt_zero _)
          obtain ⟨ue, hue, hre⟩ := hci b hbl
          have hre' : ue = .int .i64 (d : Int) := by rw [hdv, getD_of_lt _ hal, getD_of_lt _ hbl]; exact hre
          subst hre'
          rw [(HOK.out.col _ (List.getElem_mem hal)).1, ← HQ.out] at hui
          have HUI : Hid (∀ W, Below w1.heap.size w1 W → W.cell? ⟨bb, o + a, none⟩ = some (.slice (some ⟨bi, oi, none⟩) q ci) ∧ W.cell? ⟨bi, oi + b, none⟩ = some (.int .i64 (d : Int))) := Lib.hid (fun W hb => ⟨later (HX1.out.below.trans (hb.mono HX1.out.below.size)) (Nat.le_refl _) hui, later (HX1.out.below.trans (hb.mono HX1.out.below.size)) (Nat.le_refl _) hue⟩)
          clear hui hue hci hre hdv hd hc hpa hpb hbl hal
          go_wp2
          clear c0 c1 c2 c3 hu0
          go_loopw [6, 7, 8, 9, 10] (fun k _ _ _ _ wr => ∃ r : Nat, r ≤ d ∧ k = .int .i64 r ∧ Hid (Below w1.heap.size w1 wr) ∧ Hid (∀ r', r' < r → SqRow p ds ac dn (a, b) r')) (fun k _ _ _ _ _ => d - (intOf k).toNat)
          case atStart => exact ⟨0, Nat.zero_le _, rfl, HBwy, Lib.hid (fun _ h => absurd h (Nat.not_lt_zero _))⟩
          case round =>
            clear HBwy
            obtain ⟨r, hr, rfl, HBwz, HRC⟩ := hrel
            obtain ⟨wz, hwz⟩ : ∃ wz : World, wz = wr := ⟨_, rfl⟩
            subst hwz
            have hnx := HNX.out wz HBwz.out
            have c0 := hnx.1.c0
            have c1 := hnx.1.c1
            have c2 := hnx.1.c2
            have c3 := hnx.1.c3
            have hu0 := hnx.2
            clear hnx
            have hui := (HUI.out wz HBwz.out).1
            have hue := (HUI.out wz HBwz.out).2
            by_cases hltr : r < d
            · have hltk : (r : Int) < (d : Int) := by omega
              have hrd : r < cdim ds (a, b) := by rw [← HD.out]; exact hltr
              obtain ⟨ra, rd, la, ld⟩ := row_len HOK.out HTB.out HC.out hrd
              have hcd := dco_dcl HOK.out HC.out
              have hb1 := dco_bd HOK.out (((a, b) : Nat × Nat).1 - 1 : Int) ((a, b) : Nat × Nat).2
              have hb2 := dco_bd HOK.out ((a, b) : Nat × Nat).1 (((a, b) : Nat × Nat).2 - 1 : Int)
              have hal40 : ((tbl ac (a, b)).getD r []).length ≤ 40 := by have := ra.1; omega
              have hdl40 : ((tbl dn (a, b)).getD r []).length ≤ 40 := by have := rd.1; omega
              have hia : a < ac.length := by rw [← HN1.out]; omega
              have hid : a < dn.length := by rw [← HN4.out]; omega
              have hja : b < (ac[a]).length := by have h1 := HTB.out.ca a (by rw [← HM.out]; exact hlt); rw [getD_of_lt _ hia] at h1; rw [h1]; exact (mem_cells.1 HC.out).2
              have hjd : b < (dn[a]).length := by have h1 := HTB.out.cd a (by rw [← HM.out]; exact hlt); rw [getD_of_lt _ hid] at h1; rw [h1]; exact (mem_cells.1 HC.out).2
              have hdxz := (HNX.out wz HBwz.out).1.dx
              obtain ⟨ba, oa, ca, b2, o2, k2, ut, hva, hA1, hA2, hTl⟩ := l4_at hdxz.across hia hja
              obtain ⟨be, oe, ce, b5, o5, k5, us, hvd, hE1, hE2, hSl⟩ := l4_at hdxz.down hid hjd
              have hTt : (ac[a])[b] = tbl ac (a, b) := by unfold tbl; dsimp only; rw [getD_of_lt _ hia, getD_of_lt _ hja]
              have hTs : (dn[a])[b] = tbl dn (a, b) := by unfold tbl; dsimp only; rw [getD_of_lt _ hid, getD_of_lt _ hjd]
              rw [hTt] at hTl
              rw [hTs] at hSl
              have hra : r < (tbl ac (a, b)).length := by rw [la]; exact hrd
              have hrd' : r < (tbl dn (a, b)).length := by rw [ld]; exact hrd
              obtain ⟨b3, o3, k3, ua, rfl, hA3, hUA⟩ := row_at hTl hra
              obtain ⟨b6, o6, k6, ud, rfl, hE3, hUD⟩ := row_at hSl hrd'
              have hga : (tbl ac (a, b)).getD r [] = (tbl ac (a, b))[r] := getD_of_lt _ hra
              have hgd : (tbl dn (a, b)).getD r [] = (tbl dn (a, b))[r] := getD_of_lt _ hrd'
              rw [← hga] at hUA
              rw [← hgd] at hUD
              injection hva with e1 e2 e3
              injection hvd with e4 e5 e6
              have e1' : aa = some ⟨ba, oa, none⟩ := e1
              have e4' : ae = some ⟨be, oe, none⟩ := e4
              clear e1 e2 e3 e4 e5 e6
              obtain ⟨n2, hn2⟩ : ∃ n, n = (ac[a]).length := ⟨_, rfl⟩
              obtain ⟨n5, hn5⟩ : ∃ n, n = (dn[a]).length := ⟨_, rfl⟩
              obtain ⟨n3, hn3⟩ : ∃ n, n = (tbl ac (a, b)).length := ⟨_, rfl⟩
              obtain ⟨n6, hn6⟩ : ∃ n, n = (tbl dn (a, b)).length := ⟨_, rfl⟩
              rw [← hn2] at hA1
              rw [← hn5] at hE1
              rw [← hn3] at hA2
              rw [← hn6] at hE2
              have hja2 : b < n2 := by rw [hn2]; exact hja
              have hjd2 : b < n5 := by rw [hn5]; exact hjd
              have hra2 : r < n3 := by rw [hn3]; exact hra
              have hrd2 : r < n6 := by rw [hn6]; exact hrd'
              have hi1 : a < n1 := by omega
              have hi4 : a < n4 := by omega
              obtain ⟨aa1, ka1, hua'⟩ := Sl.shape hUA
              obtain ⟨ad1, kd1, hud'⟩ := Sl.shape hUD
              obtain ⟨na, hna⟩ : ∃ n, n = ((tbl ac (a, b)).getD r []).length := ⟨_, rfl⟩
              obtain ⟨nd, hnd⟩ : ∃ n, n = ((tbl dn (a, b)).getD r []).length := ⟨_, rfl⟩
              rw [← hna] at hua'
              rw [← hnd] at hud'
              subst hua' hud'
              have HA1 := Lib.hid hA1
              have HA2 := Lib.hid hA2
              have HA3 := Lib.hid hA3
              have HE1 := Lib.hid hE1
              have HE2 := Lib.hid hE2
              have HE3 := Lib.hid hE3
              have HUA := Lib.hid hUA
              have HUD := Lib.hid hUD
              have HE1' := Lib.hid e1'
              have HE4' := Lib.hid e4'
              have HAL := Lib.hid hal40
              have HDL := Lib.hid hdl40
              have HRD := Lib.hid hrd
              have wi : IntKind.i64.wrap ((a : Int) - 1) = (a : Int) - 1 := IntWalk.i64_in _ (by omega)
              have wj : IntKind.i64.wrap ((b : Int) - 1) = (b : Int) - 1 := IntWalk.i64_in _ (by omega)
              have hbz := HBwz.out
              have hzz := hbz.size
              clear hA1 hA2 hA3 hE1 hE2 hE3 hUA hUD hga hgd hTt hTs hTl hSl hn2 hn3 hn5 hn6 hna hnd e1' e4' hal40 hdl40 hcd hb1 hb2 ra rd hra hrd' hja hjd hia hid la ld hdxz
              go_upto_region 11 with fail
              refine wp_region_held (S := fun W => Below wz.heap.size wz W) (by kernel_rfl) ?_
              have S0 : Below wz.heap.size wz wz.drew := (Below.refl _ _).drew
              change wpAnyH _ _ _ _ _ _ _ _ wz.drew
              obtain ⟨wd, hwd⟩ : ∃ wd, wd = wz.drew := ⟨_, rfl⟩
              rw [← hwd] at S0 ⊢
              clear hwd
              have HNZ : Hid (∀ W, Below wz.heap.size wz W → DBx w W w.heap.size p (.slice (some ⟨bb, o, none⟩) m cd) (.slice aa n1 ca') (.slice ae n4 ce') ds ac dn) := Lib.hid (fun W hb => (HNX.out W (HBwz.out.trans (hb.mono hzz))).1)
              refine held_take (i := 0) (v := .pointer (some ⟨w.heap.size, 2, none⟩)) (some 41) rfl rfl (by kernel_rfl) (by kernel_rfl) (by kernel_rfl) (fun _ _ _ h => h) (yieldsIf_run (by kernel_rfl) (fun W _ => by kernel_rfl)) S0 ?_
              refine held_take (i := 1) (v := .slice aa n1 ca') (some 42) rfl rfl (by kernel_rfl) (by kernel_rfl) (by kernel_rfl) (fun _ _ _ h => h) (yieldsIf_cell (by kernel_rfl) rfl (by kernel_rfl) (fun W h => hload4 W (HNZ.out W h).c2)) S0 ?_
              refine held_take (i := 2) (v := .int .i64 (a : Int)) (some 43) rfl rfl (by kernel_rfl) (by kernel_rfl) (by kernel_rfl) (fun _ _ _ h => h) (yieldsIf_move (by kernel_rfl) rfl (by kernel_rfl)) S0 ?_
              refine held_take (i := 3) (v := .pointer (some ⟨ba, oa + a, none⟩)) (some 44) rfl rfl (by kernel_rfl) (by kernel_rfl) (by kernel_rfl) (fun _ _ _ h => h) (yieldsIf_index (by kernel_rfl) rfl (by kernel_rfl) (by kernel_rfl) (hidx4 (cap := ca') HE1'.out hi1)) S0 ?_
              refine held_take (i := 4) (v := .slice (some ⟨b2, o2, none⟩) n2 k2) (some 45) rfl rfl (by kernel_rfl) (by kernel_rfl) (by kernel_rfl) (fun _ _ _ h => h) (yieldsIf_cell (by kernel_rfl) rfl (by kernel_rfl) (fun W h => hload3s W (later h (Nat.le_refl _) HA1.out))) S0 ?_
              refine held_take (i := 5) (v := .int .i64 (b : Int)) (some 46) rfl rfl (by kernel_rfl) (by kernel_rfl) (by kernel_rfl) (fun _ _ _ h => h) (yieldsIf_move (by kernel_rfl) rfl (by kernel_rfl)) S0 ?_
              refine held_take (i := 6) (v := .pointer (some ⟨b2, o2 + b, none⟩)) (some 47) rfl rfl (by kernel_rfl) (by kernel_rfl) (by kernel_rfl) (fun _ _ _ h => h) (yieldsIf_index (by kernel_rfl) rfl (by kernel_rfl) (by kernel_rfl) (hidx3 b2 o2 k2 hja2)) S0 ?_
              refine held_take (i := 7) (v := .slice (some ⟨b3, o3, none⟩) n3 k3) (some 48) rfl rfl (by kernel_rfl) (by kernel_rfl) (by kernel_rfl) (fun _ _ _ h => h) (yieldsIf_cell (by kernel_rfl) rfl (by kernel_rfl) (fun W h => hload2s W (later h (Nat.le_refl _) HA2.out))) S0 ?_
              refine held_take (i := 8) (v := .int .i64 (r : Int)) (some 49) rfl rfl (by kernel_rfl) (by kernel_rfl) (by kernel_rfl) (fun _ _ _ h => h) (yieldsIf_move (by kernel_rfl) rfl (by kernel_rfl)) S0 ?_
              refine held_take (i := 9) (v := .pointer (some ⟨b3, o3 + r, none⟩)) (some 50) rfl rfl (by kernel_rfl) (by kernel_rfl) (by kernel_rfl) (fun _ _ _ h => h) (yieldsIf_index (by kernel_rfl) rfl (by kernel_rfl) (by kernel_rfl) (hidxS b3 o3 k3 hra2)) S0 ?_
              refine held_take (i := 10) (v := .slice aa1 na ka1) (some 51) rfl rfl (by kernel_rfl) (by kernel_rfl) (by kernel_rfl) (fun _ _ _ h => h) (yieldsIf_cell (by kernel_rfl) rfl (by kernel_rfl) (fun W h => hloadD W (later h (Nat.le_refl _) HA3.out))) S0 ?_
              refine held_take (i := 11) (v := .pointer (some ⟨w.heap.size, 3, none⟩)) (some 52) rfl rfl (by kernel_rfl) (by kernel_rfl) (by kernel_rfl) (fun _ _ _ h => h) (yieldsIf_run (by kernel_rfl) (fun W _ => by kernel_rfl)) S0 ?_
              refine held_take (i := 12) (v := .slice ae n4 ce') (some 53) rfl rfl (by kernel_rfl) (by kernel_rfl) (by kernel_rfl) (fun _ _ _ h => h) (yieldsIf_cell (by kernel_rfl) rfl (by kernel_rfl) (fun W h => hload4 W (HNZ.out W h).c3)) S0 ?_
              refine held_take (i := 13) (v := .int .i64 (a : Int)) (some 54) rfl rfl (by kernel_rfl) (by kernel_rfl) (by kernel_rfl) (fun _ _ _ h => h) (yieldsIf_move (by kernel_rfl) rfl (by kernel_rfl)) S0 ?_
              refine held_take (i := 14) (v := .pointer (some ⟨be, oe + a, none⟩)) (some 55) rfl rfl (by kernel_rfl) (by kernel_rfl) (by kernel_rfl) (fun _ _ _ h => h) (yieldsIf_index (by kernel_rfl) rfl (by kernel_rfl) (by kernel_rfl) (hidx4 (cap := ce') HE4'.out hi4)) S0 ?_
              refine held_take (i := 15) (v := .slice (some ⟨b5, o5, none⟩) n5 k5) (some 56) rfl rfl (by kernel_rfl) (by kernel_rfl) (by kernel_rfl) (fun _ _ _ h => h) (yieldsIf_cell (by kernel_rfl) rfl (by kernel_rfl) (fun W h => hload3s W (later h (Nat.le_refl _) HE1.out))) S0 ?_
              refine held_take (i := 16) (v := .int .i64 (b : Int)) (some 57) rfl rfl (by kernel_rfl) (by kernel_rfl) (by kernel_rfl) (fun _ _ _ h => h) (yieldsIf_move (by kernel_rfl) rfl (by kernel_rfl)) S0 ?_
              refine held_take (i := 17) (v := .pointer (some ⟨b5, o5 + b, none⟩)) (some 58) rfl rfl (by kernel_rfl) (by kernel_rfl) (by kernel_rfl) (fun _ _ _ h => h) (yieldsIf_index (by kernel_rfl) rfl (by kernel_rfl) (by kernel_rfl) (hidx3 b5 o5 k5 hjd2)) S0 ?_
              refine held_take (i := 18) (v := .slice (some ⟨b6, o6, none⟩) n6 k6) (some 59) rfl rfl (by kernel_rfl) (by kernel_rfl) (by kernel_rfl) (fun _ _ _ h => h) (yieldsIf_cell (by kernel_rfl) rfl (by kernel_rfl) (fun W h => hload2s W (later h (Nat.le_refl _) HE2.out))) S0 ?_
              refine held_take (i := 19) (v := .int .i64 (r : Int)) (some 60) rfl rfl (by kernel_rfl) (by kernel_rfl) (by kernel_rfl) (fun _ _ _ h => h) (yieldsIf_move (by kernel_rfl) rfl (by kernel_rfl)) S0 ?_
              refine held_take (i := 20) (v := .pointer (some ⟨b6, o6 + r, none⟩)) (some 61) rfl rfl (by kernel_rfl) (by kernel_rfl) (by kernel_rfl) (fun _ _ _ h => h) (yieldsIf_index (by kernel_rfl) rfl (by kernel_rfl) (by kernel_rfl) (hidxS b6 o6 k6 hrd2)) S0 ?_
              refine held_take (i := 21) (v := .slice ad1 nd kd1) (some 62) rfl rfl (by kernel_rfl) (by kernel_rfl) (by kernel_rfl) (fun _ _ _ h => h) (yieldsIf_cell (by kernel_rfl) rfl (by kernel_rfl) (fun W h => hloadD W (later h (Nat.le_refl _) HE3.out))) S0 ?_
              refine held_take (i := 22) (v := .slice aa1 na ka1) (some 7) rfl rfl (by kernel_rfl) (by kernel_rfl) (by kernel_rfl) (fun _ _ _ h => h) (yieldsIf_assign (by kernel_rfl) rfl (by kernel_rfl)) S0 ?_
              refine held_take (i := 23) (v := .slice ad1 nd kd1) (some 8) rfl rfl (by kernel_rfl) (by kernel_rfl) (by kernel_rfl) (fun _ _ _ h => h) (yieldsIf_assign (by kernel_rfl) rfl (by kernel_rfl)) S0 ?_
              refine wpAnyH_done (by kernel_rfl) ?_ _
              simp only [Act.put, List.setIfInBounds_toArray, List.set_cons_zero, List.set_cons_succ]
              clear c0 c1 c2 c3 hu0 hui hue
              have HBD := Lib.hid S0
              have hsd := S0.size
              clear S0
              have HND : Hid (∀ W, Below wd.heap.size wd W → DBx w W w.heap.size p (.slice (some ⟨bb, o, none⟩) m cd) (.slice aa n1 ca') (.slice ae n4 ce') ds ac dn ∧ Below w1.heap.size w1 W) := Lib.hid (fun W hb => ⟨HNZ.out W (HBD.out.trans (hb.mono hsd)), (HBwz.out.trans ((HBD.out.trans (hb.mono hsd)).mono hzz))⟩)
              have HKA : Hid (∀ b', RowOk p (wid ds b' ((a : Int) - 1) b) (stp p ds ac dn ((a : Int) - 1) b ((tbl ac (a, b)).getD r []) b') ∧ wid ds b' ((a : Int) - 1) b ≤ 4 ∧ StOk p ds ac dn ((a : Int) - 1) b ((tbl ac (a, b)).getD r []) b') := Lib.hid (fun b' => ⟨stp_ok HP.out (st_left HP.out HOK.out HTB.out HC.out HRD.out b'), (wid_cast HOK.out b' _ _).2, st_left HP.out HOK.out HTB.out HC.out HRD.out b'⟩)
              have HKD : Hid (∀ b', RowOk p (wid ds b' a ((b : Int) - 1)) (stp p ds ac dn a ((b : Int) - 1) ((tbl dn (a, b)).getD r []) b') ∧ wid ds b' a ((b : Int) - 1) ≤ 4 ∧ StOk p ds ac dn a ((b : Int) - 1) ((tbl dn (a, b)).getD r []) b') := Lib.hid (fun b' => ⟨stp_ok HP.out (st_low HP.out HOK.out HTB.out HC.out HRD.out b'), (wid_cast HOK.out b' _ _).2, st_low HP.out HOK.out HTB.out HC.out HRD.out b'⟩)
              obtain ⟨zA, hzA⟩ : ∃ z, z = leadOf (stp p ds ac dn ((a : Int) - 1) b ((tbl ac (a, b)).getD r []) true) := ⟨_, rfl⟩
              have HLA : Hid (∀ W u, L1 0 W u (stp p ds ac dn ((a : Int) - 1) b ((tbl ac (a, b)).getD r []) true) → Calls Try.prog 108 #[u] W (QW (.int .i64 zA) W)) := Lib.hid (fun W u hu => by rw [hzA]; exact l01Lead_any u _ W hu (by have h1 := (HKA.out true).1.1; have h2 := (HKA.out true).2.1; omega))
              obtain ⟨zD, hzD⟩ : ∃ z, z = leadOf (stp p ds ac dn a ((b : Int) - 1) ((tbl dn (a, b)).getD r []) false) := ⟨_, rfl⟩
              have HLD : Hid (∀ W u, L1 0 W u (stp p ds ac dn a ((b : Int) - 1) ((tbl dn (a, b)).getD r []) false) → Calls Try.prog 108 #[u] W (QW (.int .i64 zD) W)) := Lib.hid (fun W u hu => by rw [hzD]; exact l01Lead_any u _ W hu (by have h1 := (HKD.out false).1.1; have h2 := (HKD.out false).2.1; omega))
              obtain ⟨zC, hzC⟩ : ∃ z, z = leadOf (toL (wid ds false ((a : Int) - 1) b) (Lin.add p (ofL (stp p ds ac dn ((a : Int) - 1) b ((tbl ac (a, b)).getD r []) false)) (-(-1)) (ofL (stp p ds ac dn a ((b : Int) - 1) ((tbl dn (a, b)).getD r []) true)))) := ⟨_, rfl⟩
              have HLC : Hid (∀ W u, L1 0 W u (toL (wid ds false ((a : Int) - 1) b) (Lin.add p (ofL (stp p ds ac dn ((a : Int) - 1) b ((tbl ac (a, b)).getD r []) false)) (-(-1)) (ofL (stp p ds ac dn a ((b : Int) - 1) ((tbl dn (a, b)).getD r []) true)))) → Calls Try.prog 108 #[u] W (QW (.int .i64 zC) W)) := Lib.hid (fun W u hu => by rw [hzC]; exact l01Lead_any u _ W hu (by have h2 := (HKA.out false).2.1; simp [toL]; omega))
              have HZA := Lib.hid hzA
              have HZD := Lib.hid hzD
              have HZC := Lib.hid hzC
              clear hzA hzD hzC
              have HSA : Hid (∀ W, Below wd.heap.size wd W → ∀ b', Calls Try.prog 116 #[.agg #[.int .i64 p, .slice (some ⟨bb, o, none⟩) m cd, .slice aa n1 ca', .slice ae n4 ce'], .int .i64 ((a : Int) - 1), .int .i64 (b : Int), .slice aa1 na ka1, .bool b'] W fun e w' => ∃ u, e = .returned u ∧ L1 0 w' u (stp p ds ac dn ((a : Int) - 1) b ((tbl ac (a, b)).getD r []) b') ∧ Below W.heap.size W w') := Lib.hid (fun W hb b' => HSTEP.out W (HND.out W hb).2 b' _ _ _ _ (HUA.out.below (HBD.out.trans (hb.mono hsd))) HAL.out (by omega) (by omega) (HKA.out b').2.2)
              have HSD : Hid (∀ W, Below wd.heap.size wd W → ∀ b', Calls Try.prog 116 #[.agg #[.int .i64 p, .slice (some ⟨bb, o, none⟩) m cd, .slice aa n1 ca', .slice ae n4 ce'], .int .i64 (a : Int), .int .i64 ((b : Int) - 1), .slice ad1 nd kd1, .bool b'] W fun e w' => ∃ u, e = .returned u ∧ L1 0 w' u (stp p ds ac dn a ((b : Int) - 1) ((tbl dn (a, b)).getD r []) b') ∧ Below W.heap.size W w') := Lib.hid (fun W hb b' => HSTEP.out W (HND.out W hb).2 b' _ _ _ _ (HUD.out.below (HBD.out.trans (hb.mono hsd))) HDL.out (by omega) (by omega) (HKD.out b').2.2)
              have hnd0 := (HND.out wd (Below.refl _ _)).1
              have c0 := hnd0.c0
              have c1 := hnd0.c1
              have c2 := hnd0.c2
              have c3 := hnd0.c3
              clear hnd0
              go_wp2_with fail
              refine (HSA.out wd (Below.refl _ _) true).mono ?_
              rintro e W3 ⟨u3, rfl, hl3, hb3⟩
              obtain ⟨a3, k3', hu3⟩ := Sl.shape hl3
              obtain ⟨n7, hn7⟩ : ∃ n, n = (stp p ds ac dn ((a : Int) - 1) b ((tbl ac (a, b)).getD r []) true).length := ⟨_, rfl⟩
              rw [← hn7] at hu3
              subst hu3
              have HB3 := Lib.hid hb3
              have HL3 := Lib.hid hl3
              clear hn7 hb3 hl3 c0 c1 c2 c3
              have hnd0 := (HND.out W3 HB3.out).1
              have c0 := hnd0.c0
              have c1 := hnd0.c1
              have c2 := hnd0.c2
              have c3 := hnd0.c3
              clear hnd0
              go_wp2_with fail
              refine (HLA.out W3 _ HL3.out).mono ?_
              rintro e w' ⟨rfl, rfl⟩
              by_cases hA0 : ∀ x ∈ (stp p ds ac dn ((a : Int) - 1) b ((tbl ac (a, b)).getD r []) true), x = 0
              · have hlt0 : zA = -1 := by rw [HZA.out]; exact leadOf_null hA0
                subst hlt0
                have HA0 := Lib.hid hA0
                clear hA0
                go_wp2_with fail
                refine (HSD.out W3 HB3.out false).mono ?_
                rintro e W4 ⟨u4, rfl, hl4, hb4⟩
                obtain ⟨a4, k4', hu4⟩ := Sl.shape hl4
                obtain ⟨n8, hn8⟩ : ∃ n, n = (stp p ds ac dn a ((b : Int) - 1) ((tbl dn (a, b)).getD r []) false).length := ⟨_, rfl⟩
                rw [← hn8] at hu4
                subst hu4
                have HB4 := Lib.hid (HB3.out.trans (hb4.mono HB3.out.size))
                have HL4 := Lib.hid hl4
                clear hn8 hb4 hl4 c0 c1 c2 c3
                have hnd0 := (HND.out W4 HB4.out).1
                have c0 := hnd0.c0
                have c1 := hnd0.c1
                have c2 := hnd0.c2
                have c3 := hnd0.c3
                clear hnd0
                go_wp2_with fail
                refine (HLD.out W4 _ HL4.out).mono ?_
                rintro e w' ⟨rfl, rfl⟩
                by_cases hD0 : ∀ x ∈ (stp p ds ac dn a ((b : Int) - 1) ((tbl dn (a, b)).getD r []) false), x = 0
                · have hlt0 : zD = -1 := by rw [HZD.out]; exact leadOf_null hD0
                  subst hlt0
                  have HD0 := Lib.hid hD0
                  clear hD0
                  go_upto_region 14 with fail
                  refine wp_region_held (S := fun W => Below W4.heap.size W4 W) (by kernel_rfl) ?_
                  have S0 : Below W4.heap.size W4 W4.drew := (Below.refl _ _).drew
                  change wpAnyH _ _ _ _ _ _ _ _ W4.drew
                  obtain ⟨we, hwe⟩ : ∃ we, we = W4.drew := ⟨_, rfl⟩
                  rw [← hwe] at S0 ⊢
                  clear hwe c0 c1 c2 c3
                  have hs4 := HB4.out.size
                  have HN4w : Hid (∀ W, Below W4.heap.size W4 W → Below wd.heap.size wd W) := Lib.hid (fun W hb => HB4.out.trans (hb.mono hs4))
                  refine held_take (i := 0) (v := .agg #[.int .i64 p, .slice (some ⟨bb, o, none⟩) m cd, .slice aa n1 ca', .slice ae n4 ce']) (some 81) rfl rfl (by kernel_rfl) (by kernel_rfl) (by kernel_rfl) (fun _ _ _ h => h) (yieldsIf_cell (by kernel_rfl) rfl (by kernel_rfl) (fun W h => hloadDb W (HND.out W (HN4w.out W h)).1)) S0 ?_
                  refine held_take (i := 1) (v := .int .i64 (a : Int)) (some 82) rfl rfl (by kernel_rfl) (by kernel_rfl) (by kernel_rfl) (fun _ _ _ h => h) (yieldsIf_move (by kernel_rfl) rfl (by kernel_rfl)) S0 ?_
                  refine held_take (i := 2) (v := .int .i64 ((a : Int) - 1)) (some 83) rfl rfl (by kernel_rfl) (by kernel_rfl) (by kernel_rfl) (fun _ _ _ h => h) (yieldsIf_bin (by kernel_rfl) rfl (by kernel_rfl) (by kernel_rfl) (fun _ => rfl) (hsubA wi)) S0 ?_
                  refine held_take (i := 3) (v := .int .i64 (b : Int)) (some 84) rfl rfl (by kernel_rfl) (by kernel_rfl) (by kernel_rfl) (fun _ _ _ h => h) (yieldsIf_move (by kernel_rfl) rfl (by kernel_rfl)) S0 ?_
                  refine held_take (i := 4) (v := .slice aa1 na ka1) (some 85) rfl rfl (by kernel_rfl) (by kernel_rfl) (by kernel_rfl) (fun _ _ _ h => h) (yieldsIf_move (by kernel_rfl) rfl (by kernel_rfl)) S0 ?_
                  refine held_take (i := 6) (v := .agg #[.int .i64 p, .slice (some ⟨bb, o, none⟩) m cd, .slice aa n1 ca', .slice ae n4 ce']) (some 87) rfl rfl (by kernel_rfl) (by kernel_rfl) (by kernel_rfl) (fun _ _ _ h => h) (yieldsIf_cell (by kernel_rfl) rfl (by kernel_rfl) (fun W h => hloadDb W (HND.out W (HN4w.out W h)).1)) S0 ?_
                  refine held_take (i := 7) (v := .int .i64 (a : Int)) (some 88) rfl rfl (by kernel_rfl) (by kernel_rfl) (by kernel_rfl) (fun _ _ _ h => h) (yieldsIf_move (by kernel_rfl) rfl (by kernel_rfl)) S0 ?_
                  refine held_take (i := 8) (v := .int .i64 (b : Int)) (some 89) rfl rfl (by kernel_rfl) (by kernel_rfl) (by kernel_rfl) (fun _ _ _ h => h) (yieldsIf_move (by kernel_rfl) rfl (by kernel_rfl)) S0 ?_
                  refine held_take (i := 9) (v := .int .i64 ((b : Int) - 1)) (some 90) rfl rfl (by kernel_rfl) (by kernel_rfl) (by kernel_rfl) (fun _ _ _ h => h) (yieldsIf_bin (by kernel_rfl) rfl (by kernel_rfl) (by kernel_rfl) (fun _ => rfl) (hsubA wj)) S0 ?_
                  refine held_take (i := 10) (v := .slice ad1 nd kd1) (some 91) rfl rfl (by kernel_rfl) (by kernel_rfl) (by kernel_rfl) (fun _ _ _ h => h) (yieldsIf_move (by kernel_rfl) rfl (by kernel_rfl)) S0 ?_
                  refine held_enter (i := 5) (some 86) (f := 116) (args := #[.agg #[.int .i64 p, .slice (some ⟨bb, o, none⟩) m cd, .slice aa n1 ca', .slice ae n4 ce'], .int .i64 ((a : Int) - 1), .int .i64 (b : Int), .slice aa1 na ka1, .bool false]) (by kernel_rfl) rfl rfl rfl (by kernel_rfl) (HSA.out _ (HN4w.out _ S0) false) ?_ (fun c w' h => by obtain ⟨_, h, _⟩ := h; cases h) (fun w' h => by obtain ⟨_, h, _⟩ := h; cases h)
                  rintro e5 W5 ⟨u5, he5, hl5, hb5⟩
                  injection he5 with he5
                  subst he5
                  have S1 : Below W4.heap.size W4 W5 := S0.trans (hb5.mono S0.size)
                  refine ⟨S1, ?_⟩
                  refine held_enter (i := 11) (some 92) (f := 116) (args := #[.agg #[.int .i64 p, .slice (some ⟨bb, o, none⟩) m cd, .slice aa n1 ca', .slice ae n4 ce'], .int .i64 (a : Int), .int .i64 ((b : Int) - 1), .slice ad1 nd kd1, .bool true]) (by kernel_rfl) rfl rfl rfl (by kernel_rfl) (HSD.out _ (HN4w.out _ S1) true) ?_ (fun c w' h => by obtain ⟨_, h, _⟩ := h; cases h) (fun w' h => by obtain ⟨_, h, _⟩ := h; cases h)
                  rintro e6 W6 ⟨u6, he6, hl6, hb6⟩
                  injection he6 with he6
                  subst he6
                  have S2 : Below W4.heap.size W4 W6 := S1.trans (hb6.mono S1.size)
                  refine ⟨S2, ?_⟩
                  obtain ⟨a5, k5', hu5⟩ := Sl.shape hl5
                  obtain ⟨n9, hn9⟩ : ∃ n, n = (stp p ds ac dn ((a : Int) - 1) b ((tbl ac (a, b)).getD r []) false).length := ⟨_, rfl⟩
                  rw [← hn9] at hu5
                  subst hu5
                  obtain ⟨a6, k6', hu6⟩ := Sl.shape hl6
                  obtain ⟨n10, hn10⟩ : ∃ n, n = (stp p ds ac dn a ((b : Int) - 1) ((tbl dn (a, b)).getD r []) true).length := ⟨_, rfl⟩
                  rw [← hn10] at hu6
                  subst hu6
                  refine held_take (i := 12) (v := .slice a5 n9 k5') (some 9) rfl rfl (by kernel_rfl) (by kernel_rfl) (by kernel_rfl) (fun _ _ _ h => h) (yieldsIf_assign (by kernel_rfl) rfl (by kernel_rfl)) S2 ?_
                  refine held_take (i := 13) (v := .slice a6 n10 k6') (some 10) rfl rfl (by kernel_rfl) (by kernel_rfl) (by kernel_rfl) (fun _ _ _ h => h) (yieldsIf_assign (by kernel_rfl) rfl (by kernel_rfl)) S2 ?_
                  refine wpAnyH_done (by kernel_rfl) ?_ _
                  simp only [Act.put, List.setIfInBounds_toArray, List.set_cons_zero, List.set_cons_succ]
                  have HB6 := Lib.hid (HN4w.out _ S2)
                  have hs5 : wd.heap.size ≤ W6.heap.size := HB6.out.size
                  have HLESS : Hid (Calls Try.prog 117 #[.int .i64 p, .slice a5 n9 k5', .slice a6 n10 k6', .int .i64 (-1)] W6 (GbR (toL (wid ds false ((a : Int) - 1) b) (Lin.add p (ofL (stp p ds ac dn ((a : Int) - 1) b ((tbl ac (a, b)).getD r []) false)) (-(-1)) (ofL (stp p ds ac dn a ((b : Int) - 1) ((tbl dn (a, b)).getD r []) true)))) W6)) := Lib.hid (by
                    have k1 := HKA.out false
                    have k2 := HKD.out true
                    have hwe : wid ds true a ((b : Int) - 1) = (wid ds false ((a : Int) - 1) b) := by unfold wid; simp
                    rw [hwe] at k2
                    refine l01Less1_any p (-1) _ _ _ _ _ W6 HP.out ?_ ?_ (ofL_md (by have := HP.out.lo; omega) k1.1) (ofL_md (by have := HP.out.lo; omega) k2.1) (by have := HP.out.lo; omega) (by have := k1.2.1; omega)
                    · rw [toL_ofL (by have := k1.1.1; omega)]; exact hl5.below hb6
                    · rw [toL_ofL (by have := k2.1.1; omega)]; exact hl6)
                  clear hl5 hl6 hb5 hb6 S0 S1 S2 hn9 hn10
                  have hnd0 := (HND.out W6 HB6.out).1
                  have c0 := hnd0.c0
                  clear hnd0
                  go_wp2_with fail
                  refine HLESS.out.mono ?_
                  rintro e W7 ⟨u7, rfl, hg7, hb7⟩
                  obtain ⟨a7, k7', hu7⟩ := Sl.shape hg7.l1
                  obtain ⟨n11, hn11⟩ : ∃ n, n = (toL (wid ds false ((a : Int) - 1) b) (Lin.add p (ofL (stp p ds ac dn ((a : Int) - 1) b ((tbl ac (a, b)).getD r []) false)) (-(-1)) (ofL (stp p ds ac dn a ((b : Int) - 1) ((tbl dn (a, b)).getD r []) true)))).length := ⟨_, rfl⟩
                  rw [← hn11] at hu7
                  subst hu7
                  have HL7 := Lib.hid hg7.l1
                  have HB7 := Lib.hid (HB6.out.trans (hb7.mono hs5))
                  clear hg7 hb7 hn11 c0 HLESS
                  go_wp2_with fail
                  refine (HLC.out W7 _ HL7.out).mono ?_
                  rintro e w' ⟨rfl, rfl⟩
                  by_cases hC0 : ∀ x ∈ (toL (wid ds false ((a : Int) - 1) b) (Lin.add p (ofL (stp p ds ac dn ((a : Int) - 1) b ((tbl ac (a, b)).getD r []) false)) (-(-1)) (ofL (stp p ds ac dn a ((b : Int) - 1) ((tbl dn (a, b)).getD r []) true)))), x = 0
                  · have hlt0 : zC = -1 := by rw [HZC.out]; exact leadOf_null hC0
                    subst hlt0
                    have HNEW : Hid (∀ r', r' < r + 1 → SqRow p ds ac dn (a, b) r') := Lib.hid (fun r' hr' => by
                      by_cases e : r' = r
                      · subst e; exact ⟨HA0.out, HD0.out, hC0⟩
                      · exact HRC.out r' (by omega))
                    clear hC0
                    have HBF := Lib.hid (HND.out W7 HB7.out).2
                    go_wp2
                    go_roundw
                    case rel => exact ⟨r + 1, by omega, by go_num, HBF, HNEW⟩
                    case measure => simp [intOf]; omega
                  · have hge : 0 ≤ zC := by rw [HZC.out]; exact leadOf_nn hC0
                    have HNO : Hid (¬ PP) := Lib.hid (fun h => hC0 (HPI.out.1 h _ HC.out r HRD.out).b)
                    clear hC0
                    go_wp2
                    go_ret
                    exact bb_false (HX1.out.below.trans (((HND.out W7 HB7.out).2).mono HX1.out.below.size)) HNO.out
                · have hge : 0 ≤ zD := by rw [HZD.out]; exact leadOf_nn hD0
                  have HNO : Hid (¬ PP) := Lib.hid (fun h => hD0 (HPI.out.1 h _ HC.out r HRD.out).d)
                  clear hD0
                  go_wp2
                  go_ret
                  exact bb_false (HX1.out.below.trans (((HND.out W4 HB4.out).2).mono HX1.out.below.size)) HNO.out
              · have hge : 0 ≤ zA := by rw [HZA.out]; exact leadOf_nn hA0
                have HNO : Hid (¬ PP) := Lib.hid (fun h => hA0 (HPI.out.1 h _ HC.out r HRD.out).a)
                clear hA0
                go_wp2
                go_ret
                exact bb_false (HX1.out.below.trans (((HND.out W3 HB3.out).2).mono HX1.out.below.size)) HNO.out
            · obtain rfl : r = d := by omega
              have HNEW : Hid (∀ b', b' < b + 1 → SqCell p ds ac dn (a, b')) := Lib.hid (fun b' hb' => by
                by_cases e : b' = b
                · subst e; intro r' hr'; exact HRC.out r' (by rw [HD.out]; exact hr')
                · exact HBC.out b' (by omega))
              go_wp2
              go_roundw
              case rel => exact ⟨b + 1, by omega, by go_num, HBwz, HNEW⟩
              case measure => simp [intOf]; omega
        · obtain rfl : b = q := by omega
          have HNEW : Hid (∀ c ∈ cellsTo ds ds.length, c.1 < a + 1 → SqCell p ds ac dn c) := Lib.hid (fun c hc hca => by
            by_cases e : c.1 = a
            · obtain ⟨c1', c2'⟩ := c
              dsimp only at e
              subst e
              refine HBC.out c2' ?_
              have h1 := mem_cells.1 hc
              dsimp only at h1
              rw [getD_of_lt _ h1.1, (HOK.out.col _ (List.getElem_mem h1.1)).1, ← HQ.out] at h1
              exact h1.2
            · exact HA.out c hc (by omega))
          go_wp2
          go_roundw
          case rel => exact ⟨a + 1, by omega, by go_num, HBwy, HNEW⟩
          case measure => simp [intOf]; omega
    · obtain rfl : a = m := by omega
      have HYES : Hid PP := Lib.hid (HPI.out.2 (fun c hc => HA.out c hc (by rw [HM.out]; exact (mem_cells.1 hc).1)))
      go_wp2
      go_ret
      exact bb_true (HX1.out.below.trans (HBwx.out.mono HX1.out.below.size)) HYES.out
end Go.Proofs.Ytlopenephgabhaa


namespace Go.Proofs.Ytlopenephgabhaa
open Go.RowKit

set_option maxRecDepth 100000 in
set_option maxHeartbeats 12800000 in
theorem l03Is_any (p : Int) (dv av vv : Value) (ds : List (List Int)) (ac dn : List (List (List (List Int)))) (w : World) (h : Dx 0 w dv av vv ds ac dn) (hbd : Bd2 1048576 ds) (hba : Bd4 1048576 ac) (hbv : Bd4 1048576 dn) :
    Calls Try.prog 42 #[.agg #[.int .i64 p, dv, av, vv]] w (BB (IsDb p ds ac dn) w) := by
  obtain ⟨PP, hPP⟩ : ∃ P : Prop, P = (IsDb p ds ac dn) := ⟨_, rfl⟩
  rw [← hPP]
  have HPI : Hid (PP ↔ (IsDb p ds ac dn)) := Lib.hid (by rw [hPP])
  clear hPP
  have HX := Lib.hid h
  have HBD := Lib.hid hbd
  have HBA := Lib.hid hba
  have HBV := Lib.hid hbv
  have hm8 := hbd.1
  have hn18 := hba.1
  have hn48 := hbv.1
  obtain ⟨ad, cd, rfl⟩ := Sl.shape h.dims
  obtain ⟨aa, ca', rfl⟩ := Sl.shape h.across
  obtain ⟨ae, ce', rfl⟩ := Sl.shape h.down
  clear h hbd hba hbv
  obtain ⟨m, hm⟩ : ∃ m, m = ds.length := ⟨_, rfl⟩
  obtain ⟨n1, hn1⟩ : ∃ n, n = ac.length := ⟨_, rfl⟩
  obtain ⟨n4, hn4⟩ : ∃ n, n = dn.length := ⟨_, rfl⟩
  rw [← hm, ← hn1, ← hn4] at HX ⊢
  rw [← hm] at hm8
  rw [← hn1] at hn18
  rw [← hn4] at hn48
  have HN1 := Lib.hid hn1
  have HN4 := Lib.hid hn4
  have HM := Lib.hid hm
  clear hn1 hn4 hm
  have hx0 := DBx.start (p := p) 28 HX.out
  obtain ⟨w1, hw1⟩ : ∃ w1, w1 = w.alloc (.cells #[.int .i64 p, .slice ad m cd, .slice aa n1 ca', .slice ae n4 ce'] 28) := ⟨_, rfl⟩
  rw [← hw1] at hx0
  have HX1 := Lib.hid hx0
  have c0 := hx0.c0
  have c1 := hx0.c1
  have c2 := hx0.c2
  have c3 := hx0.c3
  clear hx0
  by_cases hP : IsP p
  rotate_left
  · have HNO : Hid (¬ PP) := Lib.hid (fun h => hP (HPI.out.1 h).prime)
    go_enter Try.func42, Try.ntmps42
    go_wp2_with fail
    rw [← hw1]
    clear hw1
    refine (spprime_no hP _).mono ?_
    rintro e w' ⟨rfl, rfl⟩
    go_wp2
    go_ret
    exact bb_false HX1.out.below HNO.out
  have HP := Lib.hid hP
  by_cases h1 : (m : Int) < 1
  · have HNO : Hid (¬ PP) := Lib.hid (fun h => by have := (HPI.out.1 h).cel.len0; have := HM.out; omega)
    go_enter Try.func42, Try.ntmps42
    go_wp2_with fail
    rw [← hw1]
    clear hw1
    refine (spprime_yes hP _).mono ?_
    rintro e w' ⟨rfl, rfl⟩
    go_wp2
    go_ret
    exact bb_false HX1.out.below HNO.out
  by_cases h2 : 4 < (m : Int)
  · have HNO : Hid (¬ PP) := Lib.hid (fun h => by have := (HPI.out.1 h).cel.len1; have := HM.out; omega)
    go_enter Try.func42, Try.ntmps42
    go_wp2_with fail
    rw [← hw1]
    clear hw1
    refine (spprime_yes hP _).mono ?_
    rintro e w' ⟨rfl, rfl⟩
    go_wp2
    go_ret
    exact bb_false HX1.out.below HNO.out
  by_cases h3 : n1 = m
  rotate_left
  · have HNO : Hid (¬ PP) := Lib.hid (fun h => h3 (by rw [HN1.out, HM.out]; exact (HPI.out.1 h).tbs.la))
    have hq1 : ((n1 : Int) != (m : Int)) = true := by have hz : (n1 : Int) ≠ (m : Int) := (by omega); simp [hz]
    go_enter Try.func42, Try.ntmps42
    go_wp2_with fail
    rw [← hw1]
    clear hw1
    refine (spprime_yes hP _).mono ?_
    rintro e w' ⟨rfl, rfl⟩
    go_wp2
    go_ret
    exact bb_false HX1.out.below HNO.out
  by_cases h4 : n4 = m
  rotate_left
  · have HNO : Hid (¬ PP) := Lib.hid (fun h => h4 (by rw [HN4.out, HM.out]; exact (HPI.out.1 h).tbs.ld))
    subst h3
    have hq1 : ((n1 : Int) != (n1 : Int)) = false := by simp
    have hq2 : ((n4 : Int) != (n1 : Int)) = true := by have hz : (n4 : Int) ≠ (n1 : Int) := (by omega); simp [hz]
    go_enter Try.func42, Try.ntmps42
    go_wp2_with fail
    rw [← hw1]
    clear hw1
    refine (spprime_yes hP _).mono ?_
    rintro e w' ⟨rfl, rfl⟩
    go_wp2
    go_ret
    exact bb_false HX1.out.below HNO.out
  subst h3
  subst h4
  have hm1 : 1 ≤ n4 := by omega
  have hm4 : n4 ≤ 4 := by omega
  rcases HX.out.dims with ⟨hx, _⟩ | ⟨bb, o, cd', hv, _, hpos, hcl⟩
  · have h0 := HM.out; rw [hx] at h0; simp at h0; omega
  injection hv with e1 e2 e3
  subst e1 e3
  clear e2
  have HCL := Lib.hid hcl
  obtain ⟨u0, hu0, hr0⟩ := hcl 0 hpos
  rw [Nat.add_zero] at hu0
  obtain ⟨a0, z0, rfl⟩ := Sl.shape hr0
  rw [← getD_of_lt [] hpos] at hu0
  clear hr0
  obtain ⟨q, hq⟩ : ∃ q, q = (ds.getD 0 []).length := ⟨_, rfl⟩
  have hq8 : q ≤ 1048576 := by rw [hq, getD_of_lt _ hpos]; exact HBD.out.2 _ (List.getElem_mem hpos)
  rw [← hq] at hu0
  have HQ := Lib.hid hq
  clear hq hpos hcl
  have hu1 := later (B := w.heap.size) HX1.out.below (Nat.le_refl _) hu0
  clear hu0
  have HU1 := Lib.hid hu1
  have hq0 : ((n4 : Int) != (n4 : Int)) = false := by simp
  by_cases h5 : (q : Int) < 1
  · have HNO : Hid (¬ PP) := Lib.hid (fun h => by have := (HPI.out.1 h).cel.h0; have := HQ.out; omega)
    go_enter Try.func42, Try.ntmps42
    go_wp2_with fail
    rw [← hw1]
    clear hw1
    refine (spprime_yes hP _).mono ?_
    rintro e w' ⟨rfl, rfl⟩
    go_wp2
    go_ret
    exact bb_false HX1.out.below HNO.out
  by_cases h6 : 4 < (q : Int)
  · have HNO : Hid (¬ PP) := Lib.hid (fun h => by have := (HPI.out.1 h).cel.h1; have := HQ.out; omega)
    go_enter Try.func42, Try.ntmps42
    go_wp2_with fail
    rw [← hw1]
    clear hw1
    refine (spprime_yes hP _).mono ?_
    rintro e w' ⟨rfl, rfl⟩
    go_wp2
    go_ret
    exact bb_false HX1.out.below HNO.out
  go_enter Try.func42, Try.ntmps42
  go_wp2_with fail
  rw [← hw1]
  clear hw1
  refine (spprime_yes hP _).mono ?_
  rintro e w' ⟨rfl, rfl⟩
  go_wp2
  clear hq0 h1 h2
  go_loopw [5, 6] (fun i _ wr => ∃ a : Nat, a ≤ n4 ∧ i = .int .i64 a ∧ w1 = wr ∧ Hid (∀ a', a' < a → (ds.getD a' []).length = q ∧ (ac.getD a' []).length = q ∧ (dn.getD a' []).length = q ∧ AllIn 0 4 (ds.getD a' []))) (fun i _ _ => n4 - (intOf i).toNat)
  case atStart => exact ⟨0, Nat.zero_le _, rfl, rfl, Lib.hid (fun _ h => absurd h (Nat.not_lt_zero _))⟩
  case round =>
    obtain ⟨a, ha, rfl, rfl, HA⟩ := hrel
    by_cases hlt : a < n4
    · have hlti : (a : Int) < (n4 : Int) := by omega
      have hai : (0 : Int) ≤ (a : Int) := by omega
      have hal : a < ds.length := by rw [← HM.out]; exact hlt
      have haa : a < ac.length := by rw [← HN1.out]; exact hlt
      have had : a < dn.length := by rw [← HN4.out]; exact hlt
      obtain ⟨ui, hui, hri⟩ := HCL.out a hal
      rw [← getD_of_lt [] hal] at hri
      obtain ⟨xi, yi, rfl⟩ := Sl.shape hri
      rcases HX1.out.dx.across with ⟨hx, _⟩ | ⟨ba, oa, ca2, hva, _, hpa, hca⟩
      · exact absurd (hx ▸ haa) (Nat.not_lt_zero _)
      injection hva with e1 e2 e3
      subst e1 e3
      clear e2
      rcases HX1.out.dx.down with ⟨hx, _⟩ | ⟨be, oe, ce2, hvd, _, hpd, hcd⟩
      · exact absurd (hx ▸ had) (Nat.not_lt_zero _)
      injection hvd with e1 e2 e3
      subst e1 e3
      clear e2
      obtain ⟨uj, huj, hrj⟩ := hca a haa
      obtain ⟨xj, yj, rfl⟩ := Sl.shape hrj
      obtain ⟨uk, huk, hrk⟩ := hcd a had
      obtain ⟨xk, yk, rfl⟩ := Sl.shape hrk
      have hui1 := later (B := w.heap.size) HX1.out.below (Nat.le_refl _) hui
      clear hui hpa hpd hca hcd hrj hrk
      obtain ⟨l1, hl1⟩ : ∃ l, l = (ds.getD a []).length := ⟨_, rfl⟩
      obtain ⟨l2, hl2⟩ : ∃ l, l = (ac[a]).length := ⟨_, rfl⟩
      obtain ⟨l3, hl3⟩ : ∃ l, l = (dn[a]).length := ⟨_, rfl⟩
      rw [← hl1] at hui1
      rw [← hl2] at huj
      rw [← hl3] at huk
      have HL1 : Hid (l1 = (ds.getD a []).length) := Lib.hid hl1
      have HL2 : Hid (l2 = (ac.getD a []).length) := Lib.hid (by rw [getD_of_lt _ haa]; exact hl2)
      have HL3 : Hid (l3 = (dn.getD a []).length) := Lib.hid (by rw [getD_of_lt _ had]; exact hl3)
      have HRI := Lib.hid hri
      have hl18 : l1 ≤ 1048576 := by rw [hl1, getD_of_lt _ hal]; exact HBD.out.2 _ (List.getElem_mem hal)
      clear hl1 hl2 hl3 hri
      by_cases k1 : l1 = q
      rotate_left
      · have HNO : Hid (¬ PP) := Lib.hid (fun h => k1 (by rw [HL1.out, HQ.out, getD_of_lt _ hal]; exact ((HPI.out.1 h).cel.col _ (List.getElem_mem hal)).1))
        clear hal haa had
        have hq1 : ((l1 : Int) != (q : Int)) = true := by have hz : (l1 : Int) ≠ (q : Int) := (by omega); simp [hz]
        go_wp2
        go_ret
        exact bb_false HX1.out.below HNO.out
      by_cases k2 : l2 = q
      rotate_left
      · have HNO : Hid (¬ PP) := Lib.hid (fun h => k2 (by rw [HL2.out, (HPI.out.1 h).tbs.ca a hal, getD_of_lt _ hal, ((HPI.out.1 h).cel.col _ (List.getElem_mem hal)).1]; exact HQ.out.symm))
        clear hal haa had
        subst k1
        have hq1 : ((l1 : Int) != (l1 : Int)) = false := by simp
        have hq2 : ((l2 : Int) != (l1 : Int)) = true := by have hz : (l2 : Int) ≠ (l1 : Int) := (by omega); simp [hz]
        go_wp2
        go_ret
        exact bb_false HX1.out.below HNO.out
      by_cases k3 : l3 = q
      rotate_left
      · have HNO : Hid (¬ PP) := Lib.hid (fun h => k3 (by rw [HL3.out, (HPI.out.1 h).tbs.cd a hal, getD_of_lt _ hal, ((HPI.out.1 h).cel.col _ (List.getElem_mem hal)).1]; exact HQ.out.symm))
        clear hal haa had
        subst k1
        subst k2
        have hq1 : ((l2 : Int) != (l2 : Int)) = false := by simp
        have hq2 : ((l3 : Int) != (l2 : Int)) = true := by have hz : (l3 : Int) ≠ (l2 : Int) := (by omega); simp [hz]
        go_wp2
        go_ret
        exact bb_false HX1.out.below HNO.out
      subst k1
      subst k2
      subst k3
      have hq1 : ((l3 : Int) != (l3 : Int)) = false := by simp
      have HAL := Lib.hid hal
      clear hal haa had
      go_wp2
      clear hq1
      go_loopw [6] (fun j wr => ∃ b : Nat, b ≤ l3 ∧ j = .int .i64 b ∧ w1 = wr ∧ Hid (∀ b', b' < b → 0 ≤ (ds.getD a []).getD b' 0 ∧ (ds.getD a []).getD b' 0 ≤ 4)) (fun j _ => l3 - (intOf j).toNat)
      case atStart => exact ⟨0, Nat.zero_le _, rfl, rfl, Lib.hid (fun _ h => absurd h (Nat.not_lt_zero _))⟩
      case round =>
        obtain ⟨b, hb, rfl, rfl, HB⟩ := hrel
        by_cases hltb : b < l3
        · have hltj : (b : Int) < (l3 : Int) := by omega
          have hbi : (0 : Int) ≤ (b : Int) := by omega
          have hbl : b < (ds.getD a []).length := by rw [← HL1.out]; exact hltb
          rcases HRI.out with ⟨hx, _⟩ | ⟨bi, oi, ci, hvi, _, hpi, hci⟩
          · rw [hx] at hbl; exact absurd hbl (Nat.not_lt_zero _)
          injection hvi with e1 e2 e3
          subst e1 e3
          clear e2
          obtain ⟨ue, hue, hre⟩ := hci b hbl
          obtain ⟨d, hd⟩ : ∃ d, d = (ds.getD a []).getD b 0 := ⟨_, rfl⟩
          have hre' : ue = .int .i64 d := by rw [hd, getD_of_lt _ hbl]; exact hre
          subst hre'
          have hue1 := later (B := w.heap.size) HX1.out.below (Nat.le_refl _) hue
          have HBL := Lib.hid hbl
          have HDD := Lib.hid hd
          clear hue hci hpi hre hd hbl
          by_cases k4 : 0 ≤ d ∧ d ≤ 4
          rotate_left
          · have HNO : Hid (¬ PP) := Lib.hid (fun h => k4 (by have h1 := ((HPI.out.1 h).cel.col (ds.getD a []) (by rw [getD_of_lt _ HAL.out]; exact List.getElem_mem HAL.out)).2 _ (List.getElem_mem HBL.out); rw [HDD.out, getD_of_lt _ HBL.out]; exact h1))
            go_wp2_with fail
            refine (spin_no k4 _).mono ?_
            rintro e w' ⟨rfl, rfl⟩
            go_wp2
            go_ret
            exact bb_false HX1.out.below HNO.out
          have HK4 := Lib.hid k4
          go_wp2_with fail
          refine (spin_yes k4 _).mono ?_
          rintro e w' ⟨rfl, rfl⟩
          clear k4
          have HNEW : Hid (∀ b', b' < b + 1 → 0 ≤ (ds.getD a []).getD b' 0 ∧ (ds.getD a []).getD b' 0 ≤ 4) := Lib.hid (fun b' hb' => by
            by_cases e : b' = b
            · subst e; rw [← HDD.out]; exact HK4.out
            · exact HB.out b' (by omega))
          go_wp2
          go_roundw
          case rel => exact ⟨b + 1, by omega, by go_num, (by first | trivial | rfl), HNEW⟩
          case measure => simp [intOf]; omega
        · obtain rfl : b = l3 := by omega
          have HNEW : Hid (∀ a', a' < a + 1 → (ds.getD a' []).length = b ∧ (ac.getD a' []).length = b ∧ (dn.getD a' []).length = b ∧ AllIn 0 4 (ds.getD a' [])) := Lib.hid (fun a' ha' => by
            by_cases e : a' = a
            · subst e
              refine ⟨HL1.out.symm, HL2.out.symm, HL3.out.symm, fun x hx => ?_⟩
              obtain ⟨k, hk, rfl⟩ := List.getElem_of_mem hx
              have := HB.out k (by rw [HL1.out]; exact hk)
              rwa [getD_of_lt _ hk] at this
            · exact HA.out a' (by omega))
          go_wp2
          go_roundw
          case rel => exact ⟨a + 1, by omega, by go_num, (by first | trivial | rfl), HNEW⟩
          case measure => simp [intOf]; omega
    · obtain rfl : a = n4 := by omega
      have hcel : DclOk ds := by
        have h00 := HA.out 0 (by omega)
        refine ⟨by rw [← HM.out]; omega, by rw [← HM.out]; omega, by rw [h00.1]; omega, by rw [h00.1]; omega, fun r hr => ?_⟩
        obtain ⟨k, hk, rfl⟩ := List.getElem_of_mem hr
        have := HA.out k (by rw [HM.out]; exact hk)
        rw [getD_of_lt _ hk] at this
        exact ⟨by rw [this.1, h00.1], this.2.2.2⟩
      have HCEL := Lib.hid hcel
      clear hcel
      have HLL : Hid (∀ a', a' < a → (ds.getD a' []).length = q ∧ (ac.getD a' []).length = q ∧ (dn.getD a' []).length = q) := Lib.hid (fun a' h => ⟨(HA.out a' h).1, (HA.out a' h).2.1, (HA.out a' h).2.2.1⟩)
      have HDIM : Hid (∀ W, Below w1.heap.size w1 W → ∀ x y : Int, -1000 ≤ x ∧ x ≤ 1000 → -1000 ≤ y ∧ y ≤ 1000 → Calls Try.prog 90 #[.agg #[.int .i64 p, .slice (some ⟨bb, o, none⟩) a cd, .slice aa a ca', .slice ae a ce'], .int .i64 x, .int .i64 y] W fun r w' => r = .returned (.int .i64 (dco ds x y)) ∧ Below w1.heap.size w1 w') := Lib.hid (fun W hb x y hx hy => by
        have h0 := (HX1.out.next hb).dx.dims
        exact (l03Dim_any p x y _ _ _ ds W h0 HCEL.out hx hy).mono fun _ _ hh => ⟨hh.1, hb.trans (hh.2.mono hb.size)⟩)
      clear HA
      have hq4 : q ≤ 4 := by omega
      have hq1' : 1 ≤ q := by omega
      go_wp2
      go_loopw [7, 8] (fun i _ wr => ∃ x : Nat, x ≤ a ∧ i = .int .i64 x ∧ Hid (Below w1.heap.size w1 wr) ∧ Hid (∀ c ∈ cellsTo ds ds.length, c.1 < x → DTab p ds ac dn c)) (fun i _ _ => a - (intOf i).toNat)
      case atStart => exact ⟨0, Nat.zero_le _, rfl, Lib.hid (Below.refl _ _), Lib.hid (fun _ _ h => absurd h (Nat.not_lt_zero _))⟩
      case round =>
        obtain ⟨x, hx, rfl, HBwx, HTX⟩ := hrel
        obtain ⟨wx, hwx⟩ : ∃ wx : World, wx = wr := ⟨_, rfl⟩
        subst hwx
        by_cases hltx : x < a
        · have hltx' : (x : Int) < (a : Int) := by omega
          go_wp2
          go_loopw [8] (fun j wr => ∃ y : Nat, y ≤ q ∧ j = .int .i64 y ∧ Hid (Below w1.heap.size w1 wr) ∧ Hid (∀ y', y' < y → DTab p ds ac dn (x, y'))) (fun j _ => q - (intOf j).toNat)
          case atStart => exact ⟨0, Nat.zero_le _, rfl, HBwx, Lib.hid (fun _ h => absurd h (Nat.not_lt_zero _))⟩
          case round =>
            clear HBwx
            obtain ⟨y, hy, rfl, HBwy, HTY⟩ := hrel
            obtain ⟨wy, hwy⟩ : ∃ wy : World, wy = wr := ⟨_, rfl⟩
            subst hwy
            by_cases hlty : y < q
            · have hlty' : (y : Int) < (q : Int) := by omega
              have hal : x < ds.length := by rw [← HM.out]; exact hltx
              have hia : x < ac.length := by rw [← HN1.out]; exact hltx
              have hid : x < dn.length := by rw [← HN4.out]; exact hltx
              obtain ⟨hll1, hll2, hll3⟩ := HLL.out x hltx
              have hc : (x, y) ∈ cellsTo ds ds.length := mem_cells.2 ⟨hal, by dsimp only; rw [hll1]; exact hlty⟩
              have HC := Lib.hid hc
              rw [getD_of_lt _ hal] at hll1
              rw [getD_of_lt _ hia] at hll2
              rw [getD_of_lt _ hid] at hll3
              have hja : y < (ac[x]).length := by rw [hll2]; exact hlty
              have hjd : y < (dn[x]).length := by rw [hll3]; exact hlty
              have hdxy := (HX1.out.next HBwy.out).dx
              have hbz := HBwy.out
              have hzz := hbz.size
              obtain ⟨ba, oa, ca, b2, o2, k2, ut, hva, hA1, hA2, hTl⟩ := l4_at hdxy.across hia hja
              obtain ⟨be, oe, ce, b5, o5, k5, us, hvd, hE1, hE2, hSl⟩ := l4_at hdxy.down hid hjd
              have hT1b : Bd2 1048576 (ac[x])[y] := (HBA.out.2 _ (List.getElem_mem hia)).2 _ (List.getElem_mem hja)
              have hT2b : Bd2 1048576 (dn[x])[y] := (HBV.out.2 _ (List.getElem_mem hid)).2 _ (List.getElem_mem hjd)
              have hTt : (ac[x])[y] = (ac.getD x []).getD y [] := by rw [getD_of_lt _ hia, getD_of_lt _ hja]
              have hTs : (dn[x])[y] = (dn.getD x []).getD y [] := by rw [getD_of_lt _ hid, getD_of_lt _ hjd]
              rw [hTt] at hTl hT1b
              rw [hTs] at hSl hT2b
              rw [hll2] at hA1
              rw [hll3] at hE1
              injection hva with e1 e2 e3
              injection hvd with e4 e5 e6
              have HE1' : Hid (aa = some ⟨ba, oa, none⟩) := Lib.hid e1
              have HE4' : Hid (ae = some ⟨be, oe, none⟩) := Lib.hid e4
              clear e1 e2 e3 e4 e5 e6
              obtain ⟨ta, tc, hut⟩ := Sl.shape hTl
              obtain ⟨sa, sc, hus⟩ := Sl.shape hSl
              obtain ⟨TA, hTA⟩ : ∃ t, t = (ac.getD x []).getD y [] := ⟨_, rfl⟩
              obtain ⟨TD, hTD⟩ : ∃ t, t = (dn.getD x []).getD y [] := ⟨_, rfl⟩
              rw [← hTA] at hTl hT1b hut
              rw [← hTD] at hSl hT2b hus
              obtain ⟨nt, hnt⟩ : ∃ n, n = TA.length := ⟨_, rfl⟩
              obtain ⟨ns, hns⟩ : ∃ n, n = TD.length := ⟨_, rfl⟩
              rw [← hnt] at hut
              rw [← hns] at hus
              subst hut hus
              have HA1 := Lib.hid hA1
              have HA2 := Lib.hid hA2
              have HE1 := Lib.hid hE1
              have HE2 := Lib.hid hE2
              have HTL := Lib.hid hTl
              have HSL := Lib.hid hSl
              have HT1 := Lib.hid hT1b
              have HT2 := Lib.hid hT2b
              obtain ⟨d, hd⟩ : ∃ d, d = (ds.getD x []).getD y 0 := ⟨_, rfl⟩
              obtain ⟨ui, hui, hri⟩ := HCL.out x hal
              have hbl : y < (ds[x]).length := by rw [hll1]; exact hlty
              rcases hri with ⟨hx0, _⟩ | ⟨bi, oi, ci, rfl, _, hpi, hci⟩
              · rw [hx0] at hbl; exact absurd hbl (Nat.not_lt_zero _)
              obtain ⟨ue, hue, hre⟩ := hci y hbl
              have hre' : ue = .int .i64 d := by rw [hd, getD_of_lt _ hal, getD_of_lt _ hbl]; exact hre
              subst hre'
              rw [hll1] at hui
              have HUI : Hid (∀ W, Below wy.heap.size wy W → W.cell? ⟨bb, o + x, none⟩ = some (.slice (some ⟨bi, oi, none⟩) q ci) ∧ W.cell? ⟨bi, oi + y, none⟩ = some (.int .i64 d)) := Lib.hid (fun W hb => ⟨later (HX1.out.below.trans ((HBwy.out.trans (hb.mono hzz)).mono HX1.out.below.size)) (Nat.le_refl _) hui, later (HX1.out.below.trans ((HBwy.out.trans (hb.mono hzz)).mono HX1.out.below.size)) (Nat.le_refl _) hue⟩)
              have hcd := dco_dcl HCEL.out hc
              dsimp only at hcd
              have HDT : Hid (DTab p ds ac dn (x, y) ↔ TabOk p d (dco ds ((x : Int) - 1) y) TA ∧ TabOk p d (dco ds x ((y : Int) - 1)) TD) := Lib.hid (by
                show (TabOk p (dcl ds x y) (dcl ds ((x : Int) - 1) y) ((ac.getD x []).getD y []) ∧ TabOk p (dcl ds x y) (dcl ds x ((y : Int) - 1)) ((dn.getD x []).getD y [])) ↔ _
                rw [hcd.1, hcd.2, hTA, hTD, dcl_nat, hd])
              clear hA1 hA2 hE1 hE2 hTl hSl hT1b hT2b hTt hTs hTA hTD hnt hns hd hui hue hre hci hpi hcd hc hdxy hbl hja hjd hia hid hll1 hll2 hll3 hal
              obtain ⟨dl, hdl⟩ : ∃ z, z = dco ds ((x : Int) - 1) y := ⟨_, rfl⟩
              obtain ⟨db, hdb⟩ : ∃ z, z = dco ds x ((y : Int) - 1) := ⟨_, rfl⟩
              rw [← hdl, ← hdb] at HDT
              have HNZ : Hid (∀ W, Below wy.heap.size wy W → DBx w W w.heap.size p (.slice (some ⟨bb, o, none⟩) a cd) (.slice aa a ca') (.slice ae a ce') ds ac dn ∧ Below w1.heap.size w1 W) := Lib.hid (fun W hb => ⟨HX1.out.next (HBwy.out.trans (hb.mono hzz)), HBwy.out.trans (hb.mono hzz)⟩)
              have HDL : Hid (∀ W, Below wy.heap.size wy W → Calls Try.prog 90 #[.agg #[.int .i64 p, .slice (some ⟨bb, o, none⟩) a cd, .slice aa a ca', .slice ae a ce'], .int .i64 ((x : Int) - 1), .int .i64 (y : Int)] W fun r w' => r = .returned (.int .i64 dl) ∧ Below W.heap.size W w') := Lib.hid (fun W hb => by
                rw [hdl]
                exact l03Dim_any p _ _ _ _ _ ds W (HNZ.out W hb).1.dx.dims HCEL.out ⟨by omega, by omega⟩ ⟨by omega, by omega⟩)
              have HDB : Hid (∀ W, Below wy.heap.size wy W → Calls Try.prog 90 #[.agg #[.int .i64 p, .slice (some ⟨bb, o, none⟩) a cd, .slice aa a ca', .slice ae a ce'], .int .i64 (x : Int), .int .i64 ((y : Int) - 1)] W fun r w' => r = .returned (.int .i64 db) ∧ Below W.heap.size W w') := Lib.hid (fun W hb => by
                rw [hdb]
                exact l03Dim_any p _ _ _ _ _ ds W (HNZ.out W hb).1.dx.dims HCEL.out ⟨by omega, by omega⟩ ⟨by omega, by omega⟩)
              have HTA1 : Hid (∀ W, Below wy.heap.size wy W → Calls Try.prog 89 #[.int .i64 p, .slice ta nt tc, .int .i64 d, .int .i64 dl] W (BW (TabOk p d dl TA) W)) := Lib.hid (fun W hb => l01Table_any p _ _ _ _ W HP.out (HTL.out.below hb) HT1.out)
              have HTD1 : Hid (∀ W, Below wy.heap.size wy W → Calls Try.prog 89 #[.int .i64 p, .slice sa ns sc, .int .i64 d, .int .i64 db] W (BW (TabOk p d db TD) W)) := Lib.hid (fun W hb => l01Table_any p _ _ _ _ W HP.out (HSL.out.below hb) HT2.out)
              clear hdl hdb
              have wi : IntKind.i64.wrap ((x : Int) - 1) = (x : Int) - 1 := IntWalk.i64_in _ (by omega)
              have wj : IntKind.i64.wrap ((y : Int) - 1) = (y : Int) - 1 := IntWalk.i64_in _ (by omega)
              go_upto_region 23 with fail
              refine wp_region_held (S := fun W => Below wy.heap.size wy W) (by kernel_rfl) ?_
              have S0 : Below wy.heap.size wy wy.drew := (Below.refl _ _).drew
              change wpAnyH _ _ _ _ _ _ _ _ wy.drew
              obtain ⟨wd, hwd⟩ : ∃ wd, wd = wy.drew := ⟨_, rfl⟩
              rw [← hwd] at S0 ⊢
              clear hwd
              refine held_take (i := 0) (v := .pointer (some ⟨w.heap.size, 0, none⟩)) (some 107) rfl rfl (by kernel_rfl) (by kernel_rfl) (by kernel_rfl) (fun _ _ _ h => h) (yieldsIf_run0 (by kernel_rfl) (fun W _ => by kernel_rfl)) S0 ?_
              refine held_take (i := 1) (v := .int .i64 p) (some 108) rfl rfl (by kernel_rfl) (by kernel_rfl) (by kernel_rfl) (fun _ _ _ h => h) (yieldsIf_cell (by kernel_rfl) rfl (by kernel_rfl) (fun W h => hloadIn W (HNZ.out W h).1.c0)) S0 ?_
              refine held_take (i := 2) (v := .pointer (some ⟨w.heap.size, 2, none⟩)) (some 109) rfl rfl (by kernel_rfl) (by kernel_rfl) (by kernel_rfl) (fun _ _ _ h => h) (yieldsIf_run0 (by kernel_rfl) (fun W _ => by kernel_rfl)) S0 ?_
              refine held_take (i := 3) (v := .slice aa a ca') (some 110) rfl rfl (by kernel_rfl) (by kernel_rfl) (by kernel_rfl) (fun _ _ _ h => h) (yieldsIf_cell (by kernel_rfl) rfl (by kernel_rfl) (fun W h => hload4 W (HNZ.out W h).1.c2)) S0 ?_
              refine held_take (i := 4) (v := .int .i64 (x : Int)) (some 111) rfl rfl (by kernel_rfl) (by kernel_rfl) (by kernel_rfl) (fun _ _ _ h => h) (yieldsIf_move (by kernel_rfl) rfl (by kernel_rfl)) S0 ?_
              refine held_take (i := 5) (v := .pointer (some ⟨ba, oa + x, none⟩)) (some 112) rfl rfl (by kernel_rfl) (by kernel_rfl) (by kernel_rfl) (fun _ _ _ h => h) (yieldsIf_index (by kernel_rfl) rfl (by kernel_rfl) (by kernel_rfl) (hidx4 (cap := ca') HE1'.out hltx)) S0 ?_
              refine held_take (i := 6) (v := .slice (some ⟨b2, o2, none⟩) q k2) (some 113) rfl rfl (by kernel_rfl) (by kernel_rfl) (by kernel_rfl) (fun _ _ _ h => h) (yieldsIf_cell (by kernel_rfl) rfl (by kernel_rfl) (fun W h => hload3s W (later h (Nat.le_refl _) HA1.out))) S0 ?_
              refine held_take (i := 7) (v := .int .i64 (y : Int)) (some 114) rfl rfl (by kernel_rfl) (by kernel_rfl) (by kernel_rfl) (fun _ _ _ h => h) (yieldsIf_move (by kernel_rfl) rfl (by kernel_rfl)) S0 ?_
              refine held_take (i := 8) (v := .pointer (some ⟨b2, o2 + y, none⟩)) (some 115) rfl rfl (by kernel_rfl) (by kernel_rfl) (by kernel_rfl) (fun _ _ _ h => h) (yieldsIf_index (by kernel_rfl) rfl (by kernel_rfl) (by kernel_rfl) (hidx3 b2 o2 k2 hlty)) S0 ?_
              refine held_take (i := 9) (v := .slice ta nt tc) (some 116) rfl rfl (by kernel_rfl) (by kernel_rfl) (by kernel_rfl) (fun _ _ _ h => h) (yieldsIf_cell (by kernel_rfl) rfl (by kernel_rfl) (fun W h => hload2s W (later h (Nat.le_refl _) HA2.out))) S0 ?_
              refine held_take (i := 10) (v := .pointer (some ⟨w.heap.size, 1, none⟩)) (some 117) rfl rfl (by kernel_rfl) (by kernel_rfl) (by kernel_rfl) (fun _ _ _ h => h) (yieldsIf_run0 (by kernel_rfl) (fun W _ => by kernel_rfl)) S0 ?_
              refine held_take (i := 11) (v := .slice (some ⟨bb, o, none⟩) a cd) (some 118) rfl rfl (by kernel_rfl) (by kernel_rfl) (by kernel_rfl) (fun _ _ _ h => h) (yieldsIf_cell (by kernel_rfl) rfl (by kernel_rfl) (fun W h => hload2s W (HNZ.out W h).1.c1)) S0 ?_
              refine held_take (i := 12) (v := .int .i64 (x : Int)) (some 119) rfl rfl (by kernel_rfl) (by kernel_rfl) (by kernel_rfl) (fun _ _ _ h => h) (yieldsIf_move (by kernel_rfl) rfl (by kernel_rfl)) S0 ?_
              refine held_take (i := 13) (v := .pointer (some ⟨bb, o + x, none⟩)) (some 120) rfl rfl (by kernel_rfl) (by kernel_rfl) (by kernel_rfl) (fun _ _ _ h => h) (yieldsIf_index (by kernel_rfl) rfl (by kernel_rfl) (by kernel_rfl) (hidxS bb o cd hltx)) S0 ?_
              refine held_take (i := 14) (v := .slice (some ⟨bi, oi, none⟩) q ci) (some 121) rfl rfl (by kernel_rfl) (by kernel_rfl) (by kernel_rfl) (fun _ _ _ h => h) (yieldsIf_cell (by kernel_rfl) rfl (by kernel_rfl) (fun W h => hloadD W (HUI.out W h).1)) S0 ?_
              refine held_take (i := 15) (v := .int .i64 (y : Int)) (some 122) rfl rfl (by kernel_rfl) (by kernel_rfl) (by kernel_rfl) (fun _ _ _ h => h) (yieldsIf_move (by kernel_rfl) rfl (by kernel_rfl)) S0 ?_
              refine held_take (i := 16) (v := .pointer (some ⟨bi, oi + y, none⟩)) (some 123) rfl rfl (by kernel_rfl) (by kernel_rfl) (by kernel_rfl) (fun _ _ _ h => h) (yieldsIf_index (by kernel_rfl) rfl (by kernel_rfl) (by kernel_rfl) (hidxI bi oi ci hlty)) S0 ?_
              refine held_take (i := 17) (v := .int .i64 d) (some 124) rfl rfl (by kernel_rfl) (by kernel_rfl) (by kernel_rfl) (fun _ _ _ h => h) (yieldsIf_cell (by kernel_rfl) rfl (by kernel_rfl) (fun W h => hloadIn W (HUI.out W h).2)) S0 ?_
              refine held_take (i := 18) (v := .agg #[.int .i64 p, .slice (some ⟨bb, o, none⟩) a cd, .slice aa a ca', .slice ae a ce']) (some 125) rfl rfl (by kernel_rfl) (by kernel_rfl) (by kernel_rfl) (fun _ _ _ h => h) (yieldsIf_cell (by kernel_rfl) rfl (by kernel_rfl) (fun W h => hloadDb W (HNZ.out W h).1)) S0 ?_
              refine held_take (i := 19) (v := .int .i64 (x : Int)) (some 126) rfl rfl (by kernel_rfl) (by kernel_rfl) (by kernel_rfl) (fun _ _ _ h => h) (yieldsIf_move (by kernel_rfl) rfl (by kernel_rfl)) S0 ?_
              refine held_take (i := 20) (v := .int .i64 ((x : Int) - 1)) (some 127) rfl rfl (by kernel_rfl) (by kernel_rfl) (by kernel_rfl) (fun _ _ _ h => h) (yieldsIf_bin (by kernel_rfl) rfl (by kernel_rfl) (by kernel_rfl) (fun _ => rfl) (hsubA wi)) S0 ?_
              refine held_take (i := 21) (v := .int .i64 (y : Int)) (some 128) rfl rfl (by kernel_rfl) (by kernel_rfl) (by kernel_rfl) (fun _ _ _ h => h) (yieldsIf_move (by kernel_rfl) rfl (by kernel_rfl)) S0 ?_
              refine held_enter (i := 22) (some 129) (f := 90) (args := #[.agg #[.int .i64 p, .slice (some ⟨bb, o, none⟩) a cd, .slice aa a ca', .slice ae a ce'], .int .i64 ((x : Int) - 1), .int .i64 (y : Int)]) (by kernel_rfl) rfl rfl rfl (by kernel_rfl) (HDL.out _ S0) ?_ (fun c w' h => by cases h.1) (fun w' h => by cases h.1)
              rintro e3 W3 ⟨he3, hb3⟩
              injection he3 with he3
              subst he3
              have S1 : Below wy.heap.size wy W3 := S0.trans (hb3.mono S0.size)
              refine ⟨S1, ?_⟩
              refine held_enter (i := 23) (some 130) (f := 89) (args := #[.int .i64 p, .slice ta nt tc, .int .i64 d, .int .i64 dl]) (by kernel_rfl) rfl rfl rfl (by kernel_rfl) (HTA1.out _ S1) ?_ (fun c w' h => by obtain ⟨_, h, _⟩ := h; cases h) (fun w' h => by obtain ⟨_, h, _⟩ := h; cases h)
              rintro e4 W4 ⟨t1, he4, hw4, ht1⟩
              injection he4 with he4
              subst he4
              subst hw4
              refine ⟨S1, ?_⟩
              have HT1B := Lib.hid ht1
              clear ht1
              cases t1
              · refine held_take (i := 24) (v := .bool true) (some 131) rfl rfl (by kernel_rfl) (by kernel_rfl) (by kernel_rfl) (fun _ _ _ h => h) (yieldsIf_run0 (by kernel_rfl) (fun W _ => by kernel_rfl)) S1 ?_
                refine held_take (i := 25) (v := .bool true) (some 132) rfl rfl (by kernel_rfl) (by kernel_rfl) (by kernel_rfl) (fun _ _ _ h => h) (yieldsIf_move (by kernel_rfl) rfl (by kernel_rfl)) S1 ?_
                refine held_skip0 (i := 26) (some 133) rfl rfl (by kernel_rfl) (by kernel_rfl) (by kernel_rfl) (fun _ _ _ h => h) (by kernel_rfl) S1 ?_
                refine held_skip0 (i := 27) (some 134) rfl rfl (by kernel_rfl) (by kernel_rfl) (by kernel_rfl) (fun _ _ _ h => h) (by kernel_rfl) S1 ?_
                refine held_skip0 (i := 28) (some 135) rfl rfl (by kernel_rfl) (by kernel_rfl) (by kernel_rfl) (fun _ _ _ h => h) (by kernel_rfl) S1 ?_
                refine held_skip0 (i := 29) (some 136) rfl rfl (by kernel_rfl) (by kernel_rfl) (by kernel_rfl) (fun _ _ _ h => h) (by kernel_rfl) S1 ?_
                refine held_skip0 (i := 30) (some 137) rfl rfl (by kernel_rfl) (by kernel_rfl) (by kernel_rfl) (fun _ _ _ h => h) (by kernel_rfl) S1 ?_
                refine held_skip0 (i := 31) (some 138) rfl rfl (by kernel_rfl) (by kernel_rfl) (by kernel_rfl) (fun _ _ _ h => h) (by kernel_rfl) S1 ?_
                refine held_skip0 (i := 32) (some 139) rfl rfl (by kernel_rfl) (by kernel_rfl) (by kernel_rfl) (fun _ _ _ h => h) (by kernel_rfl) S1 ?_
                refine held_skip0 (i := 33) (some 140) rfl rfl (by kernel_rfl) (by kernel_rfl) (by kernel_rfl) (fun _ _ _ h => h) (by kernel_rfl) S1 ?_
                refine held_skip0 (i := 34) (some 141) rfl rfl (by kernel_rfl) (by kernel_rfl) (by kernel_rfl) (fun _ _ _ h => h) (by kernel_rfl) S1 ?_
                refine held_skip0 (i := 35) (some 142) rfl rfl (by kernel_rfl) (by kernel_rfl) (by kernel_rfl) (fun _ _ _ h => h) (by kernel_rfl) S1 ?_
                refine held_skip0 (i := 36) (some 143) rfl rfl (by kernel_rfl) (by kernel_rfl) (by kernel_rfl) (fun _ _ _ h => h) (by kernel_rfl) S1 ?_
                refine held_skip0 (i := 37) (some 144) rfl rfl (by kernel_rfl) (by kernel_rfl) (by kernel_rfl) (fun _ _ _ h => h) (by kernel_rfl) S1 ?_
                refine held_skip0 (i := 38) (some 145) rfl rfl (by kernel_rfl) (by kernel_rfl) (by kernel_rfl) (fun _ _ _ h => h) (by kernel_rfl) S1 ?_
                refine held_skip0 (i := 39) (some 146) rfl rfl (by kernel_rfl) (by kernel_rfl) (by kernel_rfl) (fun _ _ _ h => h) (by kernel_rfl) S1 ?_
                refine held_skip0 (i := 40) (some 147) rfl rfl (by kernel_rfl) (by kernel_rfl) (by kernel_rfl) (fun _ _ _ h => h) (by kernel_rfl) S1 ?_
                refine held_skip0 (i := 41) (some 148) rfl rfl (by kernel_rfl) (by kernel_rfl) (by kernel_rfl) (fun _ _ _ h => h) (by kernel_rfl) S1 ?_
                refine held_skip0 (i := 42) (some 149) rfl rfl (by kernel_rfl) (by kernel_rfl) (by kernel_rfl) (fun _ _ _ h => h) (by kernel_rfl) S1 ?_
                refine held_skip0 (i := 43) (some 150) rfl rfl (by kernel_rfl) (by kernel_rfl) (by kernel_rfl) (fun _ _ _ h => h) (by kernel_rfl) S1 ?_
                refine held_skip0 (i := 44) (some 151) rfl rfl (by kernel_rfl) (by kernel_rfl) (by kernel_rfl) (fun _ _ _ h => h) (by kernel_rfl) S1 ?_
                refine held_skip0 (i := 45) (some 152) rfl rfl (by kernel_rfl) (by kernel_rfl) (by kernel_rfl) (fun _ _ _ h => h) (by kernel_rfl) S1 ?_
                refine held_skip0 (i := 46) (some 153) rfl rfl (by kernel_rfl) (by kernel_rfl) (by kernel_rfl) (fun _ _ _ h => h) (by kernel_rfl) S1 ?_
                refine held_skip0 (i := 47) (some 154) rfl rfl (by kernel_rfl) (by kernel_rfl) (by kernel_rfl) (fun _ _ _ h => h) (by kernel_rfl) S1 ?_
                refine held_skip0 (i := 48) (some 155) rfl rfl (by kernel_rfl) (by kernel_rfl) (by kernel_rfl) (fun _ _ _ h => h) (by kernel_rfl) S1 ?_
                refine held_skip0 (i := 49) (some 156) rfl rfl (by kernel_rfl) (by kernel_rfl) (by kernel_rfl) (fun _ _ _ h => h) (by kernel_rfl) S1 ?_
                refine held_skip0 (i := 50) (some 157) rfl rfl (by kernel_rfl) (by kernel_rfl) (by kernel_rfl) (fun _ _ _ h => h) (by kernel_rfl) S1 ?_
                refine held_take (i := 51) (v := .bool true) (some 158) rfl rfl (by kernel_rfl) (by kernel_rfl) (by kernel_rfl) (fun _ _ _ h => h) (yieldsIf_run0 (by kernel_rfl) (fun W _ => by kernel_rfl)) S1 ?_
                refine wpAnyH_done (by kernel_rfl) ?_ _
                simp only [Act.put, List.setIfInBounds_toArray, List.set_cons_zero, List.set_cons_succ]
                have HS1 := Lib.hid (HNZ.out _ S1).2
                have HNO : Hid (¬ PP) := Lib.hid (fun h => by have h1 := HDT.out.1 ((HPI.out.1 h).tbs.tab _ HC.out); exact absurd (HT1B.out.2 h1.1) (by simp))
                clear S0 S1 hb3
                go_wp2
                go_ret
                exact bb_false (HX1.out.below.trans (HS1.out.mono HX1.out.below.size)) HNO.out
              · refine held_take (i := 24) (v := .bool false) (some 131) rfl rfl (by kernel_rfl) (by kernel_rfl) (by kernel_rfl) (fun _ _ _ h => h) (yieldsIf_run0 (by kernel_rfl) (fun W _ => by kernel_rfl)) S1 ?_
                refine held_take (i := 25) (v := .bool false) (some 132) rfl rfl (by kernel_rfl) (by kernel_rfl) (by kernel_rfl) (fun _ _ _ h => h) (yieldsIf_move (by kernel_rfl) rfl (by kernel_rfl)) S1 ?_
                refine held_take (i := 26) (v := .pointer (some ⟨w.heap.size, 0, none⟩)) (some 133) rfl rfl (by kernel_rfl) (by kernel_rfl) (by kernel_rfl) (fun _ _ _ h => h) (yieldsIf_runG (by kernel_rfl) (fun W _ => by kernel_rfl)) S1 ?_
                refine held_take (i := 27) (v := .int .i64 p) (some 134) rfl rfl (by kernel_rfl) (by kernel_rfl) (by kernel_rfl) (fun _ _ _ h => h) (yieldsIf_cellG (by kernel_rfl) rfl (by kernel_rfl) (fun W h => hloadIn W (HNZ.out W h).1.c0)) S1 ?_
                refine held_take (i := 28) (v := .pointer (some ⟨w.heap.size, 3, none⟩)) (some 135) rfl rfl (by kernel_rfl) (by kernel_rfl) (by kernel_rfl) (fun _ _ _ h => h) (yieldsIf_runG (by kernel_rfl) (fun W _ => by kernel_rfl)) S1 ?_
                refine held_take (i := 29) (v := .slice ae a ce') (some 136) rfl rfl (by kernel_rfl) (by kernel_rfl) (by kernel_rfl) (fun _ _ _ h => h) (yieldsIf_cellG (by kernel_rfl) rfl (by kernel_rfl) (fun W h => hload4 W (HNZ.out W h).1.c3)) S1 ?_
                refine held_take (i := 30) (v := .int .i64 (x : Int)) (some 137) rfl rfl (by kernel_rfl) (by kernel_rfl) (by kernel_rfl) (fun _ _ _ h => h) (yieldsIf_runG (by kernel_rfl) (fun W _ => by kernel_rfl)) S1 ?_
                refine held_take (i := 31) (v := .pointer (some ⟨be, oe + x, none⟩)) (some 138) rfl rfl (by kernel_rfl) (by kernel_rfl) (by kernel_rfl) (fun _ _ _ h => h) (yieldsIf_indexD (by kernel_rfl) rfl (by kernel_rfl) (by kernel_rfl) (hidx4 (cap := ce') HE4'.out hltx)) S1 ?_
                refine held_take (i := 32) (v := .slice (some ⟨b5, o5, none⟩) q k5) (some 139) rfl rfl (by kernel_rfl) (by kernel_rfl) (by kernel_rfl) (fun _ _ _ h => h) (yieldsIf_cellG (by kernel_rfl) rfl (by kernel_rfl) (fun W h => hload3s W (later h (Nat.le_refl _) HE1.out))) S1 ?_
                refine held_take (i := 33) (v := .int .i64 (y : Int)) (some 140) rfl rfl (by kernel_rfl) (by kernel_rfl) (by kernel_rfl) (fun _ _ _ h => h) (yieldsIf_runG (by kernel_rfl) (fun W _ => by kernel_rfl)) S1 ?_
                refine held_take (i := 34) (v := .pointer (some ⟨b5, o5 + y, none⟩)) (some 141) rfl rfl (by kernel_rfl) (by kernel_rfl) (by kernel_rfl) (fun _ _ _ h => h) (yieldsIf_indexD (by kernel_rfl) rfl (by kernel_rfl) (by kernel_rfl) (hidx3 b5 o5 k5 hlty)) S1 ?_
                refine held_take (i := 35) (v := .slice sa ns sc) (some 142) rfl rfl (by kernel_rfl) (by kernel_rfl) (by kernel_rfl) (fun _ _ _ h => h) (yieldsIf_cellG (by kernel_rfl) rfl (by kernel_rfl) (fun W h => hload2s W (later h (Nat.le_refl _) HE2.out))) S1 ?_
                refine held_take (i := 36) (v := .pointer (some ⟨w.heap.size, 1, none⟩)) (some 143) rfl rfl (by kernel_rfl) (by kernel_rfl) (by kernel_rfl) (fun _ _ _ h => h) (yieldsIf_runG (by kernel_rfl) (fun W _ => by kernel_rfl)) S1 ?_
                refine held_take (i := 37) (v := .slice (some ⟨bb, o, none⟩) a cd) (some 144) rfl rfl (by kernel_rfl) (by kernel_rfl) (by kernel_rfl) (fun _ _ _ h => h) (yieldsIf_cellG (by kernel_rfl) rfl (by kernel_rfl) (fun W h => hload2s W (HNZ.out W h).1.c1)) S1 ?_
                refine held_take (i := 38) (v := .int .i64 (x : Int)) (some 145) rfl rfl (by kernel_rfl) (by kernel_rfl) (by kernel_rfl) (fun _ _ _ h => h) (yieldsIf_runG (by kernel_rfl) (fun W _ => by kernel_rfl)) S1 ?_
                refine held_take (i := 39) (v := .pointer (some ⟨bb, o + x, none⟩)) (some 146) rfl rfl (by kernel_rfl) (by kernel_rfl) (by kernel_rfl) (fun _ _ _ h => h) (yieldsIf_indexD (by kernel_rfl) rfl (by kernel_rfl) (by kernel_rfl) (hidxS bb o cd hltx)) S1 ?_
                refine held_take (i := 40) (v := .slice (some ⟨bi, oi, none⟩) q ci) (some 147) rfl rfl (by kernel_rfl) (by kernel_rfl) (by kernel_rfl) (fun _ _ _ h => h) (yieldsIf_cellG (by kernel_rfl) rfl (by kernel_rfl) (fun W h => hloadD W (HUI.out W h).1)) S1 ?_
                refine held_take (i := 41) (v := .int .i64 (y : Int)) (some 148) rfl rfl (by kernel_rfl) (by kernel_rfl) (by kernel_rfl) (fun _ _ _ h => h) (yieldsIf_runG (by kernel_rfl) (fun W _ => by kernel_rfl)) S1 ?_
                refine held_take (i := 42) (v := .pointer (some ⟨bi, oi + y, none⟩)) (some 149) rfl rfl (by kernel_rfl) (by kernel_rfl) (by kernel_rfl) (fun _ _ _ h => h) (yieldsIf_indexD (by kernel_rfl) rfl (by kernel_rfl) (by kernel_rfl) (hidxI bi oi ci hlty)) S1 ?_
                refine held_take (i := 43) (v := .int .i64 d) (some 150) rfl rfl (by kernel_rfl) (by kernel_rfl) (by kernel_rfl) (fun _ _ _ h => h) (yieldsIf_cellG (by kernel_rfl) rfl (by kernel_rfl) (fun W h => hloadIn W (HUI.out W h).2)) S1 ?_
                refine held_take (i := 44) (v := .agg #[.int .i64 p, .slice (some ⟨bb, o, none⟩) a cd, .slice aa a ca', .slice ae a ce']) (some 151) rfl rfl (by kernel_rfl) (by kernel_rfl) (by kernel_rfl) (fun _ _ _ h => h) (yieldsIf_cellG (by kernel_rfl) rfl (by kernel_rfl) (fun W h => hloadDb W (HNZ.out W h).1)) S1 ?_
                refine held_take (i := 45) (v := .int .i64 (x : Int)) (some 152) rfl rfl (by kernel_rfl) (by kernel_rfl) (by kernel_rfl) (fun _ _ _ h => h) (yieldsIf_runG (by kernel_rfl) (fun W _ => by kernel_rfl)) S1 ?_
                refine held_take (i := 46) (v := .int .i64 (y : Int)) (some 153) rfl rfl (by kernel_rfl) (by kernel_rfl) (by kernel_rfl) (fun _ _ _ h => h) (yieldsIf_runG (by kernel_rfl) (fun W _ => by kernel_rfl)) S1 ?_
                refine held_take (i := 47) (v := .int .i64 ((y : Int) - 1)) (some 154) rfl rfl (by kernel_rfl) (by kernel_rfl) (by kernel_rfl) (fun _ _ _ h => h) (yieldsIf_binG (by kernel_rfl) rfl (by kernel_rfl) (by kernel_rfl) (fun _ => by kernel_rfl) (hsubA wj)) S1 ?_
                refine held_enterG (i := 48) (some 155) (f := 90) (args := #[.agg #[.int .i64 p, .slice (some ⟨bb, o, none⟩) a cd, .slice aa a ca', .slice ae a ce'], .int .i64 (x : Int), .int .i64 ((y : Int) - 1)]) (by kernel_rfl) rfl (by kernel_rfl) rfl (by kernel_rfl) (HDB.out _ S1) ?_ (fun c w' h => by cases h.1) (fun w' h => by cases h.1)
                rintro e5 W5 ⟨he5, hb5⟩
                injection he5 with he5
                subst he5
                have S2 : Below wy.heap.size wy W5 := S1.trans (hb5.mono S1.size)
                refine ⟨S2, ?_⟩
                refine held_enterG (i := 49) (some 156) (f := 89) (args := #[.int .i64 p, .slice sa ns sc, .int .i64 d, .int .i64 db]) (by kernel_rfl) rfl (by kernel_rfl) rfl (by kernel_rfl) (HTD1.out _ S2) ?_ (fun c w' h => by obtain ⟨_, h, _⟩ := h; cases h) (fun w' h => by obtain ⟨_, h, _⟩ := h; cases h)
                rintro e6 W6 ⟨t2, he6, hw6, ht2⟩
                injection he6 with he6
                subst he6
                subst hw6
                refine ⟨S2, ?_⟩
                have HT2B := Lib.hid ht2
                clear ht2
                cases t2
                · refine held_take (i := 50) (v := .bool true) (some 157) rfl rfl (by kernel_rfl) (by kernel_rfl) (by kernel_rfl) (fun _ _ _ h => h) (yieldsIf_runG (by kernel_rfl) (fun W _ => by kernel_rfl)) S2 ?_
                  refine held_take (i := 51) (v := .bool true) (some 158) rfl rfl (by kernel_rfl) (by kernel_rfl) (by kernel_rfl) (fun _ _ _ h => h) (yieldsIf_run0 (by kernel_rfl) (fun W _ => by kernel_rfl)) S2 ?_
                  refine wpAnyH_done (by kernel_rfl) ?_ _
                  simp only [Act.put, List.setIfInBounds_toArray, List.set_cons_zero, List.set_cons_succ]
                  have HS1 := Lib.hid (HNZ.out _ S2).2
                  have HNO : Hid (¬ PP) := Lib.hid (fun h => by have h1 := HDT.out.1 ((HPI.out.1 h).tbs.tab _ HC.out); exact absurd (HT2B.out.2 h1.2) (by simp))
                  clear S0 S1 S2 hb3 hb5
                  go_wp2
                  go_ret
                  exact bb_false (HX1.out.below.trans (HS1.out.mono HX1.out.below.size)) HNO.out
                · refine held_take (i := 50) (v := .bool false) (some 157) rfl rfl (by kernel_rfl) (by kernel_rfl) (by kernel_rfl) (fun _ _ _ h => h) (yieldsIf_runG (by kernel_rfl) (fun W _ => by kernel_rfl)) S2 ?_
                  refine held_take (i := 51) (v := .bool false) (some 158) rfl rfl (by kernel_rfl) (by kernel_rfl) (by kernel_rfl) (fun _ _ _ h => h) (yieldsIf_run0 (by kernel_rfl) (fun W _ => by kernel_rfl)) S2 ?_
                  refine wpAnyH_done (by kernel_rfl) ?_ _
                  simp only [Act.put, List.setIfInBounds_toArray, List.set_cons_zero, List.set_cons_succ]
                  have HS1 := Lib.hid (HNZ.out _ S2).2
                  have HNEW : Hid (∀ y', y' < y + 1 → DTab p ds ac dn (x, y')) := Lib.hid (fun y' hy' => by
                    by_cases e : y' = y
                    · subst e; exact HDT.out.2 ⟨HT1B.out.1 (by simp), HT2B.out.1 (by simp)⟩
                    · exact HTY.out y' (by omega))
                  clear S0 S1 S2 hb3 hb5
                  go_wp2
                  go_roundw
                  case rel => exact ⟨y + 1, by omega, by go_num, HS1, HNEW⟩
                  case measure => simp [intOf]; omega
            · obtain rfl : y = q := by omega
              have HNEW : Hid (∀ c ∈ cellsTo ds ds.length, c.1 < x + 1 → DTab p ds ac dn c) := Lib.hid (fun c hc hca => by
                by_cases e : c.1 = x
                · obtain ⟨c1', c2'⟩ := c
                  dsimp only at e
                  subst e
                  refine HTY.out c2' ?_
                  have h1 := mem_cells.1 hc
                  dsimp only at h1
                  rw [(HLL.out c1' hltx).1] at h1
                  exact h1.2
                · exact HTX.out c hc (by omega))
              go_wp2
              go_roundw
              case rel => exact ⟨x + 1, by omega, by go_num, HBwy, HNEW⟩
              case measure => simp [intOf]; omega
        · obtain rfl : x = a := by omega
          have HTB : Hid (TbsOk p ds ac dn) := Lib.hid ⟨by rw [← HN1.out]; exact HM.out, by rw [← HN4.out]; exact HM.out, fun i hi => by rw [← HM.out] at hi; rw [(HLL.out i hi).2.1, (HLL.out i hi).1], fun i hi => by rw [← HM.out] at hi; rw [(HLL.out i hi).2.2, (HLL.out i hi).1], fun c hc => HTX.out c hc (by rw [HM.out]; exact (mem_cells.1 hc).1)⟩
          have hxn := HX1.out.next HBwx.out
          have HXN := Lib.hid hxn
          have c0 := hxn.c0
          have c1 := hxn.c1
          have c2 := hxn.c2
          have c3 := hxn.c3
          clear hxn
          go_wp2_with fail
          refine (l03Square_any p HP.out _ _ _ ds ac dn _ HXN.out.dx HCEL.out HTB.out).mono ?_
          rintro e w' ⟨bq, rfl, hbq, hq2⟩
          have HBQ := Lib.hid hbq
          have HQ2 := Lib.hid hq2
          clear hbq hq2 c0 c1 c2 c3
          go_wp2
          go_ret
          exact ⟨bq, rfl, HXN.out.below.trans (HBQ.out.mono HXN.out.below.size), HQ2.out.trans ((sq_iff HP.out HCEL.out HTB.out).trans ⟨fun h => HPI.out.2 ⟨HP.out, HCEL.out, HTB.out, h⟩, fun h => (HPI.out.1 h).cnd⟩)⟩

end Go.Proofs.Ytlopenephgabhaa


namespace Go.Proofs.Ytlopenephgabhaa
open Go.RowKit

def Z4 : Array Value := #[.int .i64 0, .slice none 0 0, .slice none 0 0, .slice none 0 0]
/-- What l03Total answers. -/
def TtR (b : Bool) (p : Int) (ds : List (List Int)) (ac dn : List (List (List (List Int)))) (w : World) (e : Ending) (w' : World) : Prop :=
  Below w.heap.size w w' ∧ ((Exc (tD ds) ∧ e = .returned (.tuple #[.agg #[.int .i64 0, .slice none 0 0, .slice none 0 0, .slice none 0 0], .bool false])) ∨
    (¬ Exc (tD ds) ∧ ∃ dv mv lv, e = .returned (.tuple #[.agg #[.int .i64 p, dv, mv, lv], .bool true]) ∧ Gb w.heap.size w' dv (tD ds) ∧ Gt w.heap.size w' mv (tM ds ac dn) ∧ Gs w.heap.size w' lv (tL b ds)))
theorem l2_row {W : World} {u : Value} {t : List (List Int)} {y : Nat} (h : L2 0 W u t) (hy : y < t.length) : ∃ bt ot ct ur, u = .slice (some ⟨bt, ot, none⟩) t.length ct ∧ W.cell? ⟨bt, ot + y, none⟩ = some ur ∧ L1 0 W ur (t.getD y []) := by
  rcases h with ⟨hx, _⟩ | ⟨bb, o, cd, rfl, _, _, hcl⟩
  · exact absurd (hx ▸ hy) (Nat.not_lt_zero _)
  obtain ⟨u1, hu1, hr1⟩ := hcl y hy
  exact ⟨bb, o, cd, u1, rfl, hu1, by rw [getD_of_lt _ hy]; exact hr1⟩
theorem infoFl (a b c d : Value) : (Try.prog.info? 50).map (·.size) = some (#[a, b, c, d] : Array Value).size := by kernel_rfl

theorem tt_keep {W : World} {base base' g : Nat} {c z : Array Value} {v vm vl : Value} {xs : List Int} {ts : List (List (List Int))} {ls : List (List Int)} (hg : Rz W g 50 z) (h1 : Gb base W v xs) (h2 : Gt base W vm ts) (h3 : Gs base W vl ls) (hb : base' ≤ base) : Gb base' (W.setRow g c) v xs ∧ Gt base' (W.setRow g c) vm ts ∧ Gs base' (W.setRow g c) vl ls :=
  ⟨(h1.offRowC hg (by decide) c).mono hb, (h2.offRowC hg (by decide) c).mono hb, (h3.offRowC hg (by decide) c).mono hb⟩

set_option maxHeartbeats 51200000 in
set_option maxRecDepth 100000 in
theorem l03TotalF_any (p : Int) (dv av vv : Value) (ds : List (List Int)) (ac dn : List (List (List (List Int)))) (w : World) (h : Dx 0 w dv av vv ds ac dn) (hdb : IsDb p ds ac dn) :
    Calls Try.prog 70 #[.agg #[.int .i64 p, dv, av, vv], .bool false] w (TtR false p ds ac dn w) := by
  have hres : Try.f70.results = #[.cell 4 50, .tmp 5] := by kernel_rfl
  have HRES := Lib.hid hres
  have HDB := Lib.hid hdb
  have HOK := Lib.hid hdb.cel
  have HTB := Lib.hid hdb.tbs
  have hm4 := hdb.cel.len1
  have hm1 := hdb.cel.len0
  have hq1 := hdb.cel.h0
  have hq4 := hdb.cel.h1
  have HX := Lib.hid h
  rcases h.dims with ⟨hx, _⟩ | ⟨bb, o, cd, rfl, _, hpos, hcl⟩
  · subst hx; simp at hm1
  obtain ⟨u0, hu0, hr0⟩ := hcl 0 hpos
  rw [Nat.add_zero] at hu0
  obtain ⟨a0, z0, rfl⟩ := Sl.shape hr0
  rw [← getD_of_lt [] hpos] at hu0
  clear hcl hr0 h hdb hres
  obtain ⟨va, hva⟩ : ∃ v, v = av := ⟨_, rfl⟩
  obtain ⟨ad2, cd2, rfl⟩ := Sl.shape HX.out.across
  obtain ⟨ad3, cd3, rfl⟩ := Sl.shape HX.out.down
  clear hva va
  have HLA := Lib.hid HTB.out.la
  have HLD := Lib.hid HTB.out.ld
  obtain ⟨m, hm⟩ : ∃ m, m = ds.length := ⟨_, rfl⟩
  rw [HTB.out.la, HTB.out.ld, ← hm] at HX ⊢
  obtain ⟨hh, hhh⟩ : ∃ q, q = (ds.getD 0 []).length := ⟨_, rfl⟩
  obtain ⟨top, htop⟩ : ∃ t, t = ttop ds := ⟨_, rfl⟩
  have hmh : m + hh = top + 2 := by rw [htop]; unfold ttop; omega
  have HTOP := Lib.hid htop
  rw [← hm] at hm4 hm1 hpos
  rw [← hhh] at hq1 hq4 hu0
  obtain ⟨wa, hwa⟩ : ∃ wa, wa = w.alloc (.cells #[.int .i64 p, .slice (some ⟨bb, o, none⟩) m cd, .slice ad2 m cd2, .slice ad3 m cd3] 28) := ⟨_, rfl⟩
  obtain ⟨wi, hwi⟩ : ∃ wi, wi = wa.alloc (.cells #[.int .i64 0, .slice none 0 0, .slice none 0 0, .slice none 0 0] 50) := ⟨_, rfl⟩
  obtain ⟨w1, hw1⟩ : ∃ w1, w1 = wi.drew := ⟨_, rfl⟩
  have hsa : wa.heap.size = w.heap.size + 1 := by rw [hwa]; simp
  have hs1 : w.heap.size + 2 ≤ w1.heap.size := by rw [hw1]; show _ ≤ wi.heap.size; rw [hwi]; simp [hsa]
  have hba : Below wa.heap.size wa w1 := by rw [hw1, hwi]; exact (below_alloc1 _ _).drew
  have hxa : DBx w wa w.heap.size p (.slice (some ⟨bb, o, none⟩) m cd) (.slice ad2 m cd2) (.slice ad3 m cd3) ds ac dn := by rw [hwa]; exact DBx.start 28 HX.out
  have HX1 := Lib.hid (hxa.next hba)
  have hu1 := later HX1.out.below (Nat.le_refl _) hu0
  have HU1 := Lib.hid hu1
  have HR0 : Hid (Rz w1 (w.heap.size + 1) 50 Z4) := Lib.hid (by have h0 : Rz wi (w.heap.size + 1) 50 Z4 := (by rw [hwi, ← hsa]; exact Rz.new _ _ _); rw [hw1]; exact h0.next (Below.refl _ _).drew)
  have HM := Lib.hid hm
  have HQ := Lib.hid hhh
  have HNX : Hid (∀ W, Below w1.heap.size w1 W → DBx w W w.heap.size p (.slice (some ⟨bb, o, none⟩) m cd) (.slice ad2 m cd2) (.slice ad3 m cd3) ds ac dn ∧ W.cell? ⟨bb, o, none⟩ = some (.slice a0 hh z0) ∧ Rz W (w.heap.size + 1) 50 Z4) := Lib.hid (fun W hb => ⟨HX1.out.next hb, later hb (Nat.le_refl _) HU1.out, HR0.out.next hb⟩)
  have HW0 : Hid (∀ W, Below w1.heap.size w1 W → Below w.heap.size w W) := Lib.hid (fun W hb => (HNX.out W hb).1.below)
  have HDIM : Hid (∀ W, Below w1.heap.size w1 W → ∀ n x : Nat, n ≤ 100 → x ≤ n → Calls Try.prog 90 #[.agg #[.int .i64 p, .slice (some ⟨bb, o, none⟩) m cd, .slice ad2 m cd2, .slice ad3 m cd3], .int .i64 (x : Int), .int .i64 ((n : Int) - (x : Int))] W fun r w' => r = .returned (.int .i64 ((tgD ds n x : Nat) : Int)) ∧ Below W.heap.size W w') := Lib.hid (fun W hb n x hn hx => by
    have h0 := l03Dim_any p (x : Int) ((n : Int) - (x : Int)) _ (.slice ad2 m cd2) (.slice ad3 m cd3) ds W (HNX.out W hb).1.dx.dims HOK.out (by omega) (by omega)
    rwa [show (n : Int) - (x : Int) = ((n - x : Nat) : Int) by omega, tg_dco HOK.out n x, show ((n - x : Nat) : Int) = (n : Int) - (x : Int) by omega] at h0)
  have c0 := HX1.out.c0
  have c1 := HX1.out.c1
  have c2 := HX1.out.c2
  have c3 := HX1.out.c3
  have hwp1 : IntKind.i64.wrap ((m : Int) + (hh : Int)) = (m : Int) + (hh : Int) := IntWalk.i64_in _ (by omega)
  have hwp2 : IntKind.i64.wrap ((m : Int) + (hh : Int) - 2) = (m : Int) + (hh : Int) - 2 := IntWalk.i64_in _ (by omega)
  clear hm hhh hxa hba hu0 htop
  go_enter Try.func70, Try.ntmps70
  go_upto_region 1 with fail
  rw [← hwa, ← hwi]
  refine wp_region_held (S := fun W => Below w1.heap.size w1 W) (by kernel_rfl) ?_
  change wpAnyH _ _ _ _ _ _ _ _ wi.drew
  rw [← hw1]
  have S0 : Below w1.heap.size w1 w1 := Below.refl _ _
  refine held_take (i := 0) (v := .pointer (some ⟨w.heap.size, 1, none⟩)) (some 17) rfl rfl (by kernel_rfl) (by kernel_rfl) (by kernel_rfl) (fun _ _ _ h => h) (yieldsIf_run (by kernel_rfl) (fun W _ => by kernel_rfl)) S0 ?_
  refine held_take (i := 1) (v := (.slice (some ⟨bb, o, none⟩) m cd)) (some 18) rfl rfl (by kernel_rfl) (by kernel_rfl) (by kernel_rfl) (fun _ _ _ h => h) (yieldsIf_cell (by kernel_rfl) rfl (by kernel_rfl) (fun W h => hload2s W (HNX.out W h).1.c1)) S0 ?_
  refine held_take (i := 2) (v := (.int .i64 (m : Int))) (some 19) rfl rfl (by kernel_rfl) (by kernel_rfl) (by kernel_rfl) (fun _ _ _ h => h) (yieldsIf_run (by kernel_rfl) (fun W _ => by kernel_rfl)) S0 ?_
  refine held_take (i := 3) (v := .pointer (some ⟨w.heap.size, 1, none⟩)) (some 20) rfl rfl (by kernel_rfl) (by kernel_rfl) (by kernel_rfl) (fun _ _ _ h => h) (yieldsIf_run (by kernel_rfl) (fun W _ => by kernel_rfl)) S0 ?_
  refine held_take (i := 4) (v := (.slice (some ⟨bb, o, none⟩) m cd)) (some 21) rfl rfl (by kernel_rfl) (by kernel_rfl) (by kernel_rfl) (fun _ _ _ h => h) (yieldsIf_cell (by kernel_rfl) rfl (by kernel_rfl) (fun W h => hload2s W (HNX.out W h).1.c1)) S0 ?_
  refine held_take (i := 5) (v := .pointer (some ⟨bb, o + 0, none⟩)) (some 22) rfl rfl (by kernel_rfl) (by kernel_rfl) (by kernel_rfl) (fun _ _ _ h => h) (yieldsIf_index (by kernel_rfl) rfl (by kernel_rfl) (by kernel_rfl) (hidxS bb o cd (k := 0) hpos)) S0 ?_
  refine held_take (i := 6) (v := (.slice a0 hh z0)) (some 23) rfl rfl (by kernel_rfl) (by kernel_rfl) (by kernel_rfl) (fun _ _ _ h => h) (yieldsIf_cell (by kernel_rfl) rfl (by kernel_rfl) (fun W h => hload1s W (HNX.out W h).2.1)) S0 ?_
  refine held_take (i := 7) (v := (.int .i64 (hh : Int))) (some 24) rfl rfl (by kernel_rfl) (by kernel_rfl) (by kernel_rfl) (fun _ _ _ h => h) (yieldsIf_run (by kernel_rfl) (fun W _ => by kernel_rfl)) S0 ?_
  refine held_take (i := 8) (v := (.int .i64 (m : Int))) (some 6) rfl rfl (by kernel_rfl) (by kernel_rfl) (by kernel_rfl) (fun _ _ _ h => h) (yieldsIf_assign (by kernel_rfl) rfl (by kernel_rfl)) S0 ?_
  refine held_take (i := 9) (v := (.int .i64 (hh : Int))) (some 7) rfl rfl (by kernel_rfl) (by kernel_rfl) (by kernel_rfl) (fun _ _ _ h => h) (yieldsIf_assign (by kernel_rfl) rfl (by kernel_rfl)) S0 ?_
  refine wpAnyH_done (by kernel_rfl) ?_ _
  simp only [Act.put, List.setIfInBounds_toArray, List.set_cons_zero, List.set_cons_succ]
  have hcm : (0 : Int) < (m : Int) := by omega
  clear S0 hwa hwi hw1 hsa
  obtain ⟨wp, hwp⟩ : ∃ wp, wp = w1.alloc (.cells #[] 2) := ⟨_, rfl⟩
  obtain ⟨wq, hwq⟩ : ∃ wq, wq = wp.alloc (.cells #[] 22) := ⟨_, rfl⟩
  have hsp : wp.heap.size = w1.heap.size + 1 := by rw [hwp]; simp
  have hsq : wq.heap.size = w1.heap.size + 2 := by rw [hwq]; simp [hsp]
  obtain ⟨wo, hwo⟩ : ∃ wo, wo = wq.alloc (.cells #[.int .i64 p, .slice (some ⟨w1.heap.size, 0, none⟩) 0 0, .slice (some ⟨w1.heap.size + 1, 0, none⟩) 0 0] 38) := ⟨_, rfl⟩
  have hso : wo.heap.size = w1.heap.size + 1 + 1 + 1 := by rw [hwo]; simp [hsq]
  obtain ⟨wl, hwl⟩ : ∃ wl, wl = wo.alloc (.cells #[] 35) := ⟨_, rfl⟩
  have HS0 : Hid (Tgs w1 wl (w1.heap.size + 1 + 1) p (.slice (some ⟨w1.heap.size, 0, none⟩) 0 0) (.slice (some ⟨w1.heap.size + 1, 0, none⟩) 0 0) (.slice (some ⟨w1.heap.size + 1 + 1 + 1, 0, none⟩) 0 0) [] [] []) := Lib.hid (by
    have b1 : Below w1.heap.size w1 wp := by rw [hwp]; exact below_alloc1 _ _
    have b2 : Below wp.heap.size wp wq := by rw [hwq]; exact below_alloc1 _ _
    have b3 : Below wq.heap.size wq wo := by rw [hwo]; exact below_alloc1 _ _
    have b4 : Below wo.heap.size wo wl := by rw [hwl]; exact below_alloc1 _ _
    have g1 : Gb w1.heap.size wp (.slice (some ⟨w1.heap.size, 0, none⟩) 0 0) [] := by rw [hwp]; exact Gb.new w1 (Nat.le_refl _)
    have g2 : Gt w1.heap.size wq (.slice (some ⟨w1.heap.size + 1, 0, none⟩) 0 0) [] := by
      have := Gt.new (base := w1.heap.size) wp (by omega)
      rw [hsp] at this
      rw [hwq]
      exact this
    have g3 : Gs w1.heap.size wl (.slice (some ⟨w1.heap.size + 1 + 1 + 1, 0, none⟩) 0 0) [] := by
      have := Gs.new (base := w1.heap.size) wo (by omega)
      rw [hso] at this
      rw [hwl]
      exact this
    have hbx : wo.rowIs (w1.heap.size + 1 + 1) 38 3 (sel3 (.int .i64 p) (.slice (some ⟨w1.heap.size, 0, none⟩) 0 0) (.slice (some ⟨w1.heap.size + 1, 0, none⟩) 0 0)) := by
      refine rowIs3 ?_
      have := heap_alloc_new wq (.cells #[.int .i64 p, .slice (some ⟨w1.heap.size, 0, none⟩) 0 0, .slice (some ⟨w1.heap.size + 1, 0, none⟩) 0 0] 38)
      rw [← hwo, hsq] at this
      exact this
    exact ⟨((b1.trans (b2.mono (by omega))).trans (b3.mono (by omega))).trans (b4.mono (by omega)), by omega, hbx.of_block (b4.block _ hbx.lt), ((g1.below b2).below b3).below b4, Gtp.nil ((g2.below b3).below b4), Grb.start g3⟩)
  obtain ⟨g, hg⟩ : ∃ g, g = w1.heap.size + 1 + 1 := ⟨_, rfl⟩
  have hg3 : w1.heap.size + 1 + 1 + 1 = g + 1 := by omega
  go_upto_region 4 with fail
  rw [← hwp, ← hwq, ← hwo, ← hwl]
  rw [← hg]
  rw [hg3, ← hg] at HS0
  clear hwp hwq hwo hwl hsp hsq hso hg hg3 c0 c2 c3 c1
  by_cases hfit : (5 : Int) < (m : Int) + (hh : Int) - 2
  · have HEX : Hid (Exc (tD ds)) := Lib.hid (tg_top (by rw [← HTOP.out]; omega))
    have HBQ := Lib.hid HS0.out.below
    have HZ : Hid (wl.heap[w.heap.size + 1]? = some (.cells Z4 50 (0, 0))) := Lib.hid ((HNX.out _ HBQ.out).2.2)
    have HWR : Hid (Below w.heap.size w (wl.setRow (w.heap.size + 1) #[.int .i64 0, .slice none 0 0, .slice none 0 0, .slice none 0 0])) := Lib.hid (below_setRow (HW0.out _ (HBQ.out)) (Nat.le_succ _) _)
    obtain ⟨WF, hWF⟩ : ∃ WF, WF = wl.setRow (w.heap.size + 1) #[.int .i64 0, .slice none 0 0, .slice none 0 0, .slice none 0 0] := ⟨_, rfl⟩
    have hRz : Rz WF (w.heap.size + 1) 50 #[.int .i64 0, .slice none 0 0, .slice none 0 0, .slice none 0 0] := by rw [hWF]; exact Rz.set HZ.out _
    have f0 := hRz.cell (i := 0) (v := _) rfl
    have f1 := hRz.cell (i := 1) (v := _) rfl
    have f2 := hRz.cell (i := 2) (v := _) rfl
    have f3 := hRz.cell (i := 3) (v := _) rfl
    rw [← hWF] at HWR
    have HWF := Lib.hid hWF
    clear hRz hWF
    go_wp2_with (with_reducible refine wpList_store_row rfl 50 (.tmp 4) (.tmp 36) rfl (w.heap.size + 1) #[.int .i64 0, .slice none 0 0, .slice none 0 0, .slice none 0 0] rfl rfl 50 Z4 HZ.out (infoFl _ _ _ _) rfl (by kernel_rfl) ?_)
    rw [← HWF.out]
    go_wp2
    refine bodyPost_ret (v := .tuple #[.agg #[.int .i64 0, .slice none 0 0, .slice none 0 0, .slice none 0 0], .bool false]) ?_ rfl ?_
    · simp only [results, HRES.out]
      go_simp
    · exact ⟨HWR.out, .inl ⟨HEX.out, rfl⟩⟩
  have ht5 : top ≤ 5 := by omega
  go_wp2
  clear hfit
  go_loopw [9, 10, 11, 12, 13, 14, 15, 16] (fun lv i _ _ _ _ _ _ wr => ∃ (n q : Nat) (a1 a2 a3 : Option Addr) (c1 c2 c3 : Nat), n ≤ top + 1 ∧ i = .int .i64 n ∧ lv = .slice a3 n c3 ∧ Hid (q = n - 1) ∧ Hid (Tgs w1 wr g p (.slice a1 n c1) (.slice a2 q c2) (.slice a3 n c3) ((tD ds).take n) ((tM ds ac dn).take q) ((tL false ds).take n)) ∧ Hid (∀ s, s < n → tdim ds s ≤ 8)) (fun _ i _ _ _ _ _ _ _ => top + 1 - (intOf i).toNat)
  case atStart => exact ⟨0, 0, _, _, _, _, _, _, Nat.zero_le _, rfl, rfl, Lib.hid rfl, by simpa using HS0, Lib.hid (fun _ h => absurd h (Nat.not_lt_zero _))⟩
  case round =>
    clear HS0
    obtain ⟨n, q, a1, a2, a3, cc1, cc2, cc3, hn, rfl, rfl, HQN, HS, H8⟩ := hrel
    obtain ⟨wx, hwx⟩ : ∃ wx : World, wx = wr := ⟨_, rfl⟩
    subst hwx
    have HBX := Lib.hid HS.out.below
    have hsx : w1.heap.size ≤ wx.heap.size := HBX.out.size
    have hgB := HS.out.lo
    obtain ⟨db, hdb⟩ : ∃ db, db = Value.ownBlock (.slice a1 n cc1) := ⟨_, rfl⟩
    have HDBL : Hid (∀ g, db = some g → g < wx.heap.size) := Lib.hid (fun g hg => (HS.out.dims.lt g (by rw [← hdb]; exact hg)).2)
    have HDBE := Lib.hid hdb
    have HL3X : Hid (∀ g, Value.ownBlock (.slice a3 n cc3) = some g → g < wx.heap.size) := Lib.hid (fun g hg => (HS.out.lv.lt hg).2)
    clear hdb
    by_cases hlt : n ≤ top
    · have hleq : (n : Int) ≤ (m : Int) + (hh : Int) - 2 := by omega
      obtain ⟨wy, hwy⟩ : ∃ wy, wy = wx.alloc (.cells #[] 2) := ⟨_, rfl⟩
      obtain ⟨wz, hwz⟩ : ∃ wz, wz = wy.alloc (.cells #[] 35) := ⟨_, rfl⟩
      have hsy : wy.heap.size = wx.heap.size + 1 := by rw [hwy]; simp
      have hby : Below wx.heap.size wx wy := by rw [hwy]; exact below_alloc1 _ _
      have hbz : Below wy.heap.size wy wz := by rw [hwz]; exact below_alloc1 _ _
      have HO0 : Hid (Gb wx.heap.size wz (.slice (some ⟨wx.heap.size, 0, none⟩) 0 0) (lvp ds false n 0)) := Lib.hid (by
        have h0 : Gb wx.heap.size wy (.slice (some ⟨wx.heap.size, 0, none⟩) 0 0) [] := by rw [hwy]; exact Gb.new wx (Nat.le_refl _)
        exact h0.below hbz)
      have HV0 : Hid (Grp (fun u => OffB db u ∧ OffB (Value.ownBlock (.slice (some ⟨wx.heap.size, 0, none⟩) 0 0)) u) wx.heap.size wz (.slice (some ⟨wx.heap.size + 1, 0, none⟩) 0 0) (rwp ds ac dn n 0)) := Lib.hid (by
        have h0 := Gs.new (base := wx.heap.size) wy (by omega)
        rw [hsy] at h0
        rw [hwz]
        exact Grp.start h0)
      have HBZ0 : Hid (Below wx.heap.size wx wz) := Lib.hid (hby.trans (hbz.mono (by omega)))
      go_upto_region 10 with fail
      rw [← hwy, ← hwz]
      clear hwy hwz hsy hby hbz hleq
      go_wp2
      go_loopw [11, 12, 13, 14, 15, 16] (fun ou ru i _ _ _ wr => ∃ (x : Nat) (ov rv : Value), ov = ou ∧ rv = ru ∧ x ≤ n + 1 ∧ i = .int .i64 x ∧ Hid (Below wx.heap.size wx wr) ∧ Hid (Gb wx.heap.size wr ov (lvp ds false n x)) ∧ Hid (Grp (fun u => OffB db u ∧ OffB (Value.ownBlock ov) u) wx.heap.size wr rv (rwp ds ac dn n x))) (fun _ _ i _ _ _ _ => n + 1 - (intOf i).toNat)
      case atStart => exact ⟨0, _, _, rfl, rfl, Nat.zero_le _, rfl, HBZ0, HO0, HV0⟩
      case round =>
        clear HBZ0 HO0 HV0
        obtain ⟨x, ov, rv, rfl, rfl, hx, rfl, HBE, HO, HV⟩ := hrel
        obtain ⟨wv, hwv⟩ : ∃ wv : World, wv = wr := ⟨_, rfl⟩
        subst hwv
        by_cases hltx : x ≤ n
        · have hltxi : (x : Int) ≤ (n : Int) := by omega
          have hwnx : IntKind.i64.wrap ((n : Int) - (x : Int)) = (n : Int) - (x : Int) := IntWalk.i64_in _ (by omega)
          have HO1 : Hid (Gb wx.heap.size wv ov (lvk ds false n x 0)) := Lib.hid (by rw [lvk_zero]; exact HO.out)
          have HV1 : Hid (Grp (fun u => OffB db u ∧ OffB (Value.ownBlock ov) u) wx.heap.size wv rv (rwk ds ac dn n x 0)) := Lib.hid (by rw [rwk_zero]; exact HV.out)
          clear HO HV
          go_wp2
          go_loopw [11, 12, 14, 15, 16] (fun ou ru i _ _ wr => ∃ (y : Nat) (ov rv : Value), ov = ou ∧ rv = ru ∧ y ≤ tgD ds n x ∧ i = .int .i64 y ∧ Hid (Below wx.heap.size wx wr) ∧ Hid (Gb wx.heap.size wr ov (lvk ds false n x y)) ∧ Hid (Grp (fun u => OffB db u ∧ OffB (Value.ownBlock ov) u) wx.heap.size wr rv (rwk ds ac dn n x y))) (fun _ _ i _ _ _ => tgD ds n x - (intOf i).toNat)
          case atStart => exact ⟨0, _, _, rfl, rfl, Nat.zero_le _, rfl, HBE, HO1, HV1⟩
          case round =>
            clear HBE HO1 HV1
            obtain ⟨y, ov, rv, rfl, rfl, hy, rfl, HBE, HO, HV⟩ := hrel
            obtain ⟨wt, hwt⟩ : ∃ wt : World, wt = wr := ⟨_, rfl⟩
            subst hwt
            have HBT := Lib.hid (HBX.out.trans (HBE.out.mono hsx))
            have hXT := HNX.out _ HBT.out
            have c0 := hXT.1.c0
            have c1 := hXT.1.c1
            have c2 := hXT.1.c2
            have c3 := hXT.1.c3
            have hD4 := tgD_le HOK.out n x
            clear hXT
            go_wp2_with fail
            refine (HDIM.out _ HBT.out n x (by omega) hltx).mono ?_
            rintro ee wu ⟨rfl, hb2⟩
            have HBU := Lib.hid (HBE.out.trans (hb2.mono HBE.out.size))
            have HB1U := Lib.hid (HBT.out.trans (hb2.mono HBT.out.size))
            have HOU := Lib.hid (HO.out.below hb2)
            have HVU := Lib.hid (HV.out.below hb2)
            clear hb2 c0 c1 c2 c3 HO HV HBE HBT
            by_cases hlty : y < tgD ds n x
            · have hltyi : (y : Int) < ((tgD ds n x : Nat) : Int) := by omega
              have HTI := Lib.hid (tg_in hlty)
              have hll := lvk_le HOK.out false n x y
              have hlr : (rwk ds ac dn n x y).length ≤ 4 * x + y := by rw [← lvk_rwk_len (ds := ds) (ac := ac) (dn := dn) false y]; exact hll
              have hba : Below wu.heap.size wu (wu.alloc (.cells #[.int .i64 (x : Int)] 2)) := below_alloc1 _ _
              have HOA := Lib.hid (HOU.out.below hba)
              have hcell := cell_alloc1 wu (.int .i64 (x : Int)) 2
              have hc1 : (lvk ds false n x y).length ≤ 2097151 := by omega
              have HC1 := Lib.hid hc1
              have hc2 : wx.heap.size ≤ (wu.alloc (.cells #[.int .i64 (x : Int)] 2)).heap.size := (HBU.out.trans (hba.mono HBU.out.size)).size
              have HC2 := Lib.hid hc2
              have HBA := Lib.hid hba
              have HLR := Lib.hid hlr
              obtain ⟨ao, co, hov⟩ := Sl.shape HOU.out.l1
              obtain ⟨ar, cr, hrv⟩ := Sl.shape HVU.out.gs.l2
              subst hov hrv
              clear hba hc1 hc2 hll hlr
              go_wp2_with (at_builtin; refine wpList_appendB1l rfl (some 72) rfl (.tmp 69) (.tmp 71) rfl wx.heap.size _ (lvk ds false n x y) rfl HOA.out wu.heap.size rfl (x : Int) hcell HC1.out HC2.out ?_)
              intro g9 c9 w9 hn9 hgw hlw
              have hlw2 : Value.ownBlock (.slice ao (lvk ds false n x y).length co) = some g9 ∨ g9 = (wu.alloc (.cells #[.int .i64 (x : Int)] 2)).heap.size := hlw.imp id (fun h => by simpa using h)
              have HO9 : Hid (Gb wx.heap.size w9 (.slice (some ⟨g9, 0, none⟩) ((lvk ds false n x y).length + 1) c9) (lvk ds false n x (y + 1))) := Lib.hid (by rw [lvk_succ]; have e : lvl false (x, n - x) = (x : Int) := (by exact rfl); rw [e]; exact hn9)
              have HV9 : Hid (Grp (fun u => OffB db u ∧ OffB (Value.ownBlock (.slice (some ⟨g9, 0, none⟩) ((lvk ds false n x y).length + 1) c9)) u) wx.heap.size w9 (.slice ar (rwk ds ac dn n x y).length cr) (rwk ds ac dn n x y)) := Lib.hid ((HVU.out.below HBA.out).turn HOA.out hgw (fun u h => h.2) (fun u h hlt => ⟨h.1, fun g0 hg0 e => by
                have e2 : g9 = g0 := by simpa [Value.ownBlock] using e
                subst e2
                rcases hlw2 with hl | hl
                · exact h.2 _ hg0 hl
                · have := hlt _ hg0
                  omega⟩))
              have HB9 : Hid (Below wx.heap.size wx w9) := Lib.hid ((HBU.out.trans (HBA.out.mono HBU.out.size)).grown hgw HC2.out (fun g0 hg0 => (HOA.out.lt g0 hg0).1))
              clear hn9 hgw hlw hlw2 hcell HOA HVU HBU HB1U HC1 HC2 HBA HOU
              have hs9 : wx.heap.size ≤ w9.heap.size := HB9.out.size
              have HR0 := Lib.hid (Gb.new (base := w9.heap.size) w9 (Nat.le_refl _))
              go_wp2
              go_loopw [15, 16] (fun ru i wr => ∃ (z : Nat) (rv : Value), rv = ru ∧ z ≤ n ∧ i = .int .i64 z ∧ Hid (Below w9.heap.size w9 wr) ∧ Hid (Gb w9.heap.size wr rv (trp ds ac dn (n - 1) (x, n - x) y z)) ∧ Hid ((trp ds ac dn (n - 1) (x, n - x) y z).length ≤ 4 * z)) (fun _ i _ => n - (intOf i).toNat)
              case atStart => exact ⟨0, _, rfl, Nat.zero_le _, rfl, Lib.hid (below_alloc1 _ _), HR0, Lib.hid (Nat.zero_le _)⟩
              case round =>
                clear HR0
                obtain ⟨z, rv, rfl, hz, rfl, HBR, HRO, HRL⟩ := hrel
                obtain ⟨ws, hws⟩ : ∃ ws : World, ws = wr := ⟨_, rfl⟩
                subst hws
                have hs9s : w9.heap.size ≤ ws.heap.size := HBR.out.size
                have HB1S := Lib.hid (HBX.out.trans ((HB9.out.trans (HBR.out.mono hs9)).mono hsx))
                have hXS := HNX.out _ HB1S.out
                have c0 := hXS.1.c0
                have c1 := hXS.1.c1
                have c2 := hXS.1.c2
                have c3 := hXS.1.c3
                have HDX := Lib.hid hXS.1.dx
                clear hXS
                by_cases hltz : z < n
                · have hltzi : (z : Int) < (n : Int) := by omega
                  have hwx1 : IntKind.i64.wrap ((x : Int) - 1) = (x : Int) - 1 := IntWalk.i64_in _ (by omega)
                  have hxl : x < ds.length := tg_lt HTI.out.1
                  by_cases hA : z + 1 = x
                  · have he : ((z : Int) == (x : Int) - 1) = true := by have h0 : (z : Int) = (x : Int) - 1 := (by omega); simp [h0]
                    have hia : x < ac.length := by rw [HTB.out.la]; exact hxl
                    have hja : n - x < (ac[x]).length := by have h1 := HTB.out.ca x hxl; rw [getD_of_lt _ hia] at h1; have := HTI.out.1; omega
                    obtain ⟨ba, oa, ca, b2, o2, k2, ut, hva, hA1, hA2, hTl⟩ := l4_at HDX.out.across hia hja
                    injection hva with e1 e2 e3
                    subst e1 e3
                    clear e2
                    have hTt : (ac[x])[n - x] = tbl ac (x, n - x) := by unfold tbl; dsimp only; rw [getD_of_lt _ hia, getD_of_lt _ hja]
                    rw [hTt] at hTl
                    have hyt : y < (tbl ac (x, n - x)).length := by rw [tg_len_a HTB.out (tg_mem HTI.out.1)]; exact HTI.out.2
                    obtain ⟨bt, ot, ct, ur, hut, hR1, hR2⟩ := l2_row hTl hyt
                    subst hut
                    obtain ⟨n2, hn2⟩ : ∃ k, k = (ac[x]).length := ⟨_, rfl⟩
                    obtain ⟨n3, hn3⟩ : ∃ k, k = (tbl ac (x, n - x)).length := ⟨_, rfl⟩
                    rw [← hn2] at hA1
                    rw [← hn3] at hA2
                    have hxm : (x : Int) < (m : Int) := by have := HM.out; omega
                    have hx0 : (0 : Int) ≤ (x : Int) := by omega
                    have hnx0 : (0 : Int) ≤ (n : Int) - (x : Int) := by omega
                    have hnx1 : (n : Int) - (x : Int) < (n2 : Int) := by omega
                    have hnx2 : ((n : Int) - (x : Int)).toNat = n - x := by omega
                    have hy0 : (0 : Int) ≤ (y : Int) := by omega
                    have hy1 : (y : Int) < (n3 : Int) := by omega
                    have hrl : ((tbl ac (x, n - x)).getD y []).length ≤ 4 := tg_row_a HOK.out HTB.out hltx hlty
                    obtain ⟨RW, hRW⟩ : ∃ r, r = (tbl ac (x, n - x)).getD y [] := ⟨_, rfl⟩
                    rw [← hRW] at hR2 hrl
                    have HTS : Hid (trp ds ac dn (n - 1) (x, n - x) y (z + 1) = trp ds ac dn (n - 1) (x, n - x) y z ++ RW) := Lib.hid (by rw [hRW]; exact trp_a HOK.out HTI.out.1 hA hltx y)
                    obtain ⟨v3, w3, hrun, hg3, hgr3⟩ := run_append_row ws 35 rv _ HRO.out ur RW hR2 (by have := HRL.out; omega) hs9s
                    have HRUN := Lib.hid hrun
                    have HB3 : Hid (Below w9.heap.size w9 w3) := Lib.hid (HBR.out.grown hgr3 hs9s (fun g hg => (HRO.out.lt g hg).1))
                    have HR3 : Hid (Gb w9.heap.size w3 v3 (trp ds ac dn (n - 1) (x, n - x) y (z + 1))) := Lib.hid (by rw [HTS.out]; exact hg3)
                    have HL3 : Hid ((trp ds ac dn (n - 1) (x, n - x) y (z + 1)).length ≤ 4 * (z + 1)) := Lib.hid (by rw [HTS.out, List.length_append]; have := HRL.out; omega)
                    obtain ⟨arv, crv, hrv9⟩ := Sl.shape HRO.out.l1
                    obtain ⟨aur, cur, hur9⟩ := Sl.shape hR2
                    obtain ⟨a3v, c3v, hv39⟩ := Sl.shape HR3.out.l1
                    subst hrv9 hur9 hv39
                    clear hia hja hTl hTt hyt hR2 hn2 hn3 hRW hrun hg3 hgr3
                    clear hA
                    go_wp2_with (at_builtin; refine Lib.wpList_append_run _ rfl _ _ _ _ rfl _ _ rfl rfl _ _ HRUN.out ?_)
                    go_wp2
                    go_roundw
                    case rel => first | exact ⟨z + 1, _, rfl, by omega, by go_num, HB3, HR3, HL3⟩ | ((repeat apply Exists.intro); exact ⟨⟨z + 1, _, rfl, by omega, by go_num, HB3, HR3, HL3⟩, rfl⟩)
                    case measure => simp [intOf]; omega
                  have he1 : ((z : Int) == (x : Int) - 1) = false := by have h0 : (z : Int) ≠ (x : Int) - 1 := (by omega); simp [h0]
                  by_cases hDD : z = x
                  · have he2 : ((z : Int) == (x : Int)) = true := by simp [hDD]
                    have hia : x < dn.length := by rw [HTB.out.ld]; exact hxl
                    have hja : n - x < (dn[x]).length := by have h1 := HTB.out.cd x hxl; rw [getD_of_lt _ hia] at h1; have := HTI.out.1; omega
                    obtain ⟨ba, oa, ca, b2, o2, k2, ut, hva, hA1, hA2, hTl⟩ := l4_at HDX.out.down hia hja
                    injection hva with e1 e2 e3
                    subst e1 e3
                    clear e2
                    have hTt : (dn[x])[n - x] = tbl dn (x, n - x) := by unfold tbl; dsimp only; rw [getD_of_lt _ hia, getD_of_lt _ hja]
                    rw [hTt] at hTl
                    have hyt : y < (tbl dn (x, n - x)).length := by rw [tg_len_d HTB.out (tg_mem HTI.out.1)]; exact HTI.out.2
                    obtain ⟨bt, ot, ct, ur, hut, hR1, hR2⟩ := l2_row hTl hyt
                    subst hut
                    obtain ⟨n2, hn2⟩ : ∃ k, k = (dn[x]).length := ⟨_, rfl⟩
                    obtain ⟨n3, hn3⟩ : ∃ k, k = (tbl dn (x, n - x)).length := ⟨_, rfl⟩
                    rw [← hn2] at hA1
                    rw [← hn3] at hA2
                    have hxm : (x : Int) < (m : Int) := by have := HM.out; omega
                    have hx0 : (0 : Int) ≤ (x : Int) := by omega
                    have hnx0 : (0 : Int) ≤ (n : Int) - (x : Int) := by omega
                    have hnx1 : (n : Int) - (x : Int) < (n2 : Int) := by omega
                    have hnx2 : ((n : Int) - (x : Int)).toNat = n - x := by omega
                    have hy0 : (0 : Int) ≤ (y : Int) := by omega
                    have hy1 : (y : Int) < (n3 : Int) := by omega
                    have hrl : ((tbl dn (x, n - x)).getD y []).length ≤ 4 := tg_row_d HOK.out HTB.out (by omega) hlty
                    obtain ⟨RW, hRW⟩ : ∃ r, r = (tbl dn (x, n - x)).getD y [] := ⟨_, rfl⟩
                    rw [← hRW] at hR2 hrl
                    have HTS : Hid (trp ds ac dn (n - 1) (x, n - x) y (z + 1) = trp ds ac dn (n - 1) (x, n - x) y z ++ RW) := Lib.hid (by rw [hRW]; exact (by rw [hDD]; exact trp_d HTI.out.1 (by omega) y))
                    obtain ⟨v3, w3, hrun, hg3, hgr3⟩ := run_append_row ws 35 rv _ HRO.out ur RW hR2 (by have := HRL.out; omega) hs9s
                    have HRUN := Lib.hid hrun
                    have HB3 : Hid (Below w9.heap.size w9 w3) := Lib.hid (HBR.out.grown hgr3 hs9s (fun g hg => (HRO.out.lt g hg).1))
                    have HR3 : Hid (Gb w9.heap.size w3 v3 (trp ds ac dn (n - 1) (x, n - x) y (z + 1))) := Lib.hid (by rw [HTS.out]; exact hg3)
                    have HL3 : Hid ((trp ds ac dn (n - 1) (x, n - x) y (z + 1)).length ≤ 4 * (z + 1)) := Lib.hid (by rw [HTS.out, List.length_append]; have := HRL.out; omega)
                    obtain ⟨arv, crv, hrv9⟩ := Sl.shape HRO.out.l1
                    obtain ⟨aur, cur, hur9⟩ := Sl.shape hR2
                    obtain ⟨a3v, c3v, hv39⟩ := Sl.shape HR3.out.l1
                    subst hrv9 hur9 hv39
                    clear hia hja hTl hTt hyt hR2 hn2 hn3 hRW hrun hg3 hgr3
                    clear hDD hA
                    go_wp2_with (at_builtin; refine Lib.wpList_append_run _ rfl _ _ _ _ rfl _ _ rfl rfl _ _ HRUN.out ?_)
                    go_wp2
                    go_roundw
                    case rel => first | exact ⟨z + 1, _, rfl, by omega, by go_num, HB3, HR3, HL3⟩ | ((repeat apply Exists.intro); exact ⟨⟨z + 1, _, rfl, by omega, by go_num, HB3, HR3, HL3⟩, rfl⟩)
                    case measure => simp [intOf]; omega
                  have he2 : ((z : Int) == (x : Int)) = false := by have h0 : (z : Int) ≠ (x : Int) := (by omega); simp [h0]
                  have hwn1 : IntKind.i64.wrap ((n : Int) - 1) = (n : Int) - 1 := IntWalk.i64_in _ (by omega)
                  have hwn2 : IntKind.i64.wrap ((n : Int) - 1 - (z : Int)) = (n : Int) - 1 - (z : Int) := IntWalk.i64_in _ (by omega)
                  have HDZ : Hid (Calls Try.prog 90 #[.agg #[.int .i64 p, .slice (some ⟨bb, o, none⟩) m cd, .slice ad2 m cd2, .slice ad3 m cd3], .int .i64 (z : Int), .int .i64 ((n : Int) - 1 - (z : Int))] ws fun r w' => r = .returned (.int .i64 ((tgD ds (n - 1) z : Nat) : Int)) ∧ Below ws.heap.size ws w') := Lib.hid (by have h0 := HDIM.out ws HB1S.out (n - 1) z (by omega) (by omega); rwa [show ((n - 1 : Nat) : Int) = (n : Int) - 1 by omega] at h0)
                  go_wp2_with fail
                  refine HDZ.out.mono ?_
                  rintro ee w2 ⟨rfl, hb2⟩
                  have hd4 := tgD_le HOK.out (n - 1) z
                  have HTS : Hid (trp ds ac dn (n - 1) (x, n - x) y (z + 1) = trp ds ac dn (n - 1) (x, n - x) y z ++ List.replicate (tgD ds (n - 1) z) 0) := Lib.hid (trp_o hltz hA hDD y)
                  obtain ⟨dd, hdd⟩ : ∃ d, d = tgD ds (n - 1) z := ⟨_, rfl⟩
                  rw [← hdd] at hd4 HTS ⊢
                  have hg2 := HRO.out.below hb2
                  have hs2 := hb2.size
                  obtain ⟨v3, w3, hrun, hg3, hgr3⟩ := run_append_zeros w2 35 rv _ hg2 .i64 dd (by have := HRL.out; omega) (by omega)
                  have HRUN := Lib.hid hrun
                  have HB3 : Hid (Below w9.heap.size w9 w3) := Lib.hid ((HBR.out.trans (hb2.mono hs9s)).grown hgr3 (by omega) (fun g hg => (hg2.lt g hg).1))
                  have HR3 : Hid (Gb w9.heap.size w3 v3 (trp ds ac dn (n - 1) (x, n - x) y (z + 1))) := Lib.hid (by rw [HTS.out]; exact hg3)
                  have HL3 : Hid ((trp ds ac dn (n - 1) (x, n - x) y (z + 1)).length ≤ 4 * (z + 1)) := Lib.hid (by rw [HTS.out, List.length_append, List.length_replicate]; have := HRL.out; omega)
                  obtain ⟨arv, crv, hrv9⟩ := Sl.shape HRO.out.l1
                  obtain ⟨a3v, c3v, hv39⟩ := Sl.shape HR3.out.l1
                  subst hrv9 hv39
                  clear hrun hg3 hgr3 hg2 hb2 hdd c0 c1 c2 c3
                  go_wp2_with (at_builtin; refine Lib.wpList_append_run _ rfl _ _ _ _ rfl _ _ rfl rfl _ _ HRUN.out ?_)
                  go_wp2
                  go_roundw
                  case rel => first | exact ⟨z + 1, _, rfl, by omega, by go_num, HB3, HR3, HL3⟩ | ((repeat apply Exists.intro); exact ⟨⟨z + 1, _, rfl, by omega, by go_num, HB3, HR3, HL3⟩, rfl⟩)
                  case measure => simp [intOf]; omega
                · obtain rfl : z = n := by omega
                  obtain ⟨RT, hRT⟩ : ∃ r, r = trp ds ac dn (z - 1) (x, z - x) y z := ⟨_, rfl⟩
                  rw [← hRT] at HRO HRL
                  have HRTE := Lib.hid hRT
                  clear hRT
                  obtain ⟨arv, crv, hrv9⟩ := Sl.shape HRO.out.l1
                  subst hrv9
                  have HVS := Lib.hid (HV9.out.below HBR.out)
                  have HOS := Lib.hid (HO9.out.below HBR.out)
                  have hba : Below ws.heap.size ws (ws.alloc (.cells #[.slice arv RT.length crv] 35)) := below_alloc1 _ _
                  have hcell := cell_alloc1 ws (.slice arv RT.length crv) 35
                  have HVA := Lib.hid (HVS.out.below hba)
                  have HOA := Lib.hid (HOS.out.below hba)
                  have HGU := Lib.hid (HRO.out.g1.below hba)
                  have HOF : Hid (OffB db (.slice arv RT.length crv) ∧ OffB (Value.ownBlock (.slice (some ⟨g9, 0, none⟩) ((lvk ds false z x y).length + 1) c9)) (.slice arv RT.length crv)) := Lib.hid ⟨fun g hg e => by have h1 := HDBL.out g e; have h2 := (HRO.out.lt g hg).1; omega, fun g hg e => by have h1 := (HO9.out.lt g e).2; have h2 := (HRO.out.lt g hg).1; omega⟩
                  have hc1 : (rwk ds ac dn z x y).length ≤ 2097151 := by have := HLR.out; omega
                  have HC1 := Lib.hid hc1
                  have HBA : Hid (Below wx.heap.size wx (ws.alloc (.cells #[.slice arv RT.length crv] 35))) := Lib.hid ((HB9.out.trans (HBR.out.mono hs9)).trans (hba.mono (by omega)))
                  clear hba hc1 c0 c1 c2 c3
                  go_wp2_with (at_builtin; go_loud (refine wpList_appendP rfl (some 129) rfl (.tmp 126) (.tmp 128) rfl (fun u => OffB db u ∧ OffB (Value.ownBlock (.slice (some ⟨g9, 0, none⟩) ((lvk ds false z x y).length + 1) c9)) u) wx.heap.size _ (rwk ds ac dn z x y) rfl HVA.out ws.heap.size rfl arv RT.length crv hcell RT HGU.out HOF.out HC1.out HBA.out.size ?_))
                  intro g7 c7 w7 hn7 hgw7
                  have HV7 : Hid (Grp (fun u => OffB db u ∧ OffB (Value.ownBlock (.slice (some ⟨g9, 0, none⟩) ((lvk ds false z x y).length + 1) c9)) u) wx.heap.size w7 (.slice (some ⟨g7, 0, none⟩) ((rwk ds ac dn z x y).length + 1) c7) (rwk ds ac dn z x (y + 1))) := Lib.hid (by rw [rwk_succ, ← HRTE.out]; exact hn7)
                  have HO7 : Hid (Gb wx.heap.size w7 (.slice (some ⟨g9, 0, none⟩) ((lvk ds false z x y).length + 1) c9) (lvk ds false z x (y + 1))) := Lib.hid (by obtain ⟨vs, hvo, _⟩ := HVA.out; exact owns_grown HOA.out hvo (by decide) hgw7)
                  have HB7 : Hid (Below wx.heap.size wx w7) := Lib.hid (HBA.out.grown hgw7 HBA.out.size (fun g hg => (HVA.out.lt hg).1))
                  clear hn7 hgw7 hcell HVA HOA HGU HVS HOS
                  go_wp2
                  go_roundw
                  case rel => first | exact ⟨y + 1, _, _, rfl, rfl, by omega, by go_num, HB7, HO7, HV7⟩ | ((repeat apply Exists.intro); exact ⟨⟨y + 1, _, _, rfl, rfl, by omega, by go_num, HB7, HO7, HV7⟩, rfl⟩)
                  case measure => simp [intOf]; omega
            · obtain rfl : y = tgD ds n x := by omega
              have HO2 : Hid (Gb wx.heap.size wu ov (lvp ds false n (x + 1))) := Lib.hid (by rw [← lvk_fin false hltx]; exact HOU.out)
              have HV2 : Hid (Grp (fun u => OffB db u ∧ OffB (Value.ownBlock ov) u) wx.heap.size wu rv (rwp ds ac dn n (x + 1))) := Lib.hid (by rw [← rwk_fin hltx]; exact HVU.out)
              go_wp2
              go_roundw
              case rel => first | exact ⟨x + 1, _, _, rfl, rfl, by omega, by go_num, HBU, HO2, HV2⟩ | ((repeat apply Exists.intro); exact ⟨⟨x + 1, _, _, rfl, rfl, by omega, by go_num, HBU, HO2, HV2⟩, rfl⟩)
              case measure => simp [intOf]; omega
        · obtain rfl : x = n + 1 := by omega
          have HVX : Hid (Grb db wx.heap.size wv rv (rwp ds ac dn n (n + 1))) := Lib.hid (HV.out.grb (fun _ h => h.1))
          clear HV
          obtain ⟨wv2, hwv2⟩ : ∃ w, w = wv := ⟨_, rfl⟩
          have HV := HVX
          clear HVX
          have HOW : Hid (Gb wx.heap.size wv ov (lvt ds false n)) := Lib.hid (by rw [← lvp_all]; exact HO.out)
          obtain ⟨RR, hRR⟩ : ∃ r, r = rwp ds ac dn n (n + 1) := ⟨_, rfl⟩
          rw [← hRR] at HV
          obtain ⟨LV, hLV⟩ : ∃ r, r = lvt ds false n := ⟨_, rfl⟩
          rw [← hLV] at HOW
          have HLL : Hid (LV.length = tdim ds n) := Lib.hid (by rw [hLV]; exact lvt_len ds false n)
          have HRRE := Lib.hid hRR
          have HLVE := Lib.hid hLV
          obtain ⟨td, htd⟩ : ∃ t, t = tdim ds n := ⟨_, rfl⟩
          rw [← htd] at HLL
          have HTD := Lib.hid htd
          obtain ⟨ao, co, hov⟩ := Sl.shape HOW.out.l1
          obtain ⟨ar, cr, hrv⟩ := Sl.shape HV.out.gs.l2
          rw [HLL.out] at hov
          subst hov hrv
          have htl := tdim_le HOK.out n
          rw [← htd] at htl
          clear hRR hLV htd HO
          have hlx : ¬ ((n + 1 : Nat) : Int) ≤ (n : Int) := by omega
          have HSV := Lib.hid (HS.out.next HBE.out)
          by_cases hbig : (8 : Int) < (td : Int)
          · have HEX : Hid (Exc (tD ds)) := Lib.hid (tg_big (by rw [← HTOP.out]; exact hlt) (by rw [← HTD.out]; omega))
            have HBQ := Lib.hid HSV.out.below
            have HZ : Hid (wv.heap[w.heap.size + 1]? = some (.cells Z4 50 (0, 0))) := Lib.hid ((HNX.out _ HBQ.out).2.2)
            have HWR : Hid (Below w.heap.size w (wv.setRow (w.heap.size + 1) #[.int .i64 0, .slice none 0 0, .slice none 0 0, .slice none 0 0])) := Lib.hid (below_setRow (HW0.out _ (HBQ.out)) (Nat.le_succ _) _)
            obtain ⟨WF, hWF⟩ : ∃ WF, WF = wv.setRow (w.heap.size + 1) #[.int .i64 0, .slice none 0 0, .slice none 0 0, .slice none 0 0] := ⟨_, rfl⟩
            have hRz : Rz WF (w.heap.size + 1) 50 #[.int .i64 0, .slice none 0 0, .slice none 0 0, .slice none 0 0] := by rw [hWF]; exact Rz.set HZ.out _
            have f0 := hRz.cell (i := 0) (v := _) rfl
            have f1 := hRz.cell (i := 1) (v := _) rfl
            have f2 := hRz.cell (i := 2) (v := _) rfl
            have f3 := hRz.cell (i := 3) (v := _) rfl
            rw [← hWF] at HWR
            have HWF := Lib.hid hWF
            clear hRz hWF
            go_wp2_with (with_reducible refine wpList_store_row rfl 50 (.tmp 4) (.tmp 133) rfl (w.heap.size + 1) #[.int .i64 0, .slice none 0 0, .slice none 0 0, .slice none 0 0] rfl rfl 50 Z4 HZ.out (infoFl _ _ _ _) rfl (by kernel_rfl) ?_)
            rw [← HWF.out]
            go_wp2
            refine bodyPost_ret (v := .tuple #[.agg #[.int .i64 0, .slice none 0 0, .slice none 0 0, .slice none 0 0], .bool false]) ?_ rfl ?_
            · simp only [results, HRES.out]
              go_simp
            · exact ⟨HWR.out, .inl ⟨HEX.out, rfl⟩⟩
          obtain ⟨TK, hTK⟩ : ∃ TK, TK = (tD ds).take n := ⟨_, rfl⟩
          rw [← hTK] at HSV
          have HKL : Hid (TK.length = n) := Lib.hid (by rw [hTK, List.length_take, tD_len, ← HTOP.out]; omega)
          have HXE : Hid ((tD ds).take (n + 1) = TK ++ [(td : Int)]) := Lib.hid (by rw [hTK, HTD.out]; exact tD_take (by rw [← HTOP.out]; exact hlt))
          obtain ⟨TL, hTL⟩ : ∃ TL, TL = (tL false ds).take n := ⟨_, rfl⟩
          rw [← hTL] at HSV
          have HTLL : Hid (TL.length = n) := Lib.hid (by rw [hTL, List.length_take, tL_len, ← HTOP.out]; omega)
          have HTLE : Hid ((tL false ds).take (n + 1) = TL ++ [LV]) := Lib.hid (by rw [hTL, HLVE.out]; exact tL_take false (by rw [← HTOP.out]; exact hlt))
          clear hTK hTL HS
          have hbe : Below wv.heap.size wv (wv.alloc (.cells #[.int .i64 (td : Int)] 2)) := below_alloc1 _ _
          have HSE := Lib.hid (HSV.out.next hbe)
          have HOE := Lib.hid (HOW.out.below hbe)
          have HVE := Lib.hid (HV.out.below hbe)
          have hcell := cell_alloc1 wv (.int .i64 (td : Int)) 2
          have HDM := Lib.hid HSE.out.dims
          have HC4 : Hid (w1.heap.size ≤ (wv.alloc (.cells #[.int .i64 (td : Int)] 2)).heap.size) := Lib.hid HSE.out.below.size
          have HC3 : Hid (TK.length ≤ 2097151) := Lib.hid (by rw [HKL.out]; omega)
          have g1 : wv.cell? ⟨g, 1, none⟩ = some (.slice a1 n cc1) := HSV.out.box.cell (i := 1) (by omega)
          clear hbe
          go_wp2_with (at_builtin; refine wpList_appendB1l rfl (some 139) rfl (.tmp 135) (.tmp 138) rfl w1.heap.size (.slice a1 n cc1) TK rfl HDM.out wv.heap.size rfl (td : Int) hcell HC3.out HC4.out ?_)
          rw [HKL.out]
          intro g9 c9 w9 hn9 hgw hlw
          have hlw2 : Value.ownBlock (.slice a1 n cc1) = some g9 ∨ g9 = (wv.alloc (.cells #[.int .i64 (td : Int)] 2)).heap.size := hlw.imp id (fun h => by simpa using h)
          have HS9 : Hid (Tgs w1 (w9.setCell ⟨g, 1, none⟩ (.slice (some ⟨g9, 0, none⟩) (n + 1) c9)) g p (.slice (some ⟨g9, 0, none⟩) (n + 1) c9) (.slice a2 q cc2) (.slice a3 n cc3) ((tD ds).take (n + 1)) ((tM ds ac dn).take q) TL) := Lib.hid (by rw [HXE.out]; exact HSE.out.stepD hgw hn9 hlw2)
          have hrb := row_grown HSE.out.box HSE.out.dims coT.1 hgw
          have hmv : ∀ g2, some g9 = some g2 → Value.ownBlock (.slice a1 n cc1) = some g2 ∨ (wv.alloc (.cells #[.int .i64 (td : Int)] 2)).heap.size ≤ g2 := fun g2 e => by
            injection e with e
            subst e
            rcases hlw2 with hl | hl
            · exact Or.inl hl
            · exact Or.inr (Nat.le_of_eq hl.symm)
          have HOO : Hid (OffB (Value.ownBlock (.slice a1 n cc1)) (.slice ao td co)) := Lib.hid (fun g hg e => by have h1 := HDBL.out g (by rw [HDBE.out]; exact e); have h2 := (HOE.out.lt g hg).1; omega)
          have HO9 : Hid (Gb wx.heap.size (w9.setCell ⟨g, 1, none⟩ (.slice (some ⟨g9, 0, none⟩) (n + 1) c9)) (.slice ao td co) LV) := Lib.hid (by have h0 : Gb wx.heap.size w9 (.slice ao td co) LV := owns_grown_off HOE.out HOO.out hgw; exact h0.off hrb coT.1 _ _)
          have HOF9 : Hid (OffB (some g9) (.slice ao td co)) := Lib.hid (fun g0 hg0 e => by
            rcases hmv g0 e with h3 | h3
            · exact HOO.out g0 hg0 h3
            · have := (HOE.out.lt g0 hg0).2; omega)
          have HV9 : Hid (Grb (some g9) wx.heap.size (w9.setCell ⟨g, 1, none⟩ (.slice (some ⟨g9, 0, none⟩) (n + 1) c9)) (.slice ar RR.length cr) RR) := Lib.hid (by have h0 := HVE.out; rw [HDBE.out] at h0; exact (h0.turnD HSE.out.dims hgw hmv).off hrb ⟨coT.1, coT.2.1⟩ _ _)
          have z1 : w9.cell? ⟨g, 1, none⟩ = some (.slice a1 n cc1) := hrb.cell (i := 1) (by omega)
          have z2 : w9.frozen? ⟨g, 1, none⟩ = false := hrb.frozen 1
          obtain ⟨wf, hwf⟩ : ∃ wf, wf = (w9.setCell ⟨g, 1, none⟩ (.slice (some ⟨g9, 0, none⟩) (n + 1) c9)) := ⟨_, rfl⟩
          rw [← hwf] at HS9 HO9 HV9
          clear hn9 hgw hlw hlw2 hmv hrb hcell g1 HSE HSV HDM HOE HVE HOW HV HOO
          go_upto_region 33 with fail
          rw [← hwf]
          clear hwf z1 z2
          have hbl : Below wf.heap.size wf (wf.alloc (.cells #[.slice ao td co] 35)) := below_alloc1 _ _
          have HSL := Lib.hid (HS9.out.next hbl)
          have HOL := Lib.hid (HO9.out.below hbl)
          have HVL := Lib.hid (HV9.out.below hbl)
          have hcell := cell_alloc1 wf (.slice ao td co) 35
          have HLVL : Hid (Grb (some g9) w1.heap.size (wf.alloc (.cells #[.slice ao td co] 35)) (.slice a3 n cc3) TL) := Lib.hid HSL.out.lv
          have HC5 : Hid (TL.length ≤ 2097151) := Lib.hid (by rw [HTLL.out]; omega)
          have HG1 := Lib.hid HOL.out.g1
          have HC6 : Hid (w1.heap.size ≤ (wf.alloc (.cells #[.slice ao td co] 35)).heap.size) := Lib.hid HSL.out.below.size
          clear hbl
          go_wp2_with (at_builtin; refine wpList_appendS1l rfl (some 144) rfl (.tmp 141) (.tmp 143) rfl (some g9) w1.heap.size (.slice a3 n cc3) TL rfl HLVL.out wf.heap.size rfl ao td co hcell LV HG1.out HOF9.out HC5.out HC6.out ?_)
          rw [HTLL.out]
          intro g8 c8 w8 hn8 hgw8 hlw8
          have HS8 : Hid (Tgs w1 w8 g p (.slice (some ⟨g9, 0, none⟩) (n + 1) c9) (.slice a2 q cc2) (.slice (some ⟨g8, 0, none⟩) (n + 1) c8) ((tD ds).take (n + 1)) ((tM ds ac dn).take q) ((tL false ds).take (n + 1))) := Lib.hid (by rw [HTLE.out]; exact HSL.out.stepL hgw8 hn8 hlw8)
          have HVO : Hid (OffB (Value.ownBlock (.slice a3 n cc3)) (.slice ar RR.length cr)) := Lib.hid (fun g0 hg0 e => by have h1 := HL3X.out g0 e; have h2 := (HVL.out.lt hg0).1; omega)
          have HV8 : Hid (Gr (some g9) w8 (.slice ar RR.length cr) RR) := Lib.hid (by obtain ⟨us, hu, _⟩ := HLVL.out; exact HVL.out.gr.turnL HVO.out hu hgw8)
          have HVO8 : Hid (OffB (some g8) (.slice ar RR.length cr)) := Lib.hid (fun g0 hg0 e => by
            injection e with e
            subst e
            rcases hlw8 with hl | hl
            · exact HVO.out _ hg0 hl
            · have := (HVL.out.lt hg0).2; omega)
          clear hn8 hgw8 hlw8 hcell HSL HOL HVL HLVL HS9 HO9 HV9
          have H8N : Hid (∀ s, s < n + 1 → tdim ds s ≤ 8) := Lib.hid (fun s hs => by
            by_cases e : s = n
            · rw [e, ← HTD.out]; omega
            · exact H8.out s (by omega))
          by_cases hn00 : n = 0
          · have hnz : ¬ (0 : Int) < (n : Int) := by omega
            have HQ2 : Hid (q = n + 1 - 1) := Lib.hid (by have := HQN.out; omega)
            clear hn00
            go_wp2
            go_roundw
            case rel => exact ⟨n + 1, q, _, _, _, _, _, _, by omega, by go_num, rfl, HQ2, HS8, H8N⟩
            case measure => simp [intOf]; omega
          · have hnz : (0 : Int) < (n : Int) := by omega
            have hqn : q + 1 = n := by have := HQN.out; omega
            obtain ⟨TQ, hTQ⟩ : ∃ TQ, TQ = (tM ds ac dn).take q := ⟨_, rfl⟩
            rw [← hTQ] at HS8
            have HQL : Hid (TQ.length = q) := Lib.hid (by rw [hTQ, List.length_take, tM_len, ← HTOP.out]; omega)
            have HXM : Hid ((tM ds ac dn).take (q + 1) = TQ ++ [RR]) := Lib.hid (by rw [hTQ, HRRE.out, ← hqn, rwp_all]; exact tM_take (by rw [← HTOP.out]; omega))
            have g2' : w8.cell? ⟨g, 2, none⟩ = some (.slice a2 q cc2) := HS8.out.box.cell (i := 2) (by omega)
            have hbm : Below w8.heap.size w8 (w8.alloc (.cells #[.slice ar RR.length cr] 22)) := below_alloc1 _ _
            have HSM := Lib.hid (HS8.out.next hbm)
            have HVM := Lib.hid (HV8.out.below hbm)
            have hcell := cell_alloc1 w8 (.slice ar RR.length cr) 22
            have HMT : Hid (Gtp (some g9) (some g8) w1.heap.size (w8.alloc (.cells #[.slice ar RR.length cr] 22)) (.slice a2 q cc2) TQ) := Lib.hid HSM.out.maps
            have HC7 : Hid (TQ.length ≤ 2097151) := Lib.hid (by rw [HQL.out]; omega)
            have HC8 : Hid (w1.heap.size ≤ (w8.alloc (.cells #[.slice ar RR.length cr] 22)).heap.size) := Lib.hid HSM.out.below.size
            clear hbm hTQ
            go_wp2_with (at_builtin; refine wpList_appendT1p rfl (some 151) rfl (.tmp 148) (.tmp 150) rfl w1.heap.size (.slice a2 q cc2) TQ rfl (some g9) (some g8) HMT.out w8.heap.size rfl ar RR.length cr hcell RR HVM.out HVO8.out HC7.out HC8.out ?_)
            rw [HQL.out]
            intro g7 c7 w7 hn7 hgw7
            have HS7 : Hid (Tgs w1 (w7.setCell ⟨g, 2, none⟩ (.slice (some ⟨g7, 0, none⟩) (q + 1) c7)) g p (.slice (some ⟨g9, 0, none⟩) (n + 1) c9) (.slice (some ⟨g7, 0, none⟩) (q + 1) c7) (.slice (some ⟨g8, 0, none⟩) (n + 1) c8) ((tD ds).take (n + 1)) ((tM ds ac dn).take (q + 1)) ((tL false ds).take (n + 1))) := Lib.hid (by rw [HXM.out]; exact HSM.out.stepM hgw7 hn7)
            obtain ⟨vs7, ho7, _⟩ := HSM.out.maps
            have hrb := row_grown HSM.out.box ho7 coT.2.2 hgw7
            have z1 : w7.cell? ⟨g, 2, none⟩ = some (.slice a2 q cc2) := hrb.cell (i := 2) (by omega)
            have z2 : w7.frozen? ⟨g, 2, none⟩ = false := hrb.frozen 2
            clear hn7 hgw7 hrb hcell HSM HMT ho7 HVM g2'
            have HQ3 : Hid (q + 1 = n + 1 - 1) := Lib.hid (by omega)
            clear hqn
            go_wp2
            go_roundw
            case rel => exact ⟨n + 1, q + 1, _, _, _, _, _, _, by omega, by go_num, rfl, HQ3, HS7, H8N⟩
            case measure => simp [intOf]; omega
    · obtain rfl : n = top + 1 := by omega
      have hlx : ¬ ((top + 1 : Nat) : Int) ≤ (m : Int) + (hh : Int) - 2 := by omega
      have HNE : Hid (¬ Exc (tD ds)) := Lib.hid (tg_not (by rw [← HTOP.out]; exact ht5) (fun s hs => H8.out s (by have := HTOP.out; omega)))
      have g0' : wx.cell? ⟨g, 0, none⟩ = some (.int .i64 p) := HS.out.box.cell (i := 0) (by omega)
      have g1' : wx.cell? ⟨g, 1, none⟩ = some (.slice a1 (top + 1) cc1) := HS.out.box.cell (i := 1) (by omega)
      have g2' : wx.cell? ⟨g, 2, none⟩ = some (.slice a2 q cc2) := HS.out.box.cell (i := 2) (by omega)
      have HBQ := HBX
      have HL1F : Hid (Gb w.heap.size (wx.setRow (w.heap.size + 1) #[.int .i64 p, .slice a1 (top + 1) cc1, .slice a2 q cc2, .slice a3 (top + 1) cc3]) (.slice a1 (top + 1) cc1) (tD ds) ∧ Gt w.heap.size (wx.setRow (w.heap.size + 1) #[.int .i64 p, .slice a1 (top + 1) cc1, .slice a2 q cc2, .slice a3 (top + 1) cc3]) (.slice a2 q cc2) (tM ds ac dn) ∧ Gs w.heap.size (wx.setRow (w.heap.size + 1) #[.int .i64 p, .slice a1 (top + 1) cc1, .slice a2 q cc2, .slice a3 (top + 1) cc3]) (.slice a3 (top + 1) cc3) (tL false ds)) := Lib.hid (by
        have e1 : (tD ds).take (top + 1) = tD ds := List.take_of_length_le (by rw [tD_len, ← HTOP.out]; omega)
        have e2 : (tM ds ac dn).take q = tM ds ac dn := List.take_of_length_le (by rw [tM_len, ← HTOP.out]; have := HQN.out; omega)
        have e3 : (tL false ds).take (top + 1) = tL false ds := List.take_of_length_le (by rw [tL_len, ← HTOP.out]; omega)
        have k1 := HS.out.dims
        have k2 := HS.out.maps.gto.gt
        have k3 := HS.out.lv.gs
        rw [e1] at k1
        rw [e2] at k2
        rw [e3] at k3
        exact tt_keep (HNX.out _ HBX.out).2.2 k1 k2 k3 (by omega))
      have HZ : Hid (wx.heap[w.heap.size + 1]? = some (.cells Z4 50 (0, 0))) := Lib.hid ((HNX.out _ HBQ.out).2.2)
      have HWR : Hid (Below w.heap.size w (wx.setRow (w.heap.size + 1) #[.int .i64 p, .slice a1 (top + 1) cc1, .slice a2 q cc2, .slice a3 (top + 1) cc3])) := Lib.hid (below_setRow (HW0.out _ (HBQ.out)) (Nat.le_succ _) _)
      obtain ⟨WF, hWF⟩ : ∃ WF, WF = wx.setRow (w.heap.size + 1) #[.int .i64 p, .slice a1 (top + 1) cc1, .slice a2 q cc2, .slice a3 (top + 1) cc3] := ⟨_, rfl⟩
      have hRz : Rz WF (w.heap.size + 1) 50 #[.int .i64 p, .slice a1 (top + 1) cc1, .slice a2 q cc2, .slice a3 (top + 1) cc3] := by rw [hWF]; exact Rz.set HZ.out _
      have f0 := hRz.cell (i := 0) (v := _) rfl
      have f1 := hRz.cell (i := 1) (v := _) rfl
      have f2 := hRz.cell (i := 2) (v := _) rfl
      have f3 := hRz.cell (i := 3) (v := _) rfl
      rw [← hWF] at HWR
      have HWF := Lib.hid hWF
      clear hRz hWF
      go_wp2_with (with_reducible refine wpList_store_row rfl 50 (.tmp 4) (.tmp 155) rfl (w.heap.size + 1) #[.int .i64 p, .slice a1 (top + 1) cc1, .slice a2 q cc2, .slice a3 (top + 1) cc3] rfl rfl 50 Z4 HZ.out (infoFl _ _ _ _) rfl (by kernel_rfl) ?_)
      rw [← HWF.out]
      go_wp2
      refine bodyPost_ret (v := .tuple #[.agg #[.int .i64 p, .slice a1 (top + 1) cc1, .slice a2 q cc2, .slice a3 (top + 1) cc3], .bool true]) ?_ rfl ?_
      · simp only [results, HRES.out]
        go_simp
      · exact ⟨HWR.out, .inr ⟨HNE.out, _, _, _, rfl, by rw [HWF.out]; exact HL1F.out.1, by rw [HWF.out]; exact HL1F.out.2.1, by rw [HWF.out]; exact HL1F.out.2.2⟩⟩
end Go.Proofs.Ytlopenephgabhaa


namespace Go.Proofs.Ytlopenephgabhaa
open Go.RowKit

set_option maxHeartbeats 51200000 in
set_option maxRecDepth 100000 in
theorem l03TotalT_any (p : Int) (dv av vv : Value) (ds : List (List Int)) (ac dn : List (List (List (List Int)))) (w : World) (h : Dx 0 w dv av vv ds ac dn) (hdb : IsDb p ds ac dn) :
    Calls Try.prog 70 #[.agg #[.int .i64 p, dv, av, vv], .bool true] w (TtR true p ds ac dn w) := by
  have hres : Try.f70.results = #[.cell 4 50, .tmp 5] := by kernel_rfl
  have HRES := Lib.hid hres
  have HDB := Lib.hid hdb
  have HOK := Lib.hid hdb.cel
  have HTB := Lib.hid hdb.tbs
  have hm4 := hdb.cel.len1
  have hm1 := hdb.cel.len0
  have hq1 := hdb.cel.h0
  have hq4 := hdb.cel.h1
  have HX := Lib.hid h
  rcases h.dims with ⟨hx, _⟩ | ⟨bb, o, cd, rfl, _, hpos, hcl⟩
  · subst hx; simp at hm1
  obtain ⟨u0, hu0, hr0⟩ := hcl 0 hpos
  rw [Nat.add_zero] at hu0
  obtain ⟨a0, z0, rfl⟩ := Sl.shape hr0
  rw [← getD_of_lt [] hpos] at hu0
  clear hcl hr0 h hdb hres
  obtain ⟨va, hva⟩ : ∃ v, v = av := ⟨_, rfl⟩
  obtain ⟨ad2, cd2, rfl⟩ := Sl.shape HX.out.across
  obtain ⟨ad3, cd3, rfl⟩ := Sl.shape HX.out.down
  clear hva va
  have HLA := Lib.hid HTB.out.la
  have HLD := Lib.hid HTB.out.ld
  obtain ⟨m, hm⟩ : ∃ m, m = ds.length := ⟨_, rfl⟩
  rw [HTB.out.la, HTB.out.ld, ← hm] at HX ⊢
  obtain ⟨hh, hhh⟩ : ∃ q, q = (ds.getD 0 []).length := ⟨_, rfl⟩
  obtain ⟨top, htop⟩ : ∃ t, t = ttop ds := ⟨_, rfl⟩
  have hmh : m + hh = top + 2 := by rw [htop]; unfold ttop; omega
  have HTOP := Lib.hid htop
  rw [← hm] at hm4 hm1 hpos
  rw [← hhh] at hq1 hq4 hu0
  obtain ⟨wa, hwa⟩ : ∃ wa, wa = w.alloc (.cells #[.int .i64 p, .slice (some ⟨bb, o, none⟩) m cd, .slice ad2 m cd2, .slice ad3 m cd3] 28) := ⟨_, rfl⟩
  obtain ⟨wi, hwi⟩ : ∃ wi, wi = wa.alloc (.cells #[.int .i64 0, .slice none 0 0, .slice none 0 0, .slice none 0 0] 50) := ⟨_, rfl⟩
  obtain ⟨w1, hw1⟩ : ∃ w1, w1 = wi.drew := ⟨_, rfl⟩
  have hsa : wa.heap.size = w.heap.size + 1 := by rw [hwa]; simp
  have hs1 : w.heap.size + 2 ≤ w1.heap.size := by rw [hw1]; show _ ≤ wi.heap.size; rw [hwi]; simp [hsa]
  have hba : Below wa.heap.size wa w1 := by rw [hw1, hwi]; exact (below_alloc1 _ _).drew
  have hxa : DBx w wa w.heap.size p (.slice (some ⟨bb, o, none⟩) m cd) (.slice ad2 m cd2) (.slice ad3 m cd3) ds ac dn := by rw [hwa]; exact DBx.start 28 HX.out
  have HX1 := Lib.hid (hxa.next hba)
  have hu1 := later HX1.out.below (Nat.le_refl _) hu0
  have HU1 := Lib.hid hu1
  have HR0 : Hid (Rz w1 (w.heap.size + 1) 50 Z4) := Lib.hid (by have h0 : Rz wi (w.heap.size + 1) 50 Z4 := (by rw [hwi, ← hsa]; exact Rz.new _ _ _); rw [hw1]; exact h0.next (Below.refl _ _).drew)
  have HM := Lib.hid hm
  have HQ := Lib.hid hhh
  have HNX : Hid (∀ W, Below w1.heap.size w1 W → DBx w W w.heap.size p (.slice (some ⟨bb, o, none⟩) m cd) (.slice ad2 m cd2) (.slice ad3 m cd3) ds ac dn ∧ W.cell? ⟨bb, o, none⟩ = some (.slice a0 hh z0) ∧ Rz W (w.heap.size + 1) 50 Z4) := Lib.hid (fun W hb => ⟨HX1.out.next hb, later hb (Nat.le_refl _) HU1.out, HR0.out.next hb⟩)
  have HW0 : Hid (∀ W, Below w1.heap.size w1 W → Below w.heap.size w W) := Lib.hid (fun W hb => (HNX.out W hb).1.below)
  have HDIM : Hid (∀ W, Below w1.heap.size w1 W → ∀ n x : Nat, n ≤ 100 → x ≤ n → Calls Try.prog 90 #[.agg #[.int .i64 p, .slice (some ⟨bb, o, none⟩) m cd, .slice ad2 m cd2, .slice ad3 m cd3], .int .i64 (x : Int), .int .i64 ((n : Int) - (x : Int))] W fun r w' => r = .returned (.int .i64 ((tgD ds n x : Nat) : Int)) ∧ Below W.heap.size W w') := Lib.hid (fun W hb n x hn hx => by
    have h0 := l03Dim_any p (x : Int) ((n : Int) - (x : Int)) _ (.slice ad2 m cd2) (.slice ad3 m cd3) ds W (HNX.out W hb).1.dx.dims HOK.out (by omega) (by omega)
    rwa [show (n : Int) - (x : Int) = ((n - x : Nat) : Int) by omega, tg_dco HOK.out n x, show ((n - x : Nat) : Int) = (n : Int) - (x : Int) by omega] at h0)
  have c0 := HX1.out.c0
  have c1 := HX1.out.c1
  have c2 := HX1.out.c2
  have c3 := HX1.out.c3
  have hwp1 : IntKind.i64.wrap ((m : Int) + (hh : Int)) = (m : Int) + (hh : Int) := IntWalk.i64_in _ (by omega)
  have hwp2 : IntKind.i64.wrap ((m : Int) + (hh : Int) - 2) = (m : Int) + (hh : Int) - 2 := IntWalk.i64_in _ (by omega)
  clear hm hhh hxa hba hu0 htop
  go_enter Try.func70, Try.ntmps70
  go_upto_region 1 with fail
  rw [← hwa, ← hwi]
  refine wp_region_held (S := fun W => Below w1.heap.size w1 W) (by kernel_rfl) ?_
  change wpAnyH _ _ _ _ _ _ _ _ wi.drew
  rw [← hw1]
  have S0 : Below w1.heap.size w1 w1 := Below.refl _ _
  refine held_take (i := 0) (v := .pointer (some ⟨w.heap.size, 1, none⟩)) (some 17) rfl rfl (by kernel_rfl) (by kernel_rfl) (by kernel_rfl) (fun _ _ _ h => h) (yieldsIf_run (by kernel_rfl) (fun W _ => by kernel_rfl)) S0 ?_
  refine held_take (i := 1) (v := (.slice (some ⟨bb, o, none⟩) m cd)) (some 18) rfl rfl (by kernel_rfl) (by kernel_rfl) (by kernel_rfl) (fun _ _ _ h => h) (yieldsIf_cell (by kernel_rfl) rfl (by kernel_rfl) (fun W h => hload2s W (HNX.out W h).1.c1)) S0 ?_
  refine held_take (i := 2) (v := (.int .i64 (m : Int))) (some 19) rfl rfl (by kernel_rfl) (by kernel_rfl) (by kernel_rfl) (fun _ _ _ h => h) (yieldsIf_run (by kernel_rfl) (fun W _ => by kernel_rfl)) S0 ?_
  refine held_take (i := 3) (v := .pointer (some ⟨w.heap.size, 1, none⟩)) (some 20) rfl rfl (by kernel_rfl) (by kernel_rfl) (by kernel_rfl) (fun _ _ _ h => h) (yieldsIf_run (by kernel_rfl) (fun W _ => by kernel_rfl)) S0 ?_
  refine held_take (i := 4) (v := (.slice (some ⟨bb, o, none⟩) m cd)) (some 21) rfl rfl (by kernel_rfl) (by kernel_rfl) (by kernel_rfl) (fun _ _ _ h => h) (yieldsIf_cell (by kernel_rfl) rfl (by kernel_rfl) (fun W h => hload2s W (HNX.out W h).1.c1)) S0 ?_
  refine held_take (i := 5) (v := .pointer (some ⟨bb, o + 0, none⟩)) (some 22) rfl rfl (by kernel_rfl) (by kernel_rfl) (by kernel_rfl) (fun _ _ _ h => h) (yieldsIf_index (by kernel_rfl) rfl (by kernel_rfl) (by kernel_rfl) (hidxS bb o cd (k := 0) hpos)) S0 ?_
  refine held_take (i := 6) (v := (.slice a0 hh z0)) (some 23) rfl rfl (by kernel_rfl) (by kernel_rfl) (by kernel_rfl) (fun _ _ _ h => h) (yieldsIf_cell (by kernel_rfl) rfl (by kernel_rfl) (fun W h => hload1s W (HNX.out W h).2.1)) S0 ?_
  refine held_take (i := 7) (v := (.int .i64 (hh : Int))) (some 24) rfl rfl (by kernel_rfl) (by kernel_rfl) (by kernel_rfl) (fun _ _ _ h => h) (yieldsIf_run (by kernel_rfl) (fun W _ => by kernel_rfl)) S0 ?_
  refine held_take (i := 8) (v := (.int .i64 (m : Int))) (some 6) rfl rfl (by kernel_rfl) (by kernel_rfl) (by kernel_rfl) (fun _ _ _ h => h) (yieldsIf_assign (by kernel_rfl) rfl (by kernel_rfl)) S0 ?_
  refine held_take (i := 9) (v := (.int .i64 (hh : Int))) (some 7) rfl rfl (by kernel_rfl) (by kernel_rfl) (by kernel_rfl) (fun _ _ _ h => h) (yieldsIf_assign (by kernel_rfl) rfl (by kernel_rfl)) S0 ?_
  refine wpAnyH_done (by kernel_rfl) ?_ _
  simp only [Act.put, List.setIfInBounds_toArray, List.set_cons_zero, List.set_cons_succ]
  have hcm : (0 : Int) < (m : Int) := by omega
  clear S0 hwa hwi hw1 hsa
  obtain ⟨wp, hwp⟩ : ∃ wp, wp = w1.alloc (.cells #[] 2) := ⟨_, rfl⟩
  obtain ⟨wq, hwq⟩ : ∃ wq, wq = wp.alloc (.cells #[] 22) := ⟨_, rfl⟩
  have hsp : wp.heap.size = w1.heap.size + 1 := by rw [hwp]; simp
  have hsq : wq.heap.size = w1.heap.size + 2 := by rw [hwq]; simp [hsp]
  obtain ⟨wo, hwo⟩ : ∃ wo, wo = wq.alloc (.cells #[.int .i64 p, .slice (some ⟨w1.heap.size, 0, none⟩) 0 0, .slice (some ⟨w1.heap.size + 1, 0, none⟩) 0 0] 38) := ⟨_, rfl⟩
  have hso : wo.heap.size = w1.heap.size + 1 + 1 + 1 := by rw [hwo]; simp [hsq]
  obtain ⟨wl, hwl⟩ : ∃ wl, wl = wo.alloc (.cells #[] 35) := ⟨_, rfl⟩
  have HS0 : Hid (Tgs w1 wl (w1.heap.size + 1 + 1) p (.slice (some ⟨w1.heap.size, 0, none⟩) 0 0) (.slice (some ⟨w1.heap.size + 1, 0, none⟩) 0 0) (.slice (some ⟨w1.heap.size + 1 + 1 + 1, 0, none⟩) 0 0) [] [] []) := Lib.hid (by
    have b1 : Below w1.heap.size w1 wp := by rw [hwp]; exact below_alloc1 _ _
    have b2 : Below wp.heap.size wp wq := by rw [hwq]; exact below_alloc1 _ _
    have b3 : Below wq.heap.size wq wo := by rw [hwo]; exact below_alloc1 _ _
    have b4 : Below wo.heap.size wo wl := by rw [hwl]; exact below_alloc1 _ _
    have g1 : Gb w1.heap.size wp (.slice (some ⟨w1.heap.size, 0, none⟩) 0 0) [] := by rw [hwp]; exact Gb.new w1 (Nat.le_refl _)
    have g2 : Gt w1.heap.size wq (.slice (some ⟨w1.heap.size + 1, 0, none⟩) 0 0) [] := by
      have := Gt.new (base := w1.heap.size) wp (by omega)
      rw [hsp] at this
      rw [hwq]
      exact this
    have g3 : Gs w1.heap.size wl (.slice (some ⟨w1.heap.size + 1 + 1 + 1, 0, none⟩) 0 0) [] := by
      have := Gs.new (base := w1.heap.size) wo (by omega)
      rw [hso] at this
      rw [hwl]
      exact this
    have hbx : wo.rowIs (w1.heap.size + 1 + 1) 38 3 (sel3 (.int .i64 p) (.slice (some ⟨w1.heap.size, 0, none⟩) 0 0) (.slice (some ⟨w1.heap.size + 1, 0, none⟩) 0 0)) := by
      refine rowIs3 ?_
      have := heap_alloc_new wq (.cells #[.int .i64 p, .slice (some ⟨w1.heap.size, 0, none⟩) 0 0, .slice (some ⟨w1.heap.size + 1, 0, none⟩) 0 0] 38)
      rw [← hwo, hsq] at this
      exact this
    exact ⟨((b1.trans (b2.mono (by omega))).trans (b3.mono (by omega))).trans (b4.mono (by omega)), by omega, hbx.of_block (b4.block _ hbx.lt), ((g1.below b2).below b3).below b4, Gtp.nil ((g2.below b3).below b4), Grb.start g3⟩)
  obtain ⟨g, hg⟩ : ∃ g, g = w1.heap.size + 1 + 1 := ⟨_, rfl⟩
  have hg3 : w1.heap.size + 1 + 1 + 1 = g + 1 := by omega
  go_upto_region 4 with fail
  rw [← hwp, ← hwq, ← hwo, ← hwl]
  rw [← hg]
  rw [hg3, ← hg] at HS0
  clear hwp hwq hwo hwl hsp hsq hso hg hg3 c0 c2 c3 c1
  by_cases hfit : (5 : Int) < (m : Int) + (hh : Int) - 2
  · have HEX : Hid (Exc (tD ds)) := Lib.hid (tg_top (by rw [← HTOP.out]; omega))
    have HBQ := Lib.hid HS0.out.below
    have HZ : Hid (wl.heap[w.heap.size + 1]? = some (.cells Z4 50 (0, 0))) := Lib.hid ((HNX.out _ HBQ.out).2.2)
    have HWR : Hid (Below w.heap.size w (wl.setRow (w.heap.size + 1) #[.int .i64 0, .slice none 0 0, .slice none 0 0, .slice none 0 0])) := Lib.hid (below_setRow (HW0.out _ (HBQ.out)) (Nat.le_succ _) _)
    obtain ⟨WF, hWF⟩ : ∃ WF, WF = wl.setRow (w.heap.size + 1) #[.int .i64 0, .slice none 0 0, .slice none 0 0, .slice none 0 0] := ⟨_, rfl⟩
    have hRz : Rz WF (w.heap.size + 1) 50 #[.int .i64 0, .slice none 0 0, .slice none 0 0, .slice none 0 0] := by rw [hWF]; exact Rz.set HZ.out _
    have f0 := hRz.cell (i := 0) (v := _) rfl
    have f1 := hRz.cell (i := 1) (v := _) rfl
    have f2 := hRz.cell (i := 2) (v := _) rfl
    have f3 := hRz.cell (i := 3) (v := _) rfl
    rw [← hWF] at HWR
    have HWF := Lib.hid hWF
    clear hRz hWF
    go_wp2_with (with_reducible refine wpList_store_row rfl 50 (.tmp 4) (.tmp 36) rfl (w.heap.size + 1) #[.int .i64 0, .slice none 0 0, .slice none 0 0, .slice none 0 0] rfl rfl 50 Z4 HZ.out (infoFl _ _ _ _) rfl (by kernel_rfl) ?_)
    rw [← HWF.out]
    go_wp2
    refine bodyPost_ret (v := .tuple #[.agg #[.int .i64 0, .slice none 0 0, .slice none 0 0, .slice none 0 0], .bool false]) ?_ rfl ?_
    · simp only [results, HRES.out]
      go_simp
    · exact ⟨HWR.out, .inl ⟨HEX.out, rfl⟩⟩
  have ht5 : top ≤ 5 := by omega
  go_wp2
  clear hfit
  go_loopw [9, 10, 11, 12, 13, 14, 15, 16] (fun lv i _ _ _ _ _ _ wr => ∃ (n q : Nat) (a1 a2 a3 : Option Addr) (c1 c2 c3 : Nat), n ≤ top + 1 ∧ i = .int .i64 n ∧ lv = .slice a3 n c3 ∧ Hid (q = n - 1) ∧ Hid (Tgs w1 wr g p (.slice a1 n c1) (.slice a2 q c2) (.slice a3 n c3) ((tD ds).take n) ((tM ds ac dn).take q) ((tL true ds).take n)) ∧ Hid (∀ s, s < n → tdim ds s ≤ 8)) (fun _ i _ _ _ _ _ _ _ => top + 1 - (intOf i).toNat)
  case atStart => exact ⟨0, 0, _, _, _, _, _, _, Nat.zero_le _, rfl, rfl, Lib.hid rfl, by simpa using HS0, Lib.hid (fun _ h => absurd h (Nat.not_lt_zero _))⟩
  case round =>
    clear HS0
    obtain ⟨n, q, a1, a2, a3, cc1, cc2, cc3, hn, rfl, rfl, HQN, HS, H8⟩ := hrel
    obtain ⟨wx, hwx⟩ : ∃ wx : World, wx = wr := ⟨_, rfl⟩
    subst hwx
    have HBX := Lib.hid HS.out.below
    have hsx : w1.heap.size ≤ wx.heap.size := HBX.out.size
    have hgB := HS.out.lo
    obtain ⟨db, hdb⟩ : ∃ db, db = Value.ownBlock (.slice a1 n cc1) := ⟨_, rfl⟩
    have HDBL : Hid (∀ g, db = some g → g < wx.heap.size) := Lib.hid (fun g hg => (HS.out.dims.lt g (by rw [← hdb]; exact hg)).2)
    have HDBE := Lib.hid hdb
    have HL3X : Hid (∀ g, Value.ownBlock (.slice a3 n cc3) = some g → g < wx.heap.size) := Lib.hid (fun g hg => (HS.out.lv.lt hg).2)
    clear hdb
    by_cases hlt : n ≤ top
    · have hleq : (n : Int) ≤ (m : Int) + (hh : Int) - 2 := by omega
      obtain ⟨wy, hwy⟩ : ∃ wy, wy = wx.alloc (.cells #[] 2) := ⟨_, rfl⟩
      obtain ⟨wz, hwz⟩ : ∃ wz, wz = wy.alloc (.cells #[] 35) := ⟨_, rfl⟩
      have hsy : wy.heap.size = wx.heap.size + 1 := by rw [hwy]; simp
      have hby : Below wx.heap.size wx wy := by rw [hwy]; exact below_alloc1 _ _
      have hbz : Below wy.heap.size wy wz := by rw [hwz]; exact below_alloc1 _ _
      have HO0 : Hid (Gb wx.heap.size wz (.slice (some ⟨wx.heap.size, 0, none⟩) 0 0) (lvp ds true n 0)) := Lib.hid (by
        have h0 : Gb wx.heap.size wy (.slice (some ⟨wx.heap.size, 0, none⟩) 0 0) [] := by rw [hwy]; exact Gb.new wx (Nat.le_refl _)
        exact h0.below hbz)
      have HV0 : Hid (Grp (fun u => OffB db u ∧ OffB (Value.ownBlock (.slice (some ⟨wx.heap.size, 0, none⟩) 0 0)) u) wx.heap.size wz (.slice (some ⟨wx.heap.size + 1, 0, none⟩) 0 0) (rwp ds ac dn n 0)) := Lib.hid (by
        have h0 := Gs.new (base := wx.heap.size) wy (by omega)
        rw [hsy] at h0
        rw [hwz]
        exact Grp.start h0)
      have HBZ0 : Hid (Below wx.heap.size wx wz) := Lib.hid (hby.trans (hbz.mono (by omega)))
      go_upto_region 10 with fail
      rw [← hwy, ← hwz]
      clear hwy hwz hsy hby hbz hleq
      go_wp2
      go_loopw [11, 12, 13, 14, 15, 16] (fun ou ru i _ _ _ wr => ∃ (x : Nat) (ov rv : Value), ov = ou ∧ rv = ru ∧ x ≤ n + 1 ∧ i = .int .i64 x ∧ Hid (Below wx.heap.size wx wr) ∧ Hid (Gb wx.heap.size wr ov (lvp ds true n x)) ∧ Hid (Grp (fun u => OffB db u ∧ OffB (Value.ownBlock ov) u) wx.heap.size wr rv (rwp ds ac dn n x))) (fun _ _ i _ _ _ _ => n + 1 - (intOf i).toNat)
      case atStart => exact ⟨0, _, _, rfl, rfl, Nat.zero_le _, rfl, HBZ0, HO0, HV0⟩
      case round =>
        clear HBZ0 HO0 HV0
        obtain ⟨x, ov, rv, rfl, rfl, hx, rfl, HBE, HO, HV⟩ := hrel
        obtain ⟨wv, hwv⟩ : ∃ wv : World, wv = wr := ⟨_, rfl⟩
        subst hwv
        by_cases hltx : x ≤ n
        · have hltxi : (x : Int) ≤ (n : Int) := by omega
          have hwnx : IntKind.i64.wrap ((n : Int) - (x : Int)) = (n : Int) - (x : Int) := IntWalk.i64_in _ (by omega)
          have HO1 : Hid (Gb wx.heap.size wv ov (lvk ds true n x 0)) := Lib.hid (by rw [lvk_zero]; exact HO.out)
          have HV1 : Hid (Grp (fun u => OffB db u ∧ OffB (Value.ownBlock ov) u) wx.heap.size wv rv (rwk ds ac dn n x 0)) := Lib.hid (by rw [rwk_zero]; exact HV.out)
          clear HO HV
          go_wp2
          go_loopw [11, 12, 14, 15, 16] (fun ou ru i _ _ wr => ∃ (y : Nat) (ov rv : Value), ov = ou ∧ rv = ru ∧ y ≤ tgD ds n x ∧ i = .int .i64 y ∧ Hid (Below wx.heap.size wx wr) ∧ Hid (Gb wx.heap.size wr ov (lvk ds true n x y)) ∧ Hid (Grp (fun u => OffB db u ∧ OffB (Value.ownBlock ov) u) wx.heap.size wr rv (rwk ds ac dn n x y))) (fun _ _ i _ _ _ => tgD ds n x - (intOf i).toNat)
          case atStart => exact ⟨0, _, _, rfl, rfl, Nat.zero_le _, rfl, HBE, HO1, HV1⟩
          case round =>
            clear HBE HO1 HV1
            obtain ⟨y, ov, rv, rfl, rfl, hy, rfl, HBE, HO, HV⟩ := hrel
            obtain ⟨wt, hwt⟩ : ∃ wt : World, wt = wr := ⟨_, rfl⟩
            subst hwt
            have HBT := Lib.hid (HBX.out.trans (HBE.out.mono hsx))
            have hXT := HNX.out _ HBT.out
            have c0 := hXT.1.c0
            have c1 := hXT.1.c1
            have c2 := hXT.1.c2
            have c3 := hXT.1.c3
            have hD4 := tgD_le HOK.out n x
            clear hXT
            go_wp2_with fail
            refine (HDIM.out _ HBT.out n x (by omega) hltx).mono ?_
            rintro ee wu ⟨rfl, hb2⟩
            have HBU := Lib.hid (HBE.out.trans (hb2.mono HBE.out.size))
            have HB1U := Lib.hid (HBT.out.trans (hb2.mono HBT.out.size))
            have HOU := Lib.hid (HO.out.below hb2)
            have HVU := Lib.hid (HV.out.below hb2)
            clear hb2 c0 c1 c2 c3 HO HV HBE HBT
            by_cases hlty : y < tgD ds n x
            · have hltyi : (y : Int) < ((tgD ds n x : Nat) : Int) := by omega
              have HTI := Lib.hid (tg_in hlty)
              have hll := lvk_le HOK.out true n x y
              have hlr : (rwk ds ac dn n x y).length ≤ 4 * x + y := by rw [← lvk_rwk_len (ds := ds) (ac := ac) (dn := dn) true y]; exact hll
              have hba : Below wu.heap.size wu (wu.alloc (.cells #[.int .i64 ((n : Int) - (x : Int))] 2)) := below_alloc1 _ _
              have HOA := Lib.hid (HOU.out.below hba)
              have hcell := cell_alloc1 wu (.int .i64 ((n : Int) - (x : Int))) 2
              have hc1 : (lvk ds true n x y).length ≤ 2097151 := by omega
              have HC1 := Lib.hid hc1
              have hc2 : wx.heap.size ≤ (wu.alloc (.cells #[.int .i64 ((n : Int) - (x : Int))] 2)).heap.size := (HBU.out.trans (hba.mono HBU.out.size)).size
              have HC2 := Lib.hid hc2
              have HBA := Lib.hid hba
              have HLR := Lib.hid hlr
              obtain ⟨ao, co, hov⟩ := Sl.shape HOU.out.l1
              obtain ⟨ar, cr, hrv⟩ := Sl.shape HVU.out.gs.l2
              subst hov hrv
              clear hba hc1 hc2 hll hlr
              go_wp2_with (at_builtin; refine wpList_appendB1l rfl (some 68) rfl (.tmp 63) (.tmp 67) rfl wx.heap.size _ (lvk ds true n x y) rfl HOA.out wu.heap.size rfl ((n : Int) - (x : Int)) hcell HC1.out HC2.out ?_)
              intro g9 c9 w9 hn9 hgw hlw
              have hlw2 : Value.ownBlock (.slice ao (lvk ds true n x y).length co) = some g9 ∨ g9 = (wu.alloc (.cells #[.int .i64 ((n : Int) - (x : Int))] 2)).heap.size := hlw.imp id (fun h => by simpa using h)
              have HO9 : Hid (Gb wx.heap.size w9 (.slice (some ⟨g9, 0, none⟩) ((lvk ds true n x y).length + 1) c9) (lvk ds true n x (y + 1))) := Lib.hid (by rw [lvk_succ]; have e : lvl true (x, n - x) = ((n : Int) - (x : Int)) := (by show ((n - x : Nat) : Int) = _; omega); rw [e]; exact hn9)
              have HV9 : Hid (Grp (fun u => OffB db u ∧ OffB (Value.ownBlock (.slice (some ⟨g9, 0, none⟩) ((lvk ds true n x y).length + 1) c9)) u) wx.heap.size w9 (.slice ar (rwk ds ac dn n x y).length cr) (rwk ds ac dn n x y)) := Lib.hid ((HVU.out.below HBA.out).turn HOA.out hgw (fun u h => h.2) (fun u h hlt => ⟨h.1, fun g0 hg0 e => by
                have e2 : g9 = g0 := by simpa [Value.ownBlock] using e
                subst e2
                rcases hlw2 with hl | hl
                · exact h.2 _ hg0 hl
                · have := hlt _ hg0
                  omega⟩))
              have HB9 : Hid (Below wx.heap.size wx w9) := Lib.hid ((HBU.out.trans (HBA.out.mono HBU.out.size)).grown hgw HC2.out (fun g0 hg0 => (HOA.out.lt g0 hg0).1))
              clear hn9 hgw hlw hlw2 hcell HOA HVU HBU HB1U HC1 HC2 HBA HOU
              have hs9 : wx.heap.size ≤ w9.heap.size := HB9.out.size
              have HR0 := Lib.hid (Gb.new (base := w9.heap.size) w9 (Nat.le_refl _))
              go_wp2
              go_loopw [15, 16] (fun ru i wr => ∃ (z : Nat) (rv : Value), rv = ru ∧ z ≤ n ∧ i = .int .i64 z ∧ Hid (Below w9.heap.size w9 wr) ∧ Hid (Gb w9.heap.size wr rv (trp ds ac dn (n - 1) (x, n - x) y z)) ∧ Hid ((trp ds ac dn (n - 1) (x, n - x) y z).length ≤ 4 * z)) (fun _ i _ => n - (intOf i).toNat)
              case atStart => exact ⟨0, _, rfl, Nat.zero_le _, rfl, Lib.hid (below_alloc1 _ _), HR0, Lib.hid (Nat.zero_le _)⟩
              case round =>
                clear HR0
                obtain ⟨z, rv, rfl, hz, rfl, HBR, HRO, HRL⟩ := hrel
                obtain ⟨ws, hws⟩ : ∃ ws : World, ws = wr := ⟨_, rfl⟩
                subst hws
                have hs9s : w9.heap.size ≤ ws.heap.size := HBR.out.size
                have HB1S := Lib.hid (HBX.out.trans ((HB9.out.trans (HBR.out.mono hs9)).mono hsx))
                have hXS := HNX.out _ HB1S.out
                have c0 := hXS.1.c0
                have c1 := hXS.1.c1
                have c2 := hXS.1.c2
                have c3 := hXS.1.c3
                have HDX := Lib.hid hXS.1.dx
                clear hXS
                by_cases hltz : z < n
                · have hltzi : (z : Int) < (n : Int) := by omega
                  have hwx1 : IntKind.i64.wrap ((x : Int) - 1) = (x : Int) - 1 := IntWalk.i64_in _ (by omega)
                  have hxl : x < ds.length := tg_lt HTI.out.1
                  by_cases hA : z + 1 = x
                  · have he : ((z : Int) == (x : Int) - 1) = true := by have h0 : (z : Int) = (x : Int) - 1 := (by omega); simp [h0]
                    have hia : x < ac.length := by rw [HTB.out.la]; exact hxl
                    have hja : n - x < (ac[x]).length := by have h1 := HTB.out.ca x hxl; rw [getD_of_lt _ hia] at h1; have := HTI.out.1; omega
                    obtain ⟨ba, oa, ca, b2, o2, k2, ut, hva, hA1, hA2, hTl⟩ := l4_at HDX.out.across hia hja
                    injection hva with e1 e2 e3
                    subst e1 e3
                    clear e2
                    have hTt : (ac[x])[n - x] = tbl ac (x, n - x) := by unfold tbl; dsimp only; rw [getD_of_lt _ hia, getD_of_lt _ hja]
                    rw [hTt] at hTl
                    have hyt : y < (tbl ac (x, n - x)).length := by rw [tg_len_a HTB.out (tg_mem HTI.out.1)]; exact HTI.out.2
                    obtain ⟨bt, ot, ct, ur, hut, hR1, hR2⟩ := l2_row hTl hyt
                    subst hut
                    obtain ⟨n2, hn2⟩ : ∃ k, k = (ac[x]).length := ⟨_, rfl⟩
                    obtain ⟨n3, hn3⟩ : ∃ k, k = (tbl ac (x, n - x)).length := ⟨_, rfl⟩
                    rw [← hn2] at hA1
                    rw [← hn3] at hA2
                    have hxm : (x : Int) < (m : Int) := by have := HM.out; omega
                    have hx0 : (0 : Int) ≤ (x : Int) := by omega
                    have hnx0 : (0 : Int) ≤ (n : Int) - (x : Int) := by omega
                    have hnx1 : (n : Int) - (x : Int) < (n2 : Int) := by omega
                    have hnx2 : ((n : Int) - (x : Int)).toNat = n - x := by omega
                    have hy0 : (0 : Int) ≤ (y : Int) := by omega
                    have hy1 : (y : Int) < (n3 : Int) := by omega
                    have hrl : ((tbl ac (x, n - x)).getD y []).length ≤ 4 := tg_row_a HOK.out HTB.out hltx hlty
                    obtain ⟨RW, hRW⟩ : ∃ r, r = (tbl ac (x, n - x)).getD y [] := ⟨_, rfl⟩
                    rw [← hRW] at hR2 hrl
                    have HTS : Hid (trp ds ac dn (n - 1) (x, n - x) y (z + 1) = trp ds ac dn (n - 1) (x, n - x) y z ++ RW) := Lib.hid (by rw [hRW]; exact trp_a HOK.out HTI.out.1 hA hltx y)
                    obtain ⟨v3, w3, hrun, hg3, hgr3⟩ := run_append_row ws 35 rv _ HRO.out ur RW hR2 (by have := HRL.out; omega) hs9s
                    have HRUN := Lib.hid hrun
                    have HB3 : Hid (Below w9.heap.size w9 w3) := Lib.hid (HBR.out.grown hgr3 hs9s (fun g hg => (HRO.out.lt g hg).1))
                    have HR3 : Hid (Gb w9.heap.size w3 v3 (trp ds ac dn (n - 1) (x, n - x) y (z + 1))) := Lib.hid (by rw [HTS.out]; exact hg3)
                    have HL3 : Hid ((trp ds ac dn (n - 1) (x, n - x) y (z + 1)).length ≤ 4 * (z + 1)) := Lib.hid (by rw [HTS.out, List.length_append]; have := HRL.out; omega)
                    obtain ⟨arv, crv, hrv9⟩ := Sl.shape HRO.out.l1
                    obtain ⟨aur, cur, hur9⟩ := Sl.shape hR2
                    obtain ⟨a3v, c3v, hv39⟩ := Sl.shape HR3.out.l1
                    subst hrv9 hur9 hv39
                    clear hia hja hTl hTt hyt hR2 hn2 hn3 hRW hrun hg3 hgr3
                    clear hA
                    go_wp2_with (at_builtin; refine Lib.wpList_append_run _ rfl _ _ _ _ rfl _ _ rfl rfl _ _ HRUN.out ?_)
                    go_wp2
                    go_roundw
                    case rel => first | exact ⟨z + 1, _, rfl, by omega, by go_num, HB3, HR3, HL3⟩ | ((repeat apply Exists.intro); exact ⟨⟨z + 1, _, rfl, by omega, by go_num, HB3, HR3, HL3⟩, rfl⟩)
                    case measure => simp [intOf]; omega
                  have he1 : ((z : Int) == (x : Int) - 1) = false := by have h0 : (z : Int) ≠ (x : Int) - 1 := (by omega); simp [h0]
                  by_cases hDD : z = x
                  · have he2 : ((z : Int) == (x : Int)) = true := by simp [hDD]
                    have hia : x < dn.length := by rw [HTB.out.ld]; exact hxl
                    have hja : n - x < (dn[x]).length := by have h1 := HTB.out.cd x hxl; rw [getD_of_lt _ hia] at h1; have := HTI.out.1; omega
                    obtain ⟨ba, oa, ca, b2, o2, k2, ut, hva, hA1, hA2, hTl⟩ := l4_at HDX.out.down hia hja
                    injection hva with e1 e2 e3
                    subst e1 e3
                    clear e2
                    have hTt : (dn[x])[n - x] = tbl dn (x, n - x) := by unfold tbl; dsimp only; rw [getD_of_lt _ hia, getD_of_lt _ hja]
                    rw [hTt] at hTl
                    have hyt : y < (tbl dn (x, n - x)).length := by rw [tg_len_d HTB.out (tg_mem HTI.out.1)]; exact HTI.out.2
                    obtain ⟨bt, ot, ct, ur, hut, hR1, hR2⟩ := l2_row hTl hyt
                    subst hut
                    obtain ⟨n2, hn2⟩ : ∃ k, k = (dn[x]).length := ⟨_, rfl⟩
                    obtain ⟨n3, hn3⟩ : ∃ k, k = (tbl dn (x, n - x)).length := ⟨_, rfl⟩
                    rw [← hn2] at hA1
                    rw [← hn3] at hA2
                    have hxm : (x : Int) < (m : Int) := by have := HM.out; omega
                    have hx0 : (0 : Int) ≤ (x : Int) := by omega
                    have hnx0 : (0 : Int) ≤ (n : Int) - (x : Int) := by omega
                    have hnx1 : (n : Int) - (x : Int) < (n2 : Int) := by omega
                    have hnx2 : ((n : Int) - (x : Int)).toNat = n - x := by omega
                    have hy0 : (0 : Int) ≤ (y : Int) := by omega
                    have hy1 : (y : Int) < (n3 : Int) := by omega
                    have hrl : ((tbl dn (x, n - x)).getD y []).length ≤ 4 := tg_row_d HOK.out HTB.out (by omega) hlty
                    obtain ⟨RW, hRW⟩ : ∃ r, r = (tbl dn (x, n - x)).getD y [] := ⟨_, rfl⟩
                    rw [← hRW] at hR2 hrl
                    have HTS : Hid (trp ds ac dn (n - 1) (x, n - x) y (z + 1) = trp ds ac dn (n - 1) (x, n - x) y z ++ RW) := Lib.hid (by rw [hRW]; exact (by rw [hDD]; exact trp_d HTI.out.1 (by omega) y))
                    obtain ⟨v3, w3, hrun, hg3, hgr3⟩ := run_append_row ws 35 rv _ HRO.out ur RW hR2 (by have := HRL.out; omega) hs9s
                    have HRUN := Lib.hid hrun
                    have HB3 : Hid (Below w9.heap.size w9 w3) := Lib.hid (HBR.out.grown hgr3 hs9s (fun g hg => (HRO.out.lt g hg).1))
                    have HR3 : Hid (Gb w9.heap.size w3 v3 (trp ds ac dn (n - 1) (x, n - x) y (z + 1))) := Lib.hid (by rw [HTS.out]; exact hg3)
                    have HL3 : Hid ((trp ds ac dn (n - 1) (x, n - x) y (z + 1)).length ≤ 4 * (z + 1)) := Lib.hid (by rw [HTS.out, List.length_append]; have := HRL.out; omega)
                    obtain ⟨arv, crv, hrv9⟩ := Sl.shape HRO.out.l1
                    obtain ⟨aur, cur, hur9⟩ := Sl.shape hR2
                    obtain ⟨a3v, c3v, hv39⟩ := Sl.shape HR3.out.l1
                    subst hrv9 hur9 hv39
                    clear hia hja hTl hTt hyt hR2 hn2 hn3 hRW hrun hg3 hgr3
                    clear hDD hA
                    go_wp2_with (at_builtin; refine Lib.wpList_append_run _ rfl _ _ _ _ rfl _ _ rfl rfl _ _ HRUN.out ?_)
                    go_wp2
                    go_roundw
                    case rel => first | exact ⟨z + 1, _, rfl, by omega, by go_num, HB3, HR3, HL3⟩ | ((repeat apply Exists.intro); exact ⟨⟨z + 1, _, rfl, by omega, by go_num, HB3, HR3, HL3⟩, rfl⟩)
                    case measure => simp [intOf]; omega
                  have he2 : ((z : Int) == (x : Int)) = false := by have h0 : (z : Int) ≠ (x : Int) := (by omega); simp [h0]
                  have hwn1 : IntKind.i64.wrap ((n : Int) - 1) = (n : Int) - 1 := IntWalk.i64_in _ (by omega)
                  have hwn2 : IntKind.i64.wrap ((n : Int) - 1 - (z : Int)) = (n : Int) - 1 - (z : Int) := IntWalk.i64_in _ (by omega)
                  have HDZ : Hid (Calls Try.prog 90 #[.agg #[.int .i64 p, .slice (some ⟨bb, o, none⟩) m cd, .slice ad2 m cd2, .slice ad3 m cd3], .int .i64 (z : Int), .int .i64 ((n : Int) - 1 - (z : Int))] ws fun r w' => r = .returned (.int .i64 ((tgD ds (n - 1) z : Nat) : Int)) ∧ Below ws.heap.size ws w') := Lib.hid (by have h0 := HDIM.out ws HB1S.out (n - 1) z (by omega) (by omega); rwa [show ((n - 1 : Nat) : Int) = (n : Int) - 1 by omega] at h0)
                  go_wp2_with fail
                  refine HDZ.out.mono ?_
                  rintro ee w2 ⟨rfl, hb2⟩
                  have hd4 := tgD_le HOK.out (n - 1) z
                  have HTS : Hid (trp ds ac dn (n - 1) (x, n - x) y (z + 1) = trp ds ac dn (n - 1) (x, n - x) y z ++ List.replicate (tgD ds (n - 1) z) 0) := Lib.hid (trp_o hltz hA hDD y)
                  obtain ⟨dd, hdd⟩ : ∃ d, d = tgD ds (n - 1) z := ⟨_, rfl⟩
                  rw [← hdd] at hd4 HTS ⊢
                  have hg2 := HRO.out.below hb2
                  have hs2 := hb2.size
                  obtain ⟨v3, w3, hrun, hg3, hgr3⟩ := run_append_zeros w2 35 rv _ hg2 .i64 dd (by have := HRL.out; omega) (by omega)
                  have HRUN := Lib.hid hrun
                  have HB3 : Hid (Below w9.heap.size w9 w3) := Lib.hid ((HBR.out.trans (hb2.mono hs9s)).grown hgr3 (by omega) (fun g hg => (hg2.lt g hg).1))
                  have HR3 : Hid (Gb w9.heap.size w3 v3 (trp ds ac dn (n - 1) (x, n - x) y (z + 1))) := Lib.hid (by rw [HTS.out]; exact hg3)
                  have HL3 : Hid ((trp ds ac dn (n - 1) (x, n - x) y (z + 1)).length ≤ 4 * (z + 1)) := Lib.hid (by rw [HTS.out, List.length_append, List.length_replicate]; have := HRL.out; omega)
                  obtain ⟨arv, crv, hrv9⟩ := Sl.shape HRO.out.l1
                  obtain ⟨a3v, c3v, hv39⟩ := Sl.shape HR3.out.l1
                  subst hrv9 hv39
                  clear hrun hg3 hgr3 hg2 hb2 hdd c0 c1 c2 c3
                  go_wp2_with (at_builtin; refine Lib.wpList_append_run _ rfl _ _ _ _ rfl _ _ rfl rfl _ _ HRUN.out ?_)
                  go_wp2
                  go_roundw
                  case rel => first | exact ⟨z + 1, _, rfl, by omega, by go_num, HB3, HR3, HL3⟩ | ((repeat apply Exists.intro); exact ⟨⟨z + 1, _, rfl, by omega, by go_num, HB3, HR3, HL3⟩, rfl⟩)
                  case measure => simp [intOf]; omega
                · obtain rfl : z = n := by omega
                  obtain ⟨RT, hRT⟩ : ∃ r, r = trp ds ac dn (z - 1) (x, z - x) y z := ⟨_, rfl⟩
                  rw [← hRT] at HRO HRL
                  have HRTE := Lib.hid hRT
                  clear hRT
                  obtain ⟨arv, crv, hrv9⟩ := Sl.shape HRO.out.l1
                  subst hrv9
                  have HVS := Lib.hid (HV9.out.below HBR.out)
                  have HOS := Lib.hid (HO9.out.below HBR.out)
                  have hba : Below ws.heap.size ws (ws.alloc (.cells #[.slice arv RT.length crv] 35)) := below_alloc1 _ _
                  have hcell := cell_alloc1 ws (.slice arv RT.length crv) 35
                  have HVA := Lib.hid (HVS.out.below hba)
                  have HOA := Lib.hid (HOS.out.below hba)
                  have HGU := Lib.hid (HRO.out.g1.below hba)
                  have HOF : Hid (OffB db (.slice arv RT.length crv) ∧ OffB (Value.ownBlock (.slice (some ⟨g9, 0, none⟩) ((lvk ds true z x y).length + 1) c9)) (.slice arv RT.length crv)) := Lib.hid ⟨fun g hg e => by have h1 := HDBL.out g e; have h2 := (HRO.out.lt g hg).1; omega, fun g hg e => by have h1 := (HO9.out.lt g e).2; have h2 := (HRO.out.lt g hg).1; omega⟩
                  have hc1 : (rwk ds ac dn z x y).length ≤ 2097151 := by have := HLR.out; omega
                  have HC1 := Lib.hid hc1
                  have HBA : Hid (Below wx.heap.size wx (ws.alloc (.cells #[.slice arv RT.length crv] 35))) := Lib.hid ((HB9.out.trans (HBR.out.mono hs9)).trans (hba.mono (by omega)))
                  clear hba hc1 c0 c1 c2 c3
                  go_wp2_with (at_builtin; go_loud (refine wpList_appendP rfl (some 129) rfl (.tmp 126) (.tmp 128) rfl (fun u => OffB db u ∧ OffB (Value.ownBlock (.slice (some ⟨g9, 0, none⟩) ((lvk ds true z x y).length + 1) c9)) u) wx.heap.size _ (rwk ds ac dn z x y) rfl HVA.out ws.heap.size rfl arv RT.length crv hcell RT HGU.out HOF.out HC1.out HBA.out.size ?_))
                  intro g7 c7 w7 hn7 hgw7
                  have HV7 : Hid (Grp (fun u => OffB db u ∧ OffB (Value.ownBlock (.slice (some ⟨g9, 0, none⟩) ((lvk ds true z x y).length + 1) c9)) u) wx.heap.size w7 (.slice (some ⟨g7, 0, none⟩) ((rwk ds ac dn z x y).length + 1) c7) (rwk ds ac dn z x (y + 1))) := Lib.hid (by rw [rwk_succ, ← HRTE.out]; exact hn7)
                  have HO7 : Hid (Gb wx.heap.size w7 (.slice (some ⟨g9, 0, none⟩) ((lvk ds true z x y).length + 1) c9) (lvk ds true z x (y + 1))) := Lib.hid (by obtain ⟨vs, hvo, _⟩ := HVA.out; exact owns_grown HOA.out hvo (by decide) hgw7)
                  have HB7 : Hid (Below wx.heap.size wx w7) := Lib.hid (HBA.out.grown hgw7 HBA.out.size (fun g hg => (HVA.out.lt hg).1))
                  clear hn7 hgw7 hcell HVA HOA HGU HVS HOS
                  go_wp2
                  go_roundw
                  case rel => first | exact ⟨y + 1, _, _, rfl, rfl, by omega, by go_num, HB7, HO7, HV7⟩ | ((repeat apply Exists.intro); exact ⟨⟨y + 1, _, _, rfl, rfl, by omega, by go_num, HB7, HO7, HV7⟩, rfl⟩)
                  case measure => simp [intOf]; omega
            · obtain rfl : y = tgD ds n x := by omega
              have HO2 : Hid (Gb wx.heap.size wu ov (lvp ds true n (x + 1))) := Lib.hid (by rw [← lvk_fin true hltx]; exact HOU.out)
              have HV2 : Hid (Grp (fun u => OffB db u ∧ OffB (Value.ownBlock ov) u) wx.heap.size wu rv (rwp ds ac dn n (x + 1))) := Lib.hid (by rw [← rwk_fin hltx]; exact HVU.out)
              go_wp2
              go_roundw
              case rel => first | exact ⟨x + 1, _, _, rfl, rfl, by omega, by go_num, HBU, HO2, HV2⟩ | ((repeat apply Exists.intro); exact ⟨⟨x + 1, _, _, rfl, rfl, by omega, by go_num, HBU, HO2, HV2⟩, rfl⟩)
              case measure => simp [intOf]; omega
        · obtain rfl : x = n + 1 := by omega
          have HVX : Hid (Grb db wx.heap.size wv rv (rwp ds ac dn n (n + 1))) := Lib.hid (HV.out.grb (fun _ h => h.1))
          clear HV
          obtain ⟨wv2, hwv2⟩ : ∃ w, w = wv := ⟨_, rfl⟩
          have HV := HVX
          clear HVX
          have HOW : Hid (Gb wx.heap.size wv ov (lvt ds true n)) := Lib.hid (by rw [← lvp_all]; exact HO.out)
          obtain ⟨RR, hRR⟩ : ∃ r, r = rwp ds ac dn n (n + 1) := ⟨_, rfl⟩
          rw [← hRR] at HV
          obtain ⟨LV, hLV⟩ : ∃ r, r = lvt ds true n := ⟨_, rfl⟩
          rw [← hLV] at HOW
          have HLL : Hid (LV.length = tdim ds n) := Lib.hid (by rw [hLV]; exact lvt_len ds true n)
          have HRRE := Lib.hid hRR
          have HLVE := Lib.hid hLV
          obtain ⟨td, htd⟩ : ∃ t, t = tdim ds n := ⟨_, rfl⟩
          rw [← htd] at HLL
          have HTD := Lib.hid htd
          obtain ⟨ao, co, hov⟩ := Sl.shape HOW.out.l1
          obtain ⟨ar, cr, hrv⟩ := Sl.shape HV.out.gs.l2
          rw [HLL.out] at hov
          subst hov hrv
          have htl := tdim_le HOK.out n
          rw [← htd] at htl
          clear hRR hLV htd HO
          have hlx : ¬ ((n + 1 : Nat) : Int) ≤ (n : Int) := by omega
          have HSV := Lib.hid (HS.out.next HBE.out)
          by_cases hbig : (8 : Int) < (td : Int)
          · have HEX : Hid (Exc (tD ds)) := Lib.hid (tg_big (by rw [← HTOP.out]; exact hlt) (by rw [← HTD.out]; omega))
            have HBQ := Lib.hid HSV.out.below
            have HZ : Hid (wv.heap[w.heap.size + 1]? = some (.cells Z4 50 (0, 0))) := Lib.hid ((HNX.out _ HBQ.out).2.2)
            have HWR : Hid (Below w.heap.size w (wv.setRow (w.heap.size + 1) #[.int .i64 0, .slice none 0 0, .slice none 0 0, .slice none 0 0])) := Lib.hid (below_setRow (HW0.out _ (HBQ.out)) (Nat.le_succ _) _)
            obtain ⟨WF, hWF⟩ : ∃ WF, WF = wv.setRow (w.heap.size + 1) #[.int .i64 0, .slice none 0 0, .slice none 0 0, .slice none 0 0] := ⟨_, rfl⟩
            have hRz : Rz WF (w.heap.size + 1) 50 #[.int .i64 0, .slice none 0 0, .slice none 0 0, .slice none 0 0] := by rw [hWF]; exact Rz.set HZ.out _
            have f0 := hRz.cell (i := 0) (v := _) rfl
            have f1 := hRz.cell (i := 1) (v := _) rfl
            have f2 := hRz.cell (i := 2) (v := _) rfl
            have f3 := hRz.cell (i := 3) (v := _) rfl
            rw [← hWF] at HWR
            have HWF := Lib.hid hWF
            clear hRz hWF
            go_wp2_with (with_reducible refine wpList_store_row rfl 50 (.tmp 4) (.tmp 133) rfl (w.heap.size + 1) #[.int .i64 0, .slice none 0 0, .slice none 0 0, .slice none 0 0] rfl rfl 50 Z4 HZ.out (infoFl _ _ _ _) rfl (by kernel_rfl) ?_)
            rw [← HWF.out]
            go_wp2
            refine bodyPost_ret (v := .tuple #[.agg #[.int .i64 0, .slice none 0 0, .slice none 0 0, .slice none 0 0], .bool false]) ?_ rfl ?_
            · simp only [results, HRES.out]
              go_simp
            · exact ⟨HWR.out, .inl ⟨HEX.out, rfl⟩⟩
          obtain ⟨TK, hTK⟩ : ∃ TK, TK = (tD ds).take n := ⟨_, rfl⟩
          rw [← hTK] at HSV
          have HKL : Hid (TK.length = n) := Lib.hid (by rw [hTK, List.length_take, tD_len, ← HTOP.out]; omega)
          have HXE : Hid ((tD ds).take (n + 1) = TK ++ [(td : Int)]) := Lib.hid (by rw [hTK, HTD.out]; exact tD_take (by rw [← HTOP.out]; exact hlt))
          obtain ⟨TL, hTL⟩ : ∃ TL, TL = (tL true ds).take n := ⟨_, rfl⟩
          rw [← hTL] at HSV
          have HTLL : Hid (TL.length = n) := Lib.hid (by rw [hTL, List.length_take, tL_len, ← HTOP.out]; omega)
          have HTLE : Hid ((tL true ds).take (n + 1) = TL ++ [LV]) := Lib.hid (by rw [hTL, HLVE.out]; exact tL_take true (by rw [← HTOP.out]; exact hlt))
          clear hTK hTL HS
          have hbe : Below wv.heap.size wv (wv.alloc (.cells #[.int .i64 (td : Int)] 2)) := below_alloc1 _ _
          have HSE := Lib.hid (HSV.out.next hbe)
          have HOE := Lib.hid (HOW.out.below hbe)
          have HVE := Lib.hid (HV.out.below hbe)
          have hcell := cell_alloc1 wv (.int .i64 (td : Int)) 2
          have HDM := Lib.hid HSE.out.dims
          have HC4 : Hid (w1.heap.size ≤ (wv.alloc (.cells #[.int .i64 (td : Int)] 2)).heap.size) := Lib.hid HSE.out.below.size
          have HC3 : Hid (TK.length ≤ 2097151) := Lib.hid (by rw [HKL.out]; omega)
          have g1 : wv.cell? ⟨g, 1, none⟩ = some (.slice a1 n cc1) := HSV.out.box.cell (i := 1) (by omega)
          clear hbe
          go_wp2_with (at_builtin; refine wpList_appendB1l rfl (some 139) rfl (.tmp 135) (.tmp 138) rfl w1.heap.size (.slice a1 n cc1) TK rfl HDM.out wv.heap.size rfl (td : Int) hcell HC3.out HC4.out ?_)
          rw [HKL.out]
          intro g9 c9 w9 hn9 hgw hlw
          have hlw2 : Value.ownBlock (.slice a1 n cc1) = some g9 ∨ g9 = (wv.alloc (.cells #[.int .i64 (td : Int)] 2)).heap.size := hlw.imp id (fun h => by simpa using h)
          have HS9 : Hid (Tgs w1 (w9.setCell ⟨g, 1, none⟩ (.slice (some ⟨g9, 0, none⟩) (n + 1) c9)) g p (.slice (some ⟨g9, 0, none⟩) (n + 1) c9) (.slice a2 q cc2) (.slice a3 n cc3) ((tD ds).take (n + 1)) ((tM ds ac dn).take q) TL) := Lib.hid (by rw [HXE.out]; exact HSE.out.stepD hgw hn9 hlw2)
          have hrb := row_grown HSE.out.box HSE.out.dims coT.1 hgw
          have hmv : ∀ g2, some g9 = some g2 → Value.ownBlock (.slice a1 n cc1) = some g2 ∨ (wv.alloc (.cells #[.int .i64 (td : Int)] 2)).heap.size ≤ g2 := fun g2 e => by
            injection e with e
            subst e
            rcases hlw2 with hl | hl
            · exact Or.inl hl
            · exact Or.inr (Nat.le_of_eq hl.symm)
          have HOO : Hid (OffB (Value.ownBlock (.slice a1 n cc1)) (.slice ao td co)) := Lib.hid (fun g hg e => by have h1 := HDBL.out g (by rw [HDBE.out]; exact e); have h2 := (HOE.out.lt g hg).1; omega)
          have HO9 : Hid (Gb wx.heap.size (w9.setCell ⟨g, 1, none⟩ (.slice (some ⟨g9, 0, none⟩) (n + 1) c9)) (.slice ao td co) LV) := Lib.hid (by have h0 : Gb wx.heap.size w9 (.slice ao td co) LV := owns_grown_off HOE.out HOO.out hgw; exact h0.off hrb coT.1 _ _)
          have HOF9 : Hid (OffB (some g9) (.slice ao td co)) := Lib.hid (fun g0 hg0 e => by
            rcases hmv g0 e with h3 | h3
            · exact HOO.out g0 hg0 h3
            · have := (HOE.out.lt g0 hg0).2; omega)
          have HV9 : Hid (Grb (some g9) wx.heap.size (w9.setCell ⟨g, 1, none⟩ (.slice (some ⟨g9, 0, none⟩) (n + 1) c9)) (.slice ar RR.length cr) RR) := Lib.hid (by have h0 := HVE.out; rw [HDBE.out] at h0; exact (h0.turnD HSE.out.dims hgw hmv).off hrb ⟨coT.1, coT.2.1⟩ _ _)
          have z1 : w9.cell? ⟨g, 1, none⟩ = some (.slice a1 n cc1) := hrb.cell (i := 1) (by omega)
          have z2 : w9.frozen? ⟨g, 1, none⟩ = false := hrb.frozen 1
          obtain ⟨wf, hwf⟩ : ∃ wf, wf = (w9.setCell ⟨g, 1, none⟩ (.slice (some ⟨g9, 0, none⟩) (n + 1) c9)) := ⟨_, rfl⟩
          rw [← hwf] at HS9 HO9 HV9
          clear hn9 hgw hlw hlw2 hmv hrb hcell g1 HSE HSV HDM HOE HVE HOW HV HOO
          go_upto_region 33 with fail
          rw [← hwf]
          clear hwf z1 z2
          have hbl : Below wf.heap.size wf (wf.alloc (.cells #[.slice ao td co] 35)) := below_alloc1 _ _
          have HSL := Lib.hid (HS9.out.next hbl)
          have HOL := Lib.hid (HO9.out.below hbl)
          have HVL := Lib.hid (HV9.out.below hbl)
          have hcell := cell_alloc1 wf (.slice ao td co) 35
          have HLVL : Hid (Grb (some g9) w1.heap.size (wf.alloc (.cells #[.slice ao td co] 35)) (.slice a3 n cc3) TL) := Lib.hid HSL.out.lv
          have HC5 : Hid (TL.length ≤ 2097151) := Lib.hid (by rw [HTLL.out]; omega)
          have HG1 := Lib.hid HOL.out.g1
          have HC6 : Hid (w1.heap.size ≤ (wf.alloc (.cells #[.slice ao td co] 35)).heap.size) := Lib.hid HSL.out.below.size
          clear hbl
          go_wp2_with (at_builtin; refine wpList_appendS1l rfl (some 144) rfl (.tmp 141) (.tmp 143) rfl (some g9) w1.heap.size (.slice a3 n cc3) TL rfl HLVL.out wf.heap.size rfl ao td co hcell LV HG1.out HOF9.out HC5.out HC6.out ?_)
          rw [HTLL.out]
          intro g8 c8 w8 hn8 hgw8 hlw8
          have HS8 : Hid (Tgs w1 w8 g p (.slice (some ⟨g9, 0, none⟩) (n + 1) c9) (.slice a2 q cc2) (.slice (some ⟨g8, 0, none⟩) (n + 1) c8) ((tD ds).take (n + 1)) ((tM ds ac dn).take q) ((tL true ds).take (n + 1))) := Lib.hid (by rw [HTLE.out]; exact HSL.out.stepL hgw8 hn8 hlw8)
          have HVO : Hid (OffB (Value.ownBlock (.slice a3 n cc3)) (.slice ar RR.length cr)) := Lib.hid (fun g0 hg0 e => by have h1 := HL3X.out g0 e; have h2 := (HVL.out.lt hg0).1; omega)
          have HV8 : Hid (Gr (some g9) w8 (.slice ar RR.length cr) RR) := Lib.hid (by obtain ⟨us, hu, _⟩ := HLVL.out; exact HVL.out.gr.turnL HVO.out hu hgw8)
          have HVO8 : Hid (OffB (some g8) (.slice ar RR.length cr)) := Lib.hid (fun g0 hg0 e => by
            injection e with e
            subst e
            rcases hlw8 with hl | hl
            · exact HVO.out _ hg0 hl
            · have := (HVL.out.lt hg0).2; omega)
          clear hn8 hgw8 hlw8 hcell HSL HOL HVL HLVL HS9 HO9 HV9
          have H8N : Hid (∀ s, s < n + 1 → tdim ds s ≤ 8) := Lib.hid (fun s hs => by
            by_cases e : s = n
            · rw [e, ← HTD.out]; omega
            · exact H8.out s (by omega))
          by_cases hn00 : n = 0
          · have hnz : ¬ (0 : Int) < (n : Int) := by omega
            have HQ2 : Hid (q = n + 1 - 1) := Lib.hid (by have := HQN.out; omega)
            clear hn00
            go_wp2
            go_roundw
            case rel => exact ⟨n + 1, q, _, _, _, _, _, _, by omega, by go_num, rfl, HQ2, HS8, H8N⟩
            case measure => simp [intOf]; omega
          · have hnz : (0 : Int) < (n : Int) := by omega
            have hqn : q + 1 = n := by have := HQN.out; omega
            obtain ⟨TQ, hTQ⟩ : ∃ TQ, TQ = (tM ds ac dn).take q := ⟨_, rfl⟩
            rw [← hTQ] at HS8
            have HQL : Hid (TQ.length = q) := Lib.hid (by rw [hTQ, List.length_take, tM_len, ← HTOP.out]; omega)
            have HXM : Hid ((tM ds ac dn).take (q + 1) = TQ ++ [RR]) := Lib.hid (by rw [hTQ, HRRE.out, ← hqn, rwp_all]; exact tM_take (by rw [← HTOP.out]; omega))
            have g2' : w8.cell? ⟨g, 2, none⟩ = some (.slice a2 q cc2) := HS8.out.box.cell (i := 2) (by omega)
            have hbm : Below w8.heap.size w8 (w8.alloc (.cells #[.slice ar RR.length cr] 22)) := below_alloc1 _ _
            have HSM := Lib.hid (HS8.out.next hbm)
            have HVM := Lib.hid (HV8.out.below hbm)
            have hcell := cell_alloc1 w8 (.slice ar RR.length cr) 22
            have HMT : Hid (Gtp (some g9) (some g8) w1.heap.size (w8.alloc (.cells #[.slice ar RR.length cr] 22)) (.slice a2 q cc2) TQ) := Lib.hid HSM.out.maps
            have HC7 : Hid (TQ.length ≤ 2097151) := Lib.hid (by rw [HQL.out]; omega)
            have HC8 : Hid (w1.heap.size ≤ (w8.alloc (.cells #[.slice ar RR.length cr] 22)).heap.size) := Lib.hid HSM.out.below.size
            clear hbm hTQ
            go_wp2_with (at_builtin; refine wpList_appendT1p rfl (some 151) rfl (.tmp 148) (.tmp 150) rfl w1.heap.size (.slice a2 q cc2) TQ rfl (some g9) (some g8) HMT.out w8.heap.size rfl ar RR.length cr hcell RR HVM.out HVO8.out HC7.out HC8.out ?_)
            rw [HQL.out]
            intro g7 c7 w7 hn7 hgw7
            have HS7 : Hid (Tgs w1 (w7.setCell ⟨g, 2, none⟩ (.slice (some ⟨g7, 0, none⟩) (q + 1) c7)) g p (.slice (some ⟨g9, 0, none⟩) (n + 1) c9) (.slice (some ⟨g7, 0, none⟩) (q + 1) c7) (.slice (some ⟨g8, 0, none⟩) (n + 1) c8) ((tD ds).take (n + 1)) ((tM ds ac dn).take (q + 1)) ((tL true ds).take (n + 1))) := Lib.hid (by rw [HXM.out]; exact HSM.out.stepM hgw7 hn7)
            obtain ⟨vs7, ho7, _⟩ := HSM.out.maps
            have hrb := row_grown HSM.out.box ho7 coT.2.2 hgw7
            have z1 : w7.cell? ⟨g, 2, none⟩ = some (.slice a2 q cc2) := hrb.cell (i := 2) (by omega)
            have z2 : w7.frozen? ⟨g, 2, none⟩ = false := hrb.frozen 2
            clear hn7 hgw7 hrb hcell HSM HMT ho7 HVM g2'
            have HQ3 : Hid (q + 1 = n + 1 - 1) := Lib.hid (by omega)
            clear hqn
            go_wp2
            go_roundw
            case rel => exact ⟨n + 1, q + 1, _, _, _, _, _, _, by omega, by go_num, rfl, HQ3, HS7, H8N⟩
            case measure => simp [intOf]; omega
    · obtain rfl : n = top + 1 := by omega
      have hlx : ¬ ((top + 1 : Nat) : Int) ≤ (m : Int) + (hh : Int) - 2 := by omega
      have HNE : Hid (¬ Exc (tD ds)) := Lib.hid (tg_not (by rw [← HTOP.out]; exact ht5) (fun s hs => H8.out s (by have := HTOP.out; omega)))
      have g0' : wx.cell? ⟨g, 0, none⟩ = some (.int .i64 p) := HS.out.box.cell (i := 0) (by omega)
      have g1' : wx.cell? ⟨g, 1, none⟩ = some (.slice a1 (top + 1) cc1) := HS.out.box.cell (i := 1) (by omega)
      have g2' : wx.cell? ⟨g, 2, none⟩ = some (.slice a2 q cc2) := HS.out.box.cell (i := 2) (by omega)
      have HBQ := HBX
      have HL1F : Hid (Gb w.heap.size (wx.setRow (w.heap.size + 1) #[.int .i64 p, .slice a1 (top + 1) cc1, .slice a2 q cc2, .slice a3 (top + 1) cc3]) (.slice a1 (top + 1) cc1) (tD ds) ∧ Gt w.heap.size (wx.setRow (w.heap.size + 1) #[.int .i64 p, .slice a1 (top + 1) cc1, .slice a2 q cc2, .slice a3 (top + 1) cc3]) (.slice a2 q cc2) (tM ds ac dn) ∧ Gs w.heap.size (wx.setRow (w.heap.size + 1) #[.int .i64 p, .slice a1 (top + 1) cc1, .slice a2 q cc2, .slice a3 (top + 1) cc3]) (.slice a3 (top + 1) cc3) (tL true ds)) := Lib.hid (by
        have e1 : (tD ds).take (top + 1) = tD ds := List.take_of_length_le (by rw [tD_len, ← HTOP.out]; omega)
        have e2 : (tM ds ac dn).take q = tM ds ac dn := List.take_of_length_le (by rw [tM_len, ← HTOP.out]; have := HQN.out; omega)
        have e3 : (tL true ds).take (top + 1) = tL true ds := List.take_of_length_le (by rw [tL_len, ← HTOP.out]; omega)
        have k1 := HS.out.dims
        have k2 := HS.out.maps.gto.gt
        have k3 := HS.out.lv.gs
        rw [e1] at k1
        rw [e2] at k2
        rw [e3] at k3
        exact tt_keep (HNX.out _ HBX.out).2.2 k1 k2 k3 (by omega))
      have HZ : Hid (wx.heap[w.heap.size + 1]? = some (.cells Z4 50 (0, 0))) := Lib.hid ((HNX.out _ HBQ.out).2.2)
      have HWR : Hid (Below w.heap.size w (wx.setRow (w.heap.size + 1) #[.int .i64 p, .slice a1 (top + 1) cc1, .slice a2 q cc2, .slice a3 (top + 1) cc3])) := Lib.hid (below_setRow (HW0.out _ (HBQ.out)) (Nat.le_succ _) _)
      obtain ⟨WF, hWF⟩ : ∃ WF, WF = wx.setRow (w.heap.size + 1) #[.int .i64 p, .slice a1 (top + 1) cc1, .slice a2 q cc2, .slice a3 (top + 1) cc3] := ⟨_, rfl⟩
      have hRz : Rz WF (w.heap.size + 1) 50 #[.int .i64 p, .slice a1 (top + 1) cc1, .slice a2 q cc2, .slice a3 (top + 1) cc3] := by rw [hWF]; exact Rz.set HZ.out _
      have f0 := hRz.cell (i := 0) (v := _) rfl
      have f1 := hRz.cell (i := 1) (v := _) rfl
      have f2 := hRz.cell (i := 2) (v := _) rfl
      have f3 := hRz.cell (i := 3) (v := _) rfl
      rw [← hWF] at HWR
      have HWF := Lib.hid hWF
      clear hRz hWF
      go_wp2_with (with_reducible refine wpList_store_row rfl 50 (.tmp 4) (.tmp 155) rfl (w.heap.size + 1) #[.int .i64 p, .slice a1 (top + 1) cc1, .slice a2 q cc2, .slice a3 (top + 1) cc3] rfl rfl 50 Z4 HZ.out (infoFl _ _ _ _) rfl (by kernel_rfl) ?_)
      rw [← HWF.out]
      go_wp2
      refine bodyPost_ret (v := .tuple #[.agg #[.int .i64 p, .slice a1 (top + 1) cc1, .slice a2 q cc2, .slice a3 (top + 1) cc3], .bool true]) ?_ rfl ?_
      · simp only [results, HRES.out]
        go_simp
      · exact ⟨HWR.out, .inr ⟨HNE.out, _, _, _, rfl, by rw [HWF.out]; exact HL1F.out.1, by rw [HWF.out]; exact HL1F.out.2.1, by rw [HWF.out]; exact HL1F.out.2.2⟩⟩
end Go.Proofs.Ytlopenephgabhaa

