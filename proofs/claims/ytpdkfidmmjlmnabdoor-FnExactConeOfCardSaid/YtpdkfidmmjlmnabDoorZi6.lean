/-
  Texts that ProofCol needs, part 6.
-/
import Derived.Test.YtpdkfidmmjlmnabDoorZi5
import Derived.Lib.AppendZerosOnto
import Derived.Laws.EntriesVeiled
import Derived.Test.YtpdkfidmmjlmnabDoorRows
import Derived.ProofKit
import Derived.OpenShut
import Derived.ChangeOld
import Derived.Deep.Slices
import Derived.Lib.SmallJoins
import Derived.KernelRfl
import Derived.Deep.RegionWith
import Derived.Deep.RegionHeld3
import Derived.Deep.Cut
import Derived.Deep.CutRange
import Derived.BigRegion
import Derived.BigQuiet
import Derived.Deep.QuietTactic
import Derived.Test.YtpdkfidmmjlmnabDoorCards
import Derived.Test.YtpdkfidmmjlmnabDoorTie
import Derived.WalkKit
import Derived.Deep.DeepHandedRow
import Derived.Stop.LaidErr
import Derived.RowKitTokens
namespace Go.Proofs.YtpdkfidmmjlmnabDoor
open Go.RowKit

/-- A value's own block is not this one. -/
def OffB (b : Option Nat) (u : Value) : Prop := ∀ g, u.ownBlock = some g → b ≠ some g
theorem owns_grown_off {w w' : World} {base : Nat} {e : TypeId} {size n : Nat} {u : Value} {xs : List Value} {b : Option Nat} (h : w.ownsRow base e size u n xs) (ho : OffB b u) (hg : w.grownBy w' b) : w'.ownsRow base e size u n xs := by
  refine ⟨h.1, ?_⟩
  rcases h.2 with h2 | ⟨g, cap, cur, hu, hb, hh, r⟩
  · exact Or.inl h2
  · refine Or.inr ⟨g, cap, cur, hu, hb, ?_, r⟩
    rw [hg.block g (Array.getElem?_eq_some_iff.1 hh).1]
    · exact hh
    · exact fun e2 => ho g (by rw [hu]; rfl) e2.symm
theorem owns_lt {w : World} {base : Nat} {e : TypeId} {size n : Nat} {u : Value} {xs : List Value} (h : w.ownsRow base e size u n xs) {g : Nat} (hg : u.ownBlock = some g) : g < w.heap.size := by
  rcases h.2 with ⟨rfl, _⟩ | ⟨g2, cap, cur, rfl, _, hh, _⟩
  · simp [Value.ownBlock] at hg
  · simp [Value.ownBlock] at hg
    subst hg
    exact (Array.getElem?_eq_some_iff.1 hh).1
/-- A table whose rows lie off a block. -/
def Gr (b : Option Nat) (w : World) (u : Value) (t : List (List Int)) : Prop := ∃ vs, w.ownsRow 0 22 1 u t.length vs ∧ ∀ k (h1 : k < vs.length) (h2 : k < t.length), G1 w vs[k] t[k] ∧ OffB b vs[k]
def Gto (b : Option Nat) (base : Nat) (w : World) (u : Value) (ts : List (List (List Int))) : Prop := ∃ vs, w.ownsRow base 39 1 u ts.length vs ∧ ∀ k (h1 : k < vs.length) (h2 : k < ts.length), Gr b w vs[k] ts[k]
theorem Gr.gs {b : Option Nat} {w : World} {u : Value} {t : List (List Int)} (h : Gr b w u t) : Gs 0 w u t := by
  obtain ⟨vs, ho, hr⟩ := h
  exact ⟨vs, ho, fun k h1 h2 => (hr k h1 h2).1⟩
theorem Gto.gt {b : Option Nat} {base : Nat} {w : World} {u : Value} {ts : List (List (List Int))} (h : Gto b base w u ts) : Gt base w u ts := by
  obtain ⟨vs, ho, hr⟩ := h
  exact ⟨vs, ho, fun k h1 h2 => (hr k h1 h2).gs⟩
theorem Gr.below {b : Option Nat} {w w' : World} {u : Value} {t : List (List Int)} (h : Gr b w u t) (hb : Below w.heap.size w w') : Gr b w' u t := by
  obtain ⟨vs, ho, hr⟩ := h
  exact ⟨vs, owns_below ho hb, fun k h1 h2 => ⟨(hr k h1 h2).1.below hb, (hr k h1 h2).2⟩⟩
theorem Gto.below {b : Option Nat} {base : Nat} {w w' : World} {u : Value} {ts : List (List (List Int))} (h : Gto b base w u ts) (hb : Below w.heap.size w w') : Gto b base w' u ts := by
  obtain ⟨vs, ho, hr⟩ := h
  exact ⟨vs, owns_below ho hb, fun k h1 h2 => (hr k h1 h2).below hb⟩
theorem Gto.nil {b : Option Nat} {base : Nat} {w : World} {u : Value} (h : Gt base w u []) : Gto b base w u [] := by
  obtain ⟨vs, ho, _⟩ := h
  exact ⟨vs, ho, fun k _ h2 => absurd h2 (Nat.not_lt_zero _)⟩
/-- A table of a call made behind a block lies off it. -/
theorem Gr.of {b : Nat} {w : World} {u : Value} {t : List (List Int)} {vs : List Value} (ho : w.ownsRow 0 22 1 u t.length vs) (hr : ∀ k (h1 : k < vs.length) (h2 : k < t.length), Gb (b + 1) w vs[k] t[k]) : Gr (some b) w u t :=
  ⟨vs, ho, fun k h1 h2 => ⟨(hr k h1 h2).g1, fun g hg e => by
    have := ((hr k h1 h2).lt g hg).1
    injection e with e
    omega⟩⟩
theorem Gr.move {b b' : Option Nat} {w : World} {u : Value} {t : List (List Int)} (h : Gr b w u t) (hx : ∀ g, b' = some g → b = some g ∨ w.heap.size ≤ g) : Gr b' w u t := by
  obtain ⟨vs, ho, hr⟩ := h
  refine ⟨vs, ho, fun k h1 h2 => ⟨(hr k h1 h2).1, fun g hg e => ?_⟩⟩
  rcases hx g e with h3 | h3
  · exact (hr k h1 h2).2 g hg h3
  · have := owns_lt (hr k h1 h2).1 hg
    omega
theorem Gto.move {b b' : Option Nat} {base : Nat} {w : World} {u : Value} {ts : List (List (List Int))} (h : Gto b base w u ts) (hx : ∀ g, b' = some g → b = some g ∨ w.heap.size ≤ g) : Gto b' base w u ts := by
  obtain ⟨vs, ho, hr⟩ := h
  exact ⟨vs, ho, fun k h1 h2 => (hr k h1 h2).move hx⟩
/-- The dimensions grow. -/
theorem Gto.turnD {base base' : Nat} {w w' : World} {u v : Value} {ts : List (List (List Int))} {xs : List Int} {b' : Option Nat} (h : Gto v.ownBlock base w u ts) (hv : Gb base' w v xs) (hg : w.grownBy w' v.ownBlock) (hx : ∀ g, b' = some g → v.ownBlock = some g ∨ w.heap.size ≤ g) : Gto b' base w' u ts := by
  obtain ⟨vs, ho, hr⟩ := h
  refine ⟨vs, owns_grown ho hv (by decide) hg, fun k h1 h2 => ?_⟩
  obtain ⟨us, hu, hq⟩ := hr k h1 h2
  refine ⟨us, owns_grown hu hv (by decide) hg, fun i a1 a2 => ⟨owns_grown_off (hq i a1 a2).1 (hq i a1 a2).2 hg, fun g hg2 e => ?_⟩⟩
  rcases hx g e with h3 | h3
  · exact (hq i a1 a2).2 g hg2 h3
  · have := owns_lt (hq i a1 a2).1 hg2
    omega
theorem Gr.grown {b : Option Nat} {w w3 : World} {base n : Nat} {u v : Value} {t : List (List Int)} {vs : List Value} (h : Gr b w u t) (ho : w.ownsRow base 39 1 v n vs) (hg : w.grownBy w3 v.ownBlock) : Gr b w3 u t := by
  obtain ⟨us, hu, hr⟩ := h
  exact ⟨us, owns_grown hu ho (by decide) hg, fun k h1 h2 => ⟨owns_grown (hr k h1 h2).1 ho (by decide) hg, (hr k h1 h2).2⟩⟩
theorem Gto.push {b : Option Nat} {base : Nat} {w w3 : World} {v v' row : Value} {ts : List (List (List Int))} {vs : List Value} {x : List (List Int)} (ho : w.ownsRow base 39 1 v ts.length vs) (hr : ∀ k (h1 : k < vs.length) (h2 : k < ts.length), Gr b w vs[k] ts[k]) (hx : Gr b w row x)
    (ho3 : w3.ownsRow base 39 1 v' (ts.length + 1) (vs ++ [row])) (hg : w.grownBy w3 v.ownBlock) : Gto b base w3 v' (ts ++ [x]) := by
  have hvl : vs.length = ts.length := by have := ho.1; omega
  refine ⟨vs ++ [row], by simpa using ho3, fun k h1 h2 => ?_⟩
  by_cases e : k < vs.length
  · rw [List.getElem_append_left e, List.getElem_append_left (by omega)]
    exact (hr k e (by omega)).grown ho hg
  · have e2 : k = vs.length := by simp at h1; omega
    subst e2
    rw [List.getElem_append_right (Nat.le_refl _), List.getElem_append_right (by omega)]
    simp only [Nat.sub_self, hvl, List.getElem_cons_zero]
    exact hx.grown ho hg
theorem Gr.off {b : Option Nat} {w : World} {g k : Nat} {t : TypeId} {f : Nat → Value} {u : Value} {xs : List (List Int)} (h : Gr b w u xs) (hr : w.rowIs g t k f) (ht : t ≠ 2 ∧ t ≠ 22) (i : Nat) (x : Value) : Gr b (w.setCell ⟨g, i, none⟩ x) u xs := by
  obtain ⟨vs, ho, h1⟩ := h
  exact ⟨vs, owns_off ho hr ht.2 i x, fun k a c => ⟨(h1 k a c).1.off hr ht.1 i x, (h1 k a c).2⟩⟩
theorem Gto.off {b : Option Nat} {base : Nat} {w : World} {g k : Nat} {t : TypeId} {f : Nat → Value} {u : Value} {xs : List (List (List Int))} (h : Gto b base w u xs) (hr : w.rowIs g t k f) (ht : t ≠ 2 ∧ t ≠ 22 ∧ t ≠ 39) (i : Nat) (x : Value) : Gto b base (w.setCell ⟨g, i, none⟩ x) u xs := by
  obtain ⟨vs, ho, h1⟩ := h
  exact ⟨vs, owns_off ho hr ht.2.2 i x, fun k a c => (h1 k a c).off hr ⟨ht.1, ht.2.1⟩ i x⟩

/-- A complex that the model gathers, dimensions and tables in turn: its box at block g, its two lists. -/
structure Sdo (w1 wr : World) (g : Nat) (p : Int) (v vm : Value) (xs : List Int) (ts : List (List (List Int))) : Prop where
  below : Below w1.heap.size w1 wr
  lo : w1.heap.size ≤ g
  box : wr.rowIs g 28 3 (sel3 (.int .i64 p) v vm)
  dims : Gb w1.heap.size wr v xs
  maps : Gto v.ownBlock w1.heap.size wr vm ts
theorem Sdo.start {w1 wr : World} {g : Nat} {p : Int} {v vm : Value} {xs : List Int} (h : Sd w1 wr g p v vm xs []) : Sdo w1 wr g p v vm xs [] := ⟨h.below, h.lo, h.box, h.dims, Gto.nil h.maps⟩
theorem Sdo.sd {w1 wr : World} {g : Nat} {p : Int} {v vm : Value} {xs : List Int} {ts : List (List (List Int))} (h : Sdo w1 wr g p v vm xs ts) : Sd w1 wr g p v vm xs ts := ⟨h.below, h.lo, h.box, h.dims, h.maps.gt⟩
theorem Sdo.next {w1 wr wa : World} {g : Nat} {p : Int} {v vm : Value} {xs : List Int} {ts : List (List (List Int))} (h : Sdo w1 wr g p v vm xs ts) (hb : Below wr.heap.size wr wa) : Sdo w1 wa g p v vm xs ts :=
  ⟨h.below.trans (hb.mono h.below.size), h.lo, h.box.of_block (hb.block _ h.box.lt), h.dims.below hb, h.maps.below hb⟩
theorem Sdo.stepD {w1 wa w' : World} {g g' n c : Nat} {p : Int} {v vm : Value} {xs xs' : List Int} {ts : List (List (List Int))} (h : Sdo w1 wa g p v vm xs ts) (hg : wa.grownBy w' v.ownBlock) (hn : Gb w1.heap.size w' (.slice (some ⟨g', 0, none⟩) n c) xs') (hl : v.ownBlock = some g' ∨ g' = wa.heap.size) :
    Sdo w1 (w'.setCell ⟨g, 1, none⟩ (.slice (some ⟨g', 0, none⟩) n c)) g p (.slice (some ⟨g', 0, none⟩) n c) vm xs' ts := by
  have hr := row_grown h.box h.dims coT.1 hg
  have hb := h.below.grown hg h.below.size (fun g hg => (h.dims.lt g hg).1)
  have hm : Gto (some g') w1.heap.size w' vm ts := h.maps.turnD h.dims hg (fun g2 e => by
    injection e with e
    subst e
    rcases hl with hl | hl
    · exact Or.inl hl
    · exact Or.inr (Nat.le_of_eq hl.symm))
  refine ⟨hb.setCell h.lo _, h.lo, (hr.set 1 _).congr (fun j hj => ?_), hn.off hr coT.1 _ _, hm.off hr coT _ _⟩
  match j, hj with
  | 0, _ => rfl
  | 1, _ => rfl
  | 2, _ => rfl
theorem Sdo.stepM {w1 wa w' : World} {g : Nat} {p : Int} {v vm v' : Value} {xs : List Int} {ts ts' : List (List (List Int))} (h : Sdo w1 wa g p v vm xs ts) (hg : wa.grownBy w' vm.ownBlock) (hn : Gto v.ownBlock w1.heap.size w' v' ts') : Sdo w1 (w'.setCell ⟨g, 2, none⟩ v') g p v v' xs ts' := by
  obtain ⟨vs, ho, _⟩ := h.maps
  have hr := row_grown h.box ho coT.2.2 hg
  have hb := h.below.grown hg h.below.size (fun g hg => (h.sd.maps.lt g hg).1)
  have hd : Gb w1.heap.size w' v xs := owns_grown h.dims ho (by decide) hg
  refine ⟨hb.setCell h.lo _, h.lo, (hr.set 2 v').congr (fun j hj => ?_), hd.off hr coT.1 _ _, hn.off hr coT _ _⟩
  match j, hj with
  | 0, _ => rfl
  | 1, _ => rfl
  | 2, _ => rfl

section
variable {o : Oper} {a : Act} {w : World} {K : Act → World → Prop} {Q : Exit → Act → World → Prop}
/-- As wp_appendB1, telling where the new block lies. -/
theorem wp_appendB1l (dst : Option Tmp) (hdst : o.dst = dst) (s x : Operand) (ho : o.op = .call { callee := .builtin .append, args := #[s, x], argTypes := #[22, 22] }) (base : Nat) (v : Value) (xs : List Int) (hs : a.eval s = v) (hown : Gb base w v xs)
    (b : Nat) (hx : a.eval x = .slice (some ⟨b, 0, none⟩) 1 1) (z : Int) (hc : w.cell? ⟨b, 0, none⟩ = some (.int .i64 z)) (hl : xs.length ≤ 2097151) (hb : base ≤ w.heap.size)
    (h : ∀ g cap w', Gb base w' (.slice (some ⟨g, 0, none⟩) (xs.length + 1) cap) (xs ++ [z]) → w.grownBy w' v.ownBlock → (v.ownBlock = some g ∨ g = w.heap.size) → K (a.put dst (.slice (some ⟨g, 0, none⟩) (xs.length + 1) cap)) w') : o.wp Tryd.prog a w K Q := by
  obtain ⟨i, hi, hz, hs1, hb1⟩ := info_parts Tryd.infoI
  subst hdst
  refine wp_append_lies w s x 22 ho base 2 i _ 1 8 Tryd.underlying22 hi hz hs1 hb1 rfl (by decide) v xs.length (xs.map (Value.int .i64)) hs hown ⟨b, 0, none⟩ 1 1 [.int .i64 z] hx rfl ?_ ?_ (by omega) (by unfold maxLen; omega) (by omega) hb _ rfl (fun g cap w' h1 h2 h3 _ => h g cap w' (by simpa [Gb] using h1) h2 h3)
  · intro j u hj
    match j, hj with
    | 0, hj =>
      simp at hj
      subst hj
      exact hc
  · intro u hu
    simp at hu
    subst hu
    rfl
/-- As wp_appendT1, the tables' rows off a block. -/
theorem wp_appendT1o (dst : Option Tmp) (hdst : o.dst = dst) (s x : Operand) (ho : o.op = .call { callee := .builtin .append, args := #[s, x], argTypes := #[23, 23] }) (base : Nat) (v : Value) (ts : List (List (List Int))) (hs : a.eval s = v) (off : Option Nat) (hown : Gto off base w v ts)
    (b : Nat) (hx : a.eval x = .slice (some ⟨b, 0, none⟩) 1 1) (ar : Option Addr) (nr cr : Nat) (hc : w.cell? ⟨b, 0, none⟩ = some (.slice ar nr cr)) (y : List (List Int)) (hy : Gr off w (.slice ar nr cr) y) (hl : ts.length ≤ 2097151) (hb : base ≤ w.heap.size)
    (h : ∀ g cap w', Gto off base w' (.slice (some ⟨g, 0, none⟩) (ts.length + 1) cap) (ts ++ [y]) → w.grownBy w' v.ownBlock → K (a.put dst (.slice (some ⟨g, 0, none⟩) (ts.length + 1) cap)) w') : o.wp Tryd.prog a w K Q := by
  obtain ⟨i, hi, hz, hs1, hb1⟩ := info_parts Tryd.infoSS
  obtain ⟨vs, hvo, hvr⟩ := hown
  subst hdst
  refine wp_append_lies w s x 23 ho base 39 i _ 1 24 Tryd.underlying23 hi hz hs1 hb1 rfl (by decide) v ts.length vs hs hvo ⟨b, 0, none⟩ 1 1 [.slice ar nr cr] hx rfl ?_ ?_ (by omega) (by unfold maxLen; omega) (by omega) hb _ rfl (fun g cap w' h1 h2 _ _ => h g cap w' (Gto.push hvo hvr hy h1 h2) h2)
  · intro j u hj
    match j, hj with
    | 0, hj =>
      simp at hj
      subst hj
      exact hc
  · intro u hu
    simp at hu
    subst hu
    rfl
end
end Go.Proofs.YtpdkfidmmjlmnabDoor


namespace Go.Proofs.YtpdkfidmmjlmnabDoor
open Go.RowKit

/-- A table that the call gathers, its rows off a block. -/
def Grb (b : Option Nat) (base : Nat) (w : World) (u : Value) (t : List (List Int)) : Prop := ∃ vs, w.ownsRow base 22 1 u t.length vs ∧ ∀ k (h1 : k < vs.length) (h2 : k < t.length), G1 w vs[k] t[k] ∧ OffB b vs[k]
theorem Grb.gs {b : Option Nat} {base : Nat} {w : World} {u : Value} {t : List (List Int)} (h : Grb b base w u t) : Gs base w u t := by
  obtain ⟨vs, ho, hr⟩ := h
  exact ⟨vs, ho, fun k h1 h2 => (hr k h1 h2).1⟩
theorem Grb.below {b : Option Nat} {base : Nat} {w w' : World} {u : Value} {t : List (List Int)} (h : Grb b base w u t) (hb : Below w.heap.size w w') : Grb b base w' u t := by
  obtain ⟨vs, ho, hr⟩ := h
  exact ⟨vs, owns_below ho hb, fun k h1 h2 => ⟨(hr k h1 h2).1.below hb, (hr k h1 h2).2⟩⟩
theorem Grb.start {b : Option Nat} {base : Nat} {w : World} {u : Value} (h : Gs base w u []) : Grb b base w u [] := by
  obtain ⟨vs, ho, _⟩ := h
  exact ⟨vs, ho, fun k _ h2 => absurd h2 (Nat.not_lt_zero _)⟩
theorem Grb.gr {b : Option Nat} {base : Nat} {w : World} {u : Value} {t : List (List Int)} (h : Grb b base w u t) : Gr b w u t := by
  have h0 := h.gs.mono (Nat.zero_le _)
  obtain ⟨vs, ho, hr⟩ := h
  refine ⟨vs, ⟨ho.1, ?_⟩, hr⟩
  rcases ho.2 with h2 | ⟨g, cap, cur, hu, _, r⟩
  · exact Or.inl h2
  · exact Or.inr ⟨g, cap, cur, hu, Nat.zero_le _, r⟩
theorem Gb.offB {base g : Nat} {w : World} {u : Value} {xs : List Int} (h : Gb base w u xs) (hg : g < base) : OffB (some g) u := fun g2 h2 e => by
  have := (h.lt g2 h2).1
  injection e with e
  omega
theorem Grb.push {b : Option Nat} {base : Nat} {w w3 : World} {v v' row : Value} {t : List (List Int)} {vs : List Value} {x : List Int} (ho : w.ownsRow base 22 1 v t.length vs) (hr : ∀ k (h1 : k < vs.length) (h2 : k < t.length), G1 w vs[k] t[k] ∧ OffB b vs[k]) (hx : G1 w row x) (hb : OffB b row)
    (ho3 : w3.ownsRow base 22 1 v' (t.length + 1) (vs ++ [row])) (hg : w.grownBy w3 v.ownBlock) : Grb b base w3 v' (t ++ [x]) := by
  have hvl : vs.length = t.length := by have := ho.1; omega
  have keep : ∀ u xs, G1 w u xs → G1 w3 u xs := fun u xs h => owns_grown h ho (by decide) hg
  refine ⟨vs ++ [row], by simpa using ho3, fun k h1 h2 => ?_⟩
  by_cases e : k < vs.length
  · rw [List.getElem_append_left e, List.getElem_append_left (by omega)]
    exact ⟨keep _ _ (hr k e (by omega)).1, (hr k e (by omega)).2⟩
  · have e2 : k = vs.length := by simp at h1; omega
    subst e2
    rw [List.getElem_append_right (Nat.le_refl _), List.getElem_append_right (by omega)]
    simp only [Nat.sub_self, hvl, List.getElem_cons_zero]
    exact ⟨keep _ _ hx, hb⟩
section
variable {o : Oper} {a : Act} {w : World} {K : Act → World → Prop} {Q : Exit → Act → World → Prop}
theorem wp_appendS1o (dst : Option Tmp) (hdst : o.dst = dst) (s x : Operand) (ho : o.op = .call { callee := .builtin .append, args := #[s, x], argTypes := #[39, 39] }) (off : Option Nat) (base : Nat) (v : Value) (tb : List (List Int)) (hs : a.eval s = v) (hown : Grb off base w v tb)
    (b : Nat) (hx : a.eval x = .slice (some ⟨b, 0, none⟩) 1 1) (ar : Option Addr) (nr cr : Nat) (hc : w.cell? ⟨b, 0, none⟩ = some (.slice ar nr cr)) (y : List Int) (hy : G1 w (.slice ar nr cr) y) (hyo : OffB off (.slice ar nr cr)) (hl : tb.length ≤ 2097151) (hb : base ≤ w.heap.size)
    (h : ∀ g cap w', Grb off base w' (.slice (some ⟨g, 0, none⟩) (tb.length + 1) cap) (tb ++ [y]) → w.grownBy w' v.ownBlock → K (a.put dst (.slice (some ⟨g, 0, none⟩) (tb.length + 1) cap)) w') : o.wp Tryd.prog a w K Q := by
  obtain ⟨i, hi, hz, hs1, hb1⟩ := info_parts Tryd.infoS
  obtain ⟨vs, hvo, hvr⟩ := hown
  subst hdst
  refine wp_append_lies w s x 39 ho base 22 i _ 1 24 Tryd.underlying39 hi hz hs1 hb1 rfl (by decide) v tb.length vs hs hvo ⟨b, 0, none⟩ 1 1 [.slice ar nr cr] hx rfl ?_ ?_ (by omega) (by unfold maxLen; omega) (by omega) hb _ rfl (fun g cap w' h1 h2 _ _ => h g cap w' (Grb.push hvo hvr hy hyo h1 h2) h2)
  · intro j u hj
    match j, hj with
    | 0, hj =>
      simp at hj
      subst hj
      exact hc
  · intro u hu
    simp at hu
    subst hu
    rfl
end
section
variable {ops : Array Oper} {rest : List Oper} {o : Oper} {a : Act} {w : World} {Q : Exit → Act → World → Prop}
theorem wpList_appendT1o (hgd : o.guard = none) (dst : Option Tmp) (hdst : o.dst = dst) (s x : Operand) (ho : o.op = .call { callee := .builtin .append, args := #[s, x], argTypes := #[23, 23] }) (base : Nat) (v : Value) (ts : List (List (List Int))) (hs : a.eval s = v) (off : Option Nat) (hown : Gto off base w v ts)
    (b : Nat) (hx : a.eval x = .slice (some ⟨b, 0, none⟩) 1 1) (ar : Option Addr) (nr cr : Nat) (hc : w.cell? ⟨b, 0, none⟩ = some (.slice ar nr cr)) (y : List (List Int)) (hy : Gr off w (.slice ar nr cr) y) (hl : ts.length ≤ 2097151) (hb : base ≤ w.heap.size)
    (h : ∀ g cap w', Gto off base w' (.slice (some ⟨g, 0, none⟩) (ts.length + 1) cap) (ts ++ [y]) → w.grownBy w' v.ownBlock → wpList Tryd.prog ops Q rest (a.put dst (.slice (some ⟨g, 0, none⟩) (ts.length + 1) cap)) w') : wpList Tryd.prog ops Q (o :: rest) a w :=
  wpList_plain hgd fun _ hK => wp_appendT1o dst hdst s x ho base v ts hs off hown b hx ar nr cr hc y hy hl hb fun g cap w' h1 h2 => by subst hdst; exact hK _ _ (h g cap w' h1 h2)
end
end Go.Proofs.YtpdkfidmmjlmnabDoor


namespace Go.Proofs.YtpdkfidmmjlmnabDoor
open Go.RowKit
theorem ax_rows {p : Int} {ds : List Int} {ms : List (List (List Int))} (h : IsCx p ds ms) (q : Nat) : ds.getD (q + 1) 0 = ((tabN ms q).length : Int) := by
  have h1 := h.1.mlen
  have h2 := h.1.dim (q + 1)
  unfold tabN
  by_cases hk : q < ms.length
  · have ht := h.tab hk
    have := ht.1
    omega
  · rw [List.getD_eq_getElem?_getD, List.getD_eq_getElem?_getD, List.getElem?_eq_none (by omega), List.getElem?_eq_none (by omega)]
    rfl
theorem Gb.off3 {base g : Nat} {w : World} {u : Value} {xs : List Int} {t : TypeId} {x0 x1 x2 : Value} (h : Gb base w u xs) (hr : w.heap[g]? = some (.cells #[x0, x1, x2] t)) (ht : t ≠ 2) (v0 v1 v2 : Value) : Gb base (((w.setCell ⟨g, 0, none⟩ v0).setCell ⟨g, 1, none⟩ v1).setCell ⟨g, 2, none⟩ v2) u xs := by
  have r0 := rowIs3 hr
  have r1 := r0.set 0 v0
  have r2 := r1.set 1 v1
  exact ((h.off r0 ht 0 v0).off r1 ht 1 v1).off r2 ht 2 v2
theorem Gt.off3 {base g : Nat} {w : World} {u : Value} {ts : List (List (List Int))} {t : TypeId} {x0 x1 x2 : Value} (h : Gt base w u ts) (hr : w.heap[g]? = some (.cells #[x0, x1, x2] t)) (ht : t ≠ 2 ∧ t ≠ 22 ∧ t ≠ 39) (v0 v1 v2 : Value) : Gt base (((w.setCell ⟨g, 0, none⟩ v0).setCell ⟨g, 1, none⟩ v1).setCell ⟨g, 2, none⟩ v2) u ts := by
  have r0 := rowIs3 hr
  have r1 := r0.set 0 v0
  have r2 := r1.set 1 v1
  exact ((h.off r0 ht 0 v0).off r1 ht 1 v1).off r2 ht 2 v2
theorem Gt.zero {base : Nat} {w : World} {u : Value} {ts : List (List (List Int))} (h : Gt base w u ts) : Gt 0 w u ts := by
  obtain ⟨vs, ho, hr⟩ := h
  refine ⟨vs, ⟨ho.1, ?_⟩, hr⟩
  rcases ho.2 with h2 | ⟨g, cap, cur, hu, _, r⟩
  · exact Or.inl h2
  · exact Or.inr ⟨g, cap, cur, hu, Nat.zero_le _, r⟩
end Go.Proofs.YtpdkfidmmjlmnabDoor


namespace Go.Proofs.YtpdkfidmmjlmnabDoor
open Go.RowKit

theorem run_append_zeros {base : Nat} (w : World) (ty : TypeId) (v : Value) (xs : List Int) (hown : Gb base w v xs) (kq : IntKind) (k : Nat) (h63 : xs.length + k ≤ 2097152) (hb : base ≤ w.heap.size) :
    ∃ v' w', (Builtin.append_ #[22, 2] ty #[v, .int kq (k : Int)]).run Tryd.prog w = .ok v' w' ∧ Gb base w' v' (xs ++ List.replicate k 0) ∧ w.grownBy w' v.ownBlock := by
  obtain ⟨i, hi, hz, hs, hbt⟩ := info_parts Tryd.infoI
  have ht := Tryd.underlying22
  have htn := Tryd.underlying2
  have hw : IntKind.i64.wrap (k : Int) = k := IntWalk.i64_in _ (by omega)
  have hneg : ¬ ((k : Int) < 0) := by omega
  have h48i : ¬ (281474976710656 < (k : Int) * 8) := by omega
  have hzc : (Builtin.zeroCells (Value.int .i64 0).cells k) = (List.replicate k (Value.int .i64 0)).toArray := by
    refine Array.ext (by simp [Builtin.zeroCells, Value.cells]) fun j h1 h2 => ?_
    simp [Builtin.zeroCells, Value.cells, Nat.mod_one]
  have hw0 : IntKind.i64.wrap 0 = 0 := by decide
  have hown' := hown
  obtain ⟨hl, h2⟩ := hown'
  by_cases hk : k = 0
  · subst hk
    refine ⟨v, w, ?_, by simpa using hown, ⟨rfl, rfl, rfl, Nat.le_refl _, fun _ _ _ => rfl⟩⟩
    rcases h2 with ⟨rfl, h0⟩ | ⟨g, cap, cur, rfl, hbg, hg, hnc, hcm, hcs, htake⟩
    · simp [Builtin.append_, run_underlying ht, run_underlying htn, sizeOf, typeInfo, hi, hbt, asInt, asIntOf, hw0, Builtin.firstCells]
    · simp [Builtin.append_, run_underlying ht, run_underlying htn, sizeOf, typeInfo, hi, hbt, asInt, asIntOf, hw0, hnc, storeCells]
  · rcases h2 with ⟨rfl, h0⟩ | ⟨g, cap, cur, rfl, hbg, hg, hnc, hcm, hcs, htake⟩
    · have hx : xs = [] := List.eq_nil_of_length_eq_zero h0
      subst hx
      have hr := Lib.run_append_nil_zeros (P := Tryd.prog) w 22 2 ty 2 i _ kq .i64 ht htn hi hz k (by omega) (by omega) (by omega) (by rw [hbt]; omega)
      refine ⟨_, _, hr, ⟨by simp, Or.inr ⟨w.heap.size, _, _, by simp, hb, heap_alloc_new w.drew _, ?_, grownCap_le_maxLen w k 0 2 (by unfold maxLen; simp at h63; omega), ?_, ?_⟩⟩, ⟨rfl, rfl, rfl, by simp, fun j hj _ => heap_alloc_old w.drew _ hj⟩⟩
      · have := grownCap_ge w k 0 2
        simp
        omega
      · have := grownCap_ge w k 0 2
        simp [Builtin.zeroCells, Value.cells]
        omega
      · rw [hzc]
        simp
    · by_cases hroom : xs.length + k ≤ cap
      · have hst := run_storeCells_at Tryd.prog g xs.length 2 (List.replicate k (Value.int .i64 0)) 0 cur w hg (by simp; omega) (fun u hu => by rw [(List.mem_replicate.1 hu).2]; rfl)
        simp only [Nat.add_zero] at hst
        refine ⟨.slice (some ⟨g, 0, none⟩) (xs.length + k) cap, w.setRow g (cur.toList.take xs.length ++ List.replicate k (Value.int .i64 0) ++ cur.toList.drop (xs.length + (List.replicate k (Value.int .i64 0)).length)).toArray, ?_, ⟨by simp, Or.inr ⟨g, cap, _, by simp, hbg, setRow_heap w g cur _ _ _ hg, by simpa using hroom, hcm, ?_, ?_⟩⟩, ⟨rfl, rfl, rfl, by simp, fun j _ hj => setRow_other w g j _ (fun e => hj (by simp [Value.ownBlock, e]))⟩⟩
        · have hcw : (xs.length : Int) + (k : Int) ≤ (cap : Int) := by omega
          simp [Builtin.append_, run_underlying ht, run_underlying htn, sizeOf, typeInfo, zeroValue, hi, hz, hs, hbt, asInt, asIntOf, hw, hneg, h48i, hroom, hk, hzc, Addr.add_lit, hst]
        · simp
          simp at hcs
          omega
        · simp only [Nat.mul_one] at htake ⊢
          rw [htake, List.map_append, List.map_replicate]
          exact List.take_left' (by simp)
      · have holds : ∀ j u, (xs.map (Value.int .i64))[j]? = some u → w.cell? ((⟨g, 0, none⟩ : Addr).add j) = some u := hown.cells (g := g) rfl
        have hfc := run_firstCells_some (P := Tryd.prog) w.drew i.size xs.length ⟨g, 0, none⟩ xs.length cap (xs.map (Value.int .i64)) (by simp [hs]) holds
        have hr := Lib.run_append_grow_zeros (P := Tryd.prog) w 22 2 ty 2 i _ kq .i64 ht htn hi hz (some ⟨g, 0, none⟩) xs.length cap (xs.map (Value.int .i64)) hfc k (by omega) (by omega) (by omega) (by omega) (by rw [hbt]; omega) (growslice_fits (by omega) (by rw [hbt]; omega))
        refine ⟨_, _, hr, ⟨by simp, Or.inr ⟨w.heap.size, _, _, by simp, hb, heap_alloc_new w.drew _, ?_, grownCap_le_maxLen w (xs.length + k) cap 2 (by unfold maxLen; omega), ?_, ?_⟩⟩, ⟨rfl, rfl, rfl, by simp, fun j hj _ => heap_alloc_old w.drew _ hj⟩⟩
        · have := grownCap_ge w (xs.length + k) cap 2
          simp
          omega
        · have := grownCap_ge w (xs.length + k) cap 2
          simp [Builtin.zeroCells, Value.cells]
          omega
        · rw [hzc]
          simp [List.take_append]
          exact List.take_of_length_le (by simp)
end Go.Proofs.YtpdkfidmmjlmnabDoor


namespace Go.Proofs.YtpdkfidmmjlmnabDoor
open Go.RowKit

theorem run_append_row {base : Nat} (w : World) (ty : TypeId) (v : Value) (xs : List Int) (hown : Gb base w v xs) (u : Value) (ys : List Int) (hy : L1 0 w u ys) (h63 : xs.length + ys.length ≤ 2097152) (hb : base ≤ w.heap.size) :
    ∃ v' w', (Builtin.append_ #[22, 22] ty #[v, u]).run Tryd.prog w = .ok v' w' ∧ Gb base w' v' (xs ++ ys) ∧ w.grownBy w' v.ownBlock := by
  obtain ⟨i, hi, hz, hs, hbt⟩ := info_parts Tryd.infoI
  rcases hy with ⟨rfl, ad, cap, rfl⟩ | ⟨b, o, cap, rfl, _, _, hc⟩
  · exact ⟨v, w, run_append_none' w _ _ _ i Tryd.underlying22 hi hown ad cap, by rw [List.append_nil]; exact hown, ⟨rfl, rfl, rfl, Nat.le_refl _, fun _ _ _ => rfl⟩⟩
  · obtain ⟨v', w', hr, h2, h3, _⟩ := run_append_own (P := Tryd.prog) w base 22 ty 2 i _ 1 8 Tryd.underlying22 hi hz hs hbt (by rfl) (by decide) v xs.length (xs.map (Value.int .i64)) hown ⟨b, o, none⟩ ys.length cap (ys.map (Value.int .i64)) (by simp)
      (fun j u hj => by
        have hj' : j < ys.length := by have := (List.getElem?_eq_some_iff.1 hj).1; simpa using this
        obtain ⟨u2, hu2, hr2⟩ := hc j hj'
        rw [Addr.add_mid, hu2, hr2]
        simp [hj'] at hj
        rw [← hj]) (fun u hu => by
        obtain ⟨y, _, rfl⟩ := List.mem_map.1 hu
        rfl) (by unfold maxLen; omega) (by omega) hb
    exact ⟨v', w', hr, by simpa [Gb] using h2, h3⟩
end Go.Proofs.YtpdkfidmmjlmnabDoor


namespace Go.Proofs.YtpdkfidmmjlmnabDoor
open Go.RowKit

/-- The differential of a basis vector, in memory of its own. -/
theorem l04D_unit (p : Int) (m i c n : Nat) (dv mv va : Value) (ds : List Int) (ms : List (List (List Int))) (w : World) (h : Cx 0 w dv mv ds ms) (hcx : IsCx p ds ms) (hm : m < ds.length) (hn : n = rsF ds m) (hi : i < n) (hc : dimZ ds ((m : Int) + (-1)) = (c : Int)) (ha : L1 0 w va (unitL n i)) :
    Calls Tryd.prog 33 #[.agg #[.int .i64 p, dv, mv], .int .i64 (m : Int), va] w (GbR ((cycT ds ms m).getD i []) w) := by
  have hi' : i < rsF ds m := by rw [← hn]; exact hi
  have hfr := fam_row (dfL_fam hcx.1) hm hi' (hcx.1.dim m).1 (hcx.1.dsOk.dimZ ((m : Int) + (-1))).1
  have hcs : csF ds (-1) m = c := by simp only [csF]; omega
  have ok0 := unit_apOk (i := i) hcx.1.prime (cn := csF ds (-1) m) rfl hfr.2.1
  have e := unit_apT (i := i) ok0 hi'
  rw [dfL_get hm, ← hn, hcs] at ok0 e
  have := l04D_any p m c dv mv va ds ms (unitL n i) w h hcx hm hc ha ok0 (by rw [unitL_length, hn]; have := hcx.1.dim m; simp only [rsF]; omega)
  rwa [e] at this
/-- The answers of l04Cone. -/
def CnG (p : Int) (ds : List Int) (ms : List (List (List Int))) (ds2 : List Int) (ms2 fs : List (List (List Int))) (w : World) (e : Ending) (w' : World) : Prop := ∃ u, e = .returned u ∧ GwC 0 w' u (p, cnD ds ds2, cnM p ds ms ds2 ms2 fs) ∧ Below w.heap.size w w'
/-- The first k numbers are less than 0, mod p. -/
def negK (p : Int) (v : List Int) (k : Nat) : List Int := (List.range v.length).map fun q => if q < k then -(v.getD q 0) % p else v.getD q 0
theorem negK_len (p : Int) (v : List Int) (k : Nat) : (negK p v k).length = v.length := by simp [negK]
theorem negK_zero (p : Int) (v : List Int) : negK p v 0 = v := by
  refine List.ext_getElem (by simp [negK]) fun q h1 h2 => ?_
  simp [negK, List.getD, h2]
theorem negK_at {p : Int} {v : List Int} {k : Nat} (hk : k < (negK p v k).length) : (negK p v k)[k] = v.getD k 0 := by simp [negK]
theorem negK_set {p : Int} (v : List Int) {k : Nat} : (negK p v k).set k (-(v.getD k 0) % p) = negK p v (k + 1) := by
  refine List.ext_getElem (by simp [negK]) fun q h1 h2 => ?_
  rw [List.getElem_set]
  by_cases e : k = q
  · subst e
    simp [negK]
  · rw [if_neg e]
    have e2 : q < k ↔ q < k + 1 := by omega
    simp [negK, e2]
theorem negK_done (p : Int) (v : List Int) : negK p v v.length = (List.range v.length).map fun q => -(v.getD q 0) % p :=
  List.map_congr_left fun q hq => by rw [if_pos (List.mem_range.1 hq)]
theorem gb_atC {base g n cap : Nat} {w : World} {xs : List Int} (h : Gb base w (.slice (some ⟨g, 0, none⟩) n cap) xs) {k : Nat} (hk : k < xs.length) : w.cell? ⟨g, k, none⟩ = some (.int .i64 xs[k]) := by
  refine Sl.cases h.l1 (fun _ _ hx _ => absurd hk (by simp [hx])) (fun b o c hv _ _ hc => ?_)
  injection hv with e1
  injection e1 with e1
  injection e1 with e1 e2
  subst e1 e2
  obtain ⟨u, hu, hr⟩ := hc k hk
  rw [hr] at hu
  simpa using hu

section
variable {ops : Array Oper} {rest : List Oper} {o : Oper} {a : Act} {w : World} {Q : Exit → Act → World → Prop}
theorem wpList_appendS1o (hgd : o.guard = none) (dst : Option Tmp) (hdst : o.dst = dst) (s x : Operand) (ho : o.op = .call { callee := .builtin .append, args := #[s, x], argTypes := #[39, 39] }) (off : Option Nat) (base : Nat) (v : Value) (tb : List (List Int)) (hs : a.eval s = v) (hown : Grb off base w v tb)
    (b : Nat) (hx : a.eval x = .slice (some ⟨b, 0, none⟩) 1 1) (ar : Option Addr) (nr cr : Nat) (hc : w.cell? ⟨b, 0, none⟩ = some (.slice ar nr cr)) (y : List Int) (hy : G1 w (.slice ar nr cr) y) (hyo : OffB off (.slice ar nr cr)) (hl : tb.length ≤ 2097151) (hb : base ≤ w.heap.size)
    (h : ∀ g cap w', Grb off base w' (.slice (some ⟨g, 0, none⟩) (tb.length + 1) cap) (tb ++ [y]) → w.grownBy w' v.ownBlock → wpList Tryd.prog ops Q rest (a.put dst (.slice (some ⟨g, 0, none⟩) (tb.length + 1) cap)) w') : wpList Tryd.prog ops Q (o :: rest) a w :=
  wpList_plain hgd fun _ hK => wp_appendS1o dst hdst s x ho off base v tb hs hown b hx ar nr cr hc y hy hyo hl hb fun g cap w' h1 h2 => by subst hdst; exact hK _ _ (h g cap w' h1 h2)
end

set_option maxHeartbeats 25600000 in
set_option maxRecDepth 100000 in
theorem l04Cone_any (p : Int) (dv mv dv2 mv2 fv : Value) (ds : List Int) (ms : List (List (List Int))) (ds2 : List Int) (ms2 fs : List (List (List Int))) (w : World) (h : Cx 0 w dv mv ds ms) (h2 : Cx 0 w dv2 mv2 ds2 ms2) (hf : L3 0 w fv fs) (hcx : IsCx p ds ms) (hcy : IsCx p ds2 ms2) (hl : ds.length = ds2.length) (hF : FamOk p ds ds2 0 fs) :
    Calls Tryd.prog 18 #[.agg #[.int .i64 p, dv, mv], .agg #[.int .i64 p, dv2, mv2], fv] w (CnG p ds ms ds2 ms2 fs w) := by
  have hres : Tryd.f18.results = #[.cell 6 28] := by kernel_rfl
  have HRES := Lib.hid hres
  obtain ⟨ad, cap, rfl⟩ := Sl.shape h.dims
  obtain ⟨am, capm, rfl⟩ := Sl.shape h.maps
  obtain ⟨ad2, cap2, rfl⟩ := Sl.shape h2.dims
  obtain ⟨am2, capm2, rfl⟩ := Sl.shape h2.maps
  obtain ⟨af, cf, rfl⟩ := Sl.shape hf
  obtain ⟨k1, k2⟩ := bx_two (p := p) (p2 := p) 28 h h2
  obtain ⟨wa, hwa⟩ : ∃ wa, wa = ((w.alloc (.cells #[.int .i64 p, .slice ad ds.length cap, .slice am ms.length capm] 28)).alloc (.cells #[.int .i64 p, .slice ad2 ds2.length cap2, .slice am2 ms2.length capm2] 28)) := ⟨_, rfl⟩
  rw [← hwa] at k1 k2
  obtain ⟨w1, hw1⟩ : ∃ w1, w1 = wa.alloc (.cells #[.int .i64 0, .slice none 0 0, .slice none 0 0] 28) := ⟨_, rfl⟩
  have hsa : wa.heap.size = w.heap.size + 2 := by rw [hwa]; simp
  have hs1 : w.heap.size + 3 ≤ w1.heap.size := by rw [hw1]; simp [hsa]
  have hba : Below wa.heap.size wa w1 := by rw [hw1]; exact below_alloc1 _ _
  have HX := Lib.hid (k1.next hba)
  have HY := Lib.hid (k2.next hba)
  have HF1 := Lib.hid (hf.below HX.out.below)
  have HR0 : Hid (Rz w1 (w.heap.size + 2) 28 #[.int .i64 0, .slice none 0 0, .slice none 0 0]) := Lib.hid (by rw [hw1, ← hsa]; exact Rz.new _ _ _)
  have HNX : Hid (∀ W, Below w1.heap.size w1 W → Bx w W w.heap.size p (.slice ad ds.length cap) (.slice am ms.length capm) ds ms ∧ Bx w W (w.heap.size + 1) p (.slice ad2 ds2.length cap2) (.slice am2 ms2.length capm2) ds2 ms2 ∧ L3 0 W (.slice af fs.length cf) fs ∧ Rz W (w.heap.size + 2) 28 #[.int .i64 0, .slice none 0 0, .slice none 0 0]) := Lib.hid (fun W hb => ⟨HX.out.next hb, HY.out.next hb, HF1.out.below hb, HR0.out.next hb⟩)
  have HCX := Lib.hid hcx
  have HCY := Lib.hid hcy
  have HLL := Lib.hid hl
  have HFO := Lib.hid hF
  have hl6 := hcx.1.len1
  have hm6 := hcy.1.len1
  have hp27 : 2 ≤ p ∧ p ≤ 7 := ⟨hcx.1.prime.lo, hcx.1.prime.hi⟩
  have c0 := HX.out.c0
  obtain ⟨n, hn⟩ : ∃ n, n = ds.length + 1 := ⟨_, rfl⟩
  have HN := Lib.hid hn
  have hn7 : n ≤ 7 := by omega
  clear h h2 hf k1 k2 hba hcx hcy hl hF hres HX HY HF1 HR0 hn
  go_enter Tryd.func18, Tryd.ntmps18
  go_upto_region 1 with fail
  rw [← hwa, ← hw1]
  clear hwa hw1 hsa
  obtain ⟨wp, hwp⟩ : ∃ wp, wp = w1.alloc (.cells #[] 2) := ⟨_, rfl⟩
  obtain ⟨wq, hwq⟩ : ∃ wq, wq = wp.alloc (.cells #[] 39) := ⟨_, rfl⟩
  have hsp : wp.heap.size = w1.heap.size + 1 := by rw [hwp]; simp
  have hsq : wq.heap.size = w1.heap.size + 2 := by rw [hwq]; simp [hsp]
  obtain ⟨wo, hwo⟩ : ∃ wo, wo = wq.alloc (.cells #[.int .i64 p, .slice (some ⟨w1.heap.size, 0, none⟩) 0 0, .slice (some ⟨w1.heap.size + 1, 0, none⟩) 0 0] 28) := ⟨_, rfl⟩
  have HS0 : Hid (Sdo w1 wo (w1.heap.size + 1 + 1) p (.slice (some ⟨w1.heap.size, 0, none⟩) 0 0) (.slice (some ⟨w1.heap.size + 1, 0, none⟩) 0 0) [] []) := Lib.hid (by
    have b1 : Below w1.heap.size w1 wp := by rw [hwp]; exact below_alloc1 _ _
    have b2 : Below wp.heap.size wp wq := by rw [hwq]; exact below_alloc1 _ _
    have b3 : Below wq.heap.size wq wo := by rw [hwo]; exact below_alloc1 _ _
    have g1 : Gb w1.heap.size wp (.slice (some ⟨w1.heap.size, 0, none⟩) 0 0) [] := by rw [hwp]; exact Gb.new w1 (Nat.le_refl _)
    have g2 : Gt w1.heap.size wq (.slice (some ⟨w1.heap.size + 1, 0, none⟩) 0 0) [] := by
      have := Gt.new (base := w1.heap.size) wp (by omega)
      rw [hsp] at this
      rw [hwq]
      exact this
    refine Sdo.start ⟨(b1.trans (b2.mono (by omega))).trans (b3.mono (by omega)), by omega, ?_, (g1.below b2).below b3, g2.below b3⟩
    refine rowIs3 ?_
    have := heap_alloc_new wq (.cells #[.int .i64 p, .slice (some ⟨w1.heap.size, 0, none⟩) 0 0, .slice (some ⟨w1.heap.size + 1, 0, none⟩) 0 0] 28)
    rw [← hwo, hsq] at this
    exact this)
  obtain ⟨g, hg⟩ : ∃ g, g = w1.heap.size + 1 + 1 := ⟨_, rfl⟩
  go_upto_region 2 with fail
  rw [← hwp, ← hwq, ← hwo]
  rw [← hg]
  rw [← hg] at HS0
  clear hwp hwq hwo hsp hsq hg c0
  go_wp2
  go_loopw [8] (fun i wr => ∃ (k q : Nat) (a1 a2 : Option Addr) (c1 c2 : Nat), k ≤ n ∧ i = .int .i64 k ∧ Hid (q = k - 1) ∧ Hid (Sdo w1 wr g p (.slice a1 k c1) (.slice a2 q c2) ((cnD ds ds2).take k) ((cnM p ds ms ds2 ms2 fs).take q))) (fun i _ => n - (intOf i).toNat)
  case atStart => exact ⟨0, 0, _, _, _, _, Nat.zero_le _, rfl, Lib.hid rfl, by simpa using HS0⟩
  case round =>
    clear HS0
    obtain ⟨k, q, a1, a2, cc1, cc2, hk, rfl, HQ, HS⟩ := hrel
    obtain ⟨wx, hwx⟩ : ∃ wx : World, wx = wr := ⟨_, rfl⟩
    subst hwx
    have HBX := Lib.hid HS.out.below
    have hgB := HS.out.lo
    have c1 := (HNX.out _ HBX.out).1.c1
    by_cases hlt : k < n
    · have hlk : (k : Int) ≤ (ds.length : Int) := by have := HN.out; omega
      have hwk : IntKind.i64.wrap ((k : Int) - 1) = (k : Int) - 1 := IntWalk.i64_in _ (by omega)
      have hy0 := dimZ_8 HCY.out (k : Int)
      have hx0 := dimZ_8 HCX.out ((k : Int) - 1)
      obtain ⟨x, hx⟩ : ∃ x, x = dimZ ds2 (k : Int) := ⟨_, rfl⟩
      obtain ⟨y, hy⟩ : ∃ y, y = dimZ ds ((k : Int) - 1) := ⟨_, rfl⟩
      have HSX : Hid (cnd ds ds2 k = x + y) := Lib.hid (by rw [hx, hy]; rfl)
      have HXV := Lib.hid hx
      have HYV := Lib.hid hy
      have HK1 : Hid (∀ W, Below w1.heap.size w1 W → Calls Tryd.prog 32 #[.agg #[.int .i64 p, .slice ad2 ds2.length cap2, .slice am2 ms2.length capm2], .int .i64 (k : Int)] W (BR (.int .i64 x) W)) := Lib.hid (fun W hb => by rw [hx]; exact l01Dim_any p (k : Int) _ _ ds2 ms2 W (HNX.out W hb).2.1.cx (by omega))
      have HK2 : Hid (∀ W, Below w1.heap.size w1 W → Calls Tryd.prog 32 #[.agg #[.int .i64 p, .slice ad ds.length cap, .slice am ms.length capm], .int .i64 ((k : Int) - 1)] W (BR (.int .i64 y) W)) := Lib.hid (fun W hb => by rw [hy]; exact l01Dim_any p ((k : Int) - 1) _ _ ds ms W (HNX.out W hb).1.cx (by omega))
      rw [← hx] at hy0
      rw [← hy] at hx0
      clear hx hy
      have HSD := Lib.hid (HS.out.next (Below.refl wx.heap.size wx).drew)
      go_upto_region 5 with fail
      clear c1
      refine wp_region_last (fun W => Below w1.heap.size w1 W ∧ W.cell? ⟨g, 1, none⟩ = some (.slice a1 k cc1)) 13 (by kernel_rfl) rfl (by kernel_rfl) ?_
      have S0 : Below w1.heap.size w1 wx.drew ∧ wx.drew.cell? ⟨g, 1, none⟩ = some (.slice a1 k cc1) := ⟨HBX.out.drew, HSD.out.box.cell (i := 1) (by omega)⟩
      change wpAnyH _ _ _ _ _ _ _ _ wx.drew
      obtain ⟨wd, hwd⟩ : ∃ wd, wd = wx.drew := ⟨_, rfl⟩
      rw [← hwd] at S0 HSD ⊢
      clear hwd HS
      refine held_take (i := 0) (v := .pointer (some ⟨g, 1, none⟩)) (some 26) rfl rfl (by kernel_rfl) (by kernel_rfl) (by kernel_rfl) (fun _ _ _ h => h) (yieldsIf_run (by kernel_rfl) (fun W _ => by kernel_rfl)) S0 ?_
      refine held_take (i := 1) (v := .slice a1 k cc1) (some 27) rfl rfl (by kernel_rfl) (by kernel_rfl) (by kernel_rfl) (fun _ _ _ h => h) (yieldsIf_cell (by kernel_rfl) rfl (by kernel_rfl) (fun W h => hloadD W h.2)) S0 ?_
      refine held_take (i := 2) (v := .agg #[.int .i64 p, .slice ad2 ds2.length cap2, .slice am2 ms2.length capm2]) (some 28) rfl rfl (by kernel_rfl) (by kernel_rfl) (by kernel_rfl) (fun _ _ _ h => h) (yieldsIf_cell (by kernel_rfl) rfl (by kernel_rfl) (fun W h => hload3x (HNX.out W h.1).2.1)) S0 ?_
      refine held_take (i := 3) (v := .int .i64 (k : Int)) (some 29) rfl rfl (by kernel_rfl) (by kernel_rfl) (by kernel_rfl) (fun _ _ _ h => h) (yieldsIf_move (by kernel_rfl) rfl (by kernel_rfl)) S0 ?_
      refine held_take (i := 5) (v := .agg #[.int .i64 p, .slice ad ds.length cap, .slice am ms.length capm]) (some 31) rfl rfl (by kernel_rfl) (by kernel_rfl) (by kernel_rfl) (fun _ _ _ h => h) (yieldsIf_cell (by kernel_rfl) rfl (by kernel_rfl) (fun W h => hload3x (HNX.out W h.1).1)) S0 ?_
      refine held_take (i := 6) (v := .int .i64 (k : Int)) (some 32) rfl rfl (by kernel_rfl) (by kernel_rfl) (by kernel_rfl) (fun _ _ _ h => h) (yieldsIf_move (by kernel_rfl) rfl (by kernel_rfl)) S0 ?_
      refine held_take (i := 7) (v := .int .i64 ((k : Int) - 1)) (some 33) rfl rfl (by kernel_rfl) (by kernel_rfl) (by kernel_rfl) (fun _ _ _ h => h) (yieldsIf_bin (by kernel_rfl) rfl (by kernel_rfl) (by kernel_rfl) (fun _ => rfl) (hsubA hwk)) S0 ?_
      refine held_enter (i := 4) (some 30) (f := 32) (args := #[.agg #[.int .i64 p, .slice ad2 ds2.length cap2, .slice am2 ms2.length capm2], .int .i64 (k : Int)]) (by kernel_rfl) rfl rfl rfl (by kernel_rfl) (HK1.out _ S0.1) ?_ (fun c w' h => by cases h.1) (fun w' h => by cases h.1)
      rintro ee V1 ⟨he, hb1⟩
      injection he with he
      subst he
      have S1 : Below w1.heap.size w1 V1 ∧ V1.cell? ⟨g, 1, none⟩ = some (.slice a1 k cc1) := ⟨S0.1.trans (hb1.mono S0.1.size), later hb1 (Nat.le_refl _) S0.2⟩
      refine ⟨S1, ?_⟩
      refine held_enter (i := 8) (some 34) (f := 32) (args := #[.agg #[.int .i64 p, .slice ad ds.length cap, .slice am ms.length capm], .int .i64 ((k : Int) - 1)]) (by kernel_rfl) rfl rfl rfl (by kernel_rfl) (HK2.out _ S1.1) ?_ (fun c w' h => by cases h.1) (fun w' h => by cases h.1)
      rintro ee V2 ⟨he, hb2⟩
      injection he with he
      subst he
      have S2 : Below w1.heap.size w1 V2 ∧ V2.cell? ⟨g, 1, none⟩ = some (.slice a1 k cc1) := ⟨S1.1.trans (hb2.mono S1.1.size), later hb2 (Nat.le_refl _) S1.2⟩
      refine ⟨S2, ?_⟩
      refine held_take (i := 9) (v := .int .i64 (x + y)) (some 35) rfl rfl (by kernel_rfl) (by kernel_rfl) (by kernel_rfl) (fun _ _ _ h => h) (yieldsIf_bin (by kernel_rfl) rfl (by kernel_rfl) (by kernel_rfl) (fun _ => rfl) (haddA (IntWalk.i64_in _ (by omega)))) S2 ?_
      obtain ⟨V3, hV3⟩ : ∃ W', W' = V2.alloc (.cells #[.int .i64 (x + y)] 2) := ⟨_, rfl⟩
      have hb3 : Below V2.heap.size V2 V3 := by rw [hV3]; exact below_alloc1 _ _
      have hcell : V3.cell? ⟨V2.heap.size, 0, none⟩ = some (.int .i64 (x + y)) := by rw [hV3]; exact cell_alloc1 _ _ _
      have S3 : Below w1.heap.size w1 V3 ∧ V3.cell? ⟨g, 1, none⟩ = some (.slice a1 k cc1) := ⟨S2.1.trans (hb3.mono S2.1.size), later hb3 (Nat.le_refl _) S2.2⟩
      refine held_mem (i := 10) (v := .slice (some ⟨V2.heap.size, 0, none⟩) 1 1) (w' := V3) (some 36) (by kernel_rfl) rfl rfl rfl (by rw [hV3]; go_simp) S3 ?_
      have HSE := Lib.hid (HSD.out.next (hb1.trans ((hb2.trans (hb3.mono hb2.size)).mono hb1.size)))
      obtain ⟨TK, hTK⟩ : ∃ TK, TK = (cnD ds ds2).take k := ⟨_, rfl⟩
      rw [← hTK] at HSE
      have HKL : Hid (TK.length = k) := Lib.hid (by rw [hTK, List.length_take, cnD_length]; have := HN.out; omega)
      have HXE : Hid ((cnD ds ds2).take (k + 1) = TK ++ [x + y]) := Lib.hid (by rw [hTK, List.take_succ_eq_append_getElem (by rw [cnD_length]; have := HN.out; omega), ← HSX.out]; simp [cnD])
      refine held_call (i := 11) (by kernel_rfl) rfl rfl ?_
      refine wp_appendB1l (some 37) rfl (.tmp 27) (.tmp 36) rfl w1.heap.size (.slice a1 k cc1) TK (by kernel_rfl) HSE.out.dims V2.heap.size (by kernel_rfl) (x + y) hcell (by rw [HKL.out]; omega) S3.1.size ?_
      rw [HKL.out]
      intro g9 c9 w9 hn9 hgw hlw
      have hrb := row_grown HSE.out.box HSE.out.dims coT.1 hgw
      have z1 : w9.cell? ⟨g, 1, none⟩ = some (.slice a1 k cc1) := hrb.cell (i := 1) (by omega)
      have z2 : w9.frozen? ⟨g, 1, none⟩ = false := hrb.frozen 1
      have S9 : Below w1.heap.size w1 w9 ∧ w9.cell? ⟨g, 1, none⟩ = some (.slice a1 k cc1) := ⟨S3.1.grown hgw S3.1.size (fun g0 hg0 => (HSE.out.dims.lt g0 hg0).1), z1⟩
      refine ⟨S9, ?_⟩
      refine held_take (i := 12) (v := .pointer (some ⟨g, 1, none⟩)) (some 38) rfl rfl (by kernel_rfl) (by kernel_rfl) (by kernel_rfl) (fun _ _ _ h => h) (yieldsIf_run (by kernel_rfl) (fun W _ => by kernel_rfl)) S9 ?_
      refine held_none (i := 13) (v := .bool false) rfl rfl (by kernel_rfl) (by kernel_rfl) (by kernel_rfl) (fun _ _ _ h => h) (yieldsIf_move (by kernel_rfl) rfl (by kernel_rfl)) S9 ?_
      refine wpAnyH_done (by kernel_rfl) (lastQ_of rfl (by kernel_rfl) ?_) _
      simp only [Act.put, List.setIfInBounds_toArray, List.set_cons_zero, List.set_cons_succ]
      go_simp
      have HS9 : Hid (Sdo w1 (w9.setCell ⟨g, 1, none⟩ (.slice (some ⟨g9, 0, none⟩) (k + 1) c9)) g p (.slice (some ⟨g9, 0, none⟩) (k + 1) c9) (.slice a2 q cc2) ((cnD ds ds2).take (k + 1)) ((cnM p ds ms ds2 ms2 fs).take q)) := Lib.hid (by rw [HXE.out]; exact HSE.out.stepD hgw hn9 hlw)
      have hg9 : g9 < w9.heap.size := (hn9.lt g9 rfl).2
      obtain ⟨wf, hwf⟩ : ∃ wf, wf = w9.setCell ⟨g, 1, none⟩ (.slice (some ⟨g9, 0, none⟩) (k + 1) c9) := ⟨_, rfl⟩
      have hg9f : g9 < wf.heap.size := by rw [hwf]; simpa using hg9
      rw [← hwf] at HS9 ⊢
      clear hwf hn9 hgw hlw hrb hcell z1 z2 S0 S1 S2 S3 S9 HSE HSD hb1 hb2 hb3 hV3 hTK hg9
      by_cases hk00 : k = 0
      · have hz : ((k : Int) == 0) = true := by simp [hk00]
        have HQ2 : Hid (q = k + 1 - 1) := Lib.hid (by have := HQ.out; omega)
        clear hk00
        go_wp2
        go_roundw
        case rel => exact ⟨k + 1, q, _, _, _, _, by omega, by go_num, HQ2, HS9⟩
        case measure => simp [intOf]; omega
      · have hz : ((k : Int) == 0) = false := by simp [hk00]
        have hkq : k = q + 1 := by have := HQ.out; omega
        have HKQ := Lib.hid hkq
        have hqd : q < ds.length := by have := HN.out; omega
        have hqd2 : q < ds2.length := by have := HLL.out; omega
        obtain ⟨a, ha⟩ : ∃ a, a = tabN ms2 q := ⟨_, rfl⟩
        obtain ⟨t, ht⟩ : ∃ t, t = cycT ds ms q := ⟨_, rfl⟩
        obtain ⟨f, hff⟩ : ∃ f, f = fs.getD q [] := ⟨_, rfl⟩
        have hlb := dimZ_8 HCY.out (q : Int)
        have hrb := dimZ_8 HCX.out ((q : Int) - 1)
        obtain ⟨l, hl⟩ : ∃ l : Nat, l = (dimZ ds2 (q : Int)).toNat := ⟨_, rfl⟩
        obtain ⟨r, hr⟩ : ∃ r : Nat, r = (dimZ ds ((q : Int) - 1)).toNat := ⟨_, rfl⟩
        have hle : dimZ ds2 (q : Int) = (l : Int) := by omega
        have hre : dimZ ds ((q : Int) - 1) = (r : Int) := by omega
        have hl8 : l ≤ 8 := by omega
        have hr8 : r ≤ 8 := by omega
        have ha8 : a.length ≤ 8 := by rw [ha]; exact tabN_len HCY.out q
        have HXA : Hid (x = (a.length : Int)) := Lib.hid (by rw [HXV.out, ha, hkq, dimZ_nat]; exact ax_rows HCY.out q)
        have htab := cyc_tabP HCX.out.1 hqd
        have hta : (t.length : Int) = ds.getD q 0 := by rw [ht]; exact htab.1
        have ht8 : t.length ≤ 8 := by have := (HCX.out.1.dim q).2; omega
        have HYT : Hid (y = (t.length : Int)) := Lib.hid (by rw [HYV.out, hkq, show ((q + 1 : Nat) : Int) - 1 = (q : Int) by omega, dimZ_nat, hta])
        have HTR : Hid (∀ z ∈ t, z.length = r ∧ ∀ v ∈ z, 0 ≤ v ∧ v ≤ p - 1) := Lib.hid (fun z hz => by
          rw [ht] at hz
          have := htab.2 z hz
          rw [show (q : Int) + (-1) = (q : Int) - 1 by omega, hre] at this
          exact ⟨by have := this.1; omega, this.2⟩)
        have HAR : Hid (∀ z ∈ a, z.length = l) := Lib.hid (fun z hz => by
          rw [ha] at hz
          have := (tabN_ok HCY.out q z hz).1
          have e : dimZ ds2 (q : Int) = ds2.getD q 0 := by rw [dimZ_in rfl hqd2, ← getD_of_lt 0 hqd2]
          omega)
        have hkf : q < fs.length := by have := HFO.out.1; omega
        have hft := HFO.out.2 q hkf
        rw [Int.add_zero, hle, ← hff] at hft
        have hfl : f.length = t.length := by have := hft.1; omega
        have HFR : Hid (∀ z ∈ f, z.length = l) := Lib.hid (fun z hz => by have := (hft.2 z hz).1; omega)
        have HFL := Lib.hid hfl
        obtain ⟨TT, hTT⟩ : ∃ TT, TT = cnL p a t f r := ⟨_, rfl⟩
        have HTT := Lib.hid hTT
        have HTL : Hid (TT.length = a.length + t.length) := Lib.hid (by rw [hTT, cnL_length])
        have HAX : Hid (∀ h : q < (cnM p ds ms ds2 ms2 fs).length, (cnM p ds ms ds2 ms2 fs)[q] = TT) := Lib.hid (fun h => by
          simp only [cnM, List.getElem_map, List.getElem_range, cnTb]
          rw [← ha, ← ht, ← hff, ← hl, ← hr, hTT]
          exact cn_tab HAR.out HFR.out hfl)
        have HAE := Lib.hid ha
        have HTE := Lib.hid ht
        have HFE := Lib.hid hff
        have HLE := Lib.hid hle
        have HRE := Lib.hid hre
        clear ha ht hff hl hr hTT htab hta hft hfl hle hre hlb hrb
        have HBF := Lib.hid HS9.out.below
        have HNF : Hid (∀ W, Below wf.heap.size wf W → Bx w W w.heap.size p (.slice ad ds.length cap) (.slice am ms.length capm) ds ms ∧ Bx w W (w.heap.size + 1) p (.slice ad2 ds2.length cap2) (.slice am2 ms2.length capm2) ds2 ms2 ∧ L3 0 W (.slice af fs.length cf) fs ∧ Rz W (w.heap.size + 2) 28 #[.int .i64 0, .slice none 0 0, .slice none 0 0]) := Lib.hid (fun W hb => HNX.out W (HBF.out.trans (hb.mono HBF.out.size)))
        have HD1 : Hid (∀ W, Below wf.heap.size wf W → Calls Tryd.prog 32 #[.agg #[.int .i64 p, .slice ad2 ds2.length cap2, .slice am2 ms2.length capm2], .int .i64 (k : Int)] W (BR (.int .i64 (a.length : Int)) W)) := Lib.hid (fun W hb => by have h0 := HK1.out W (HBF.out.trans (hb.mono HBF.out.size)); rwa [HXA.out] at h0)
        have HD2 : Hid (∀ W, Below wf.heap.size wf W → Calls Tryd.prog 32 #[.agg #[.int .i64 p, .slice ad ds.length cap, .slice am ms.length capm], .int .i64 ((k : Int) - 1)] W (BR (.int .i64 (t.length : Int)) W)) := Lib.hid (fun W hb => by have h0 := HK2.out W (HBF.out.trans (hb.mono HBF.out.size)); rwa [HYT.out] at h0)
        have HD3 : Hid (∀ W, Below wf.heap.size wf W → Calls Tryd.prog 32 #[.agg #[.int .i64 p, .slice ad ds.length cap, .slice am ms.length capm], .int .i64 ((k : Int) - 2)] W (BR (.int .i64 (r : Int)) W)) := Lib.hid (fun W hb => by
          have h0 := l01Dim_any p ((k : Int) - 2) _ _ ds ms W (HNF.out W hb).1.cx (by omega)
          have e : dimZ ds ((k : Int) - 2) = (r : Int) := by rw [show (k : Int) - 2 = (q : Int) - 1 by have := HKQ.out; omega, HRE.out]
          rwa [e] at h0)
        have hwk2 : IntKind.i64.wrap ((k : Int) - 2) = (k : Int) - 2 := IntWalk.i64_in _ (by omega)
        obtain ⟨wz, hwz⟩ : ∃ wz, wz = wf.alloc (.cells #[] 22) := ⟨_, rfl⟩
        have HBZ : Hid (Below wf.heap.size wf wz) := Lib.hid (by rw [hwz]; exact below_alloc1 _ _)
        have HGR0 : Hid (Grb (some g9) wf.heap.size wz (.slice (some ⟨wf.heap.size, 0, none⟩) 0 0) (TT.take 0)) := Lib.hid (by rw [List.take_zero, hwz]; exact Grb.start (Gs.new wf (Nat.le_refl _)))
        clear HK1 HK2 hx0 hy0 hk00 hkq hlk
        go_upto_region 8 with fail
        rw [← hwz]
        clear hwz hz
        go_wp2
        go_loopw [9, 10] (fun ov i wr => ∃ (i2 : Nat) (ao : Option Addr) (co : Nat), i2 ≤ a.length ∧ ov = .slice ao i2 co ∧ i = .int .i64 i2 ∧ Hid (Below wf.heap.size wf wr) ∧ Hid (Grb (some g9) wf.heap.size wr (.slice ao i2 co) (TT.take i2))) (fun _ i _ => a.length - (intOf i).toNat)
        case atStart => exact ⟨0, _, _, Nat.zero_le _, rfl, rfl, HBZ, HGR0⟩
        case round =>
          clear HGR0 HBZ
          obtain ⟨i2, ao, co, hi2, rfl, rfl, HBE, HG⟩ := hrel
          obtain ⟨wv, hwv⟩ : ∃ wv : World, wv = wr := ⟨_, rfl⟩
          subst hwv
          have c0 := (HNF.out _ HBE.out).2.1.c0
          have c1 := (HNF.out _ HBE.out).2.1.c1
          have c2 := (HNF.out _ HBE.out).2.1.c2
          by_cases hlt2 : i2 < a.length
          · have hlk2 : (i2 : Int) < (a.length : Int) := by omega
            go_wp2_with fail
            refine (HD1.out _ HBE.out).mono ?_
            rintro ee wu ⟨rfl, hb2⟩
            have HBU := Lib.hid (HBE.out.trans (hb2.mono HBE.out.size))
            have HGU := Lib.hid (HG.out.below hb2)
            clear hb2 c0 c1 c2 HG HBE
            have hkd2 : k < ds2.length := by
              have h1 := HXA.out
              rw [HXV.out] at h1
              by_cases e : k < ds2.length
              · exact e
              · rw [dimZ_out (by omega)] at h1; omega
            have hrs : a.length = rsF ds2 k := by
              have h1 := HXA.out
              rw [HXV.out, dimZ_nat] at h1
              simp only [rsF]
              omega
            obtain ⟨z, hz⟩ : ∃ z, z = a.getD i2 [] := ⟨_, rfl⟩
            have hzl : z.length = l := by rw [hz, getD_of_lt _ hlt2]; exact HAR.out _ (List.getElem_mem hlt2)
            have HZL := Lib.hid hzl
            have HTK : Hid (TT.take (i2 + 1) = TT.take i2 ++ [z ++ List.replicate r 0]) := Lib.hid (by rw [HTT.out, cnL_take_a hlt2, hz]; rfl)
            have HLD : Hid (∀ W u, Below wf.heap.size wf W → L1 0 W u (unitL a.length i2) → Calls Tryd.prog 33 #[.agg #[.int .i64 p, .slice ad2 ds2.length cap2, .slice am2 ms2.length capm2], .int .i64 (k : Int), u] W (GbR z W)) := Lib.hid (fun W u hb hu => by
              have h0 := l04D_unit p k i2 l a.length _ _ u ds2 ms2 W (HNF.out W hb).2.1.cx HCY.out hkd2 hrs hlt2 (by rw [show (k : Int) + (-1) = (q : Int) by have := HKQ.out; omega]; exact HLE.out) hu
              have e : cycT ds2 ms2 k = a := by rw [HAE.out, HKQ.out]; exact cycT_succ HCY.out (by have := HKQ.out; omega)
              rwa [e, ← hz] at h0)
            obtain ⟨TR, hTR⟩ : ∃ TR, TR = TT.take i2 := ⟨_, rfl⟩
            have HTRL : Hid (TR.length = i2) := Lib.hid (by rw [hTR, List.length_take]; have := HTL.out; omega)
            rw [← hTR] at HGU HTK
            clear hz hzl hTR hkd2 hrs
            go_upto_region 11 with fail
            refine wp_region_held (S := fun W => Below wf.heap.size wf W) (by kernel_rfl) ?_
            have S0 : Below wf.heap.size wf wu.drew := HBU.out.drew
            have HGD := Lib.hid (HGU.out.below (Below.refl wu.heap.size wu).drew)
            change wpAnyH _ _ _ _ _ _ _ _ wu.drew
            obtain ⟨wd, hwd⟩ : ∃ wd, wd = wu.drew := ⟨_, rfl⟩
            rw [← hwd] at S0 HGD ⊢
            clear hwd
            refine held_take (i := 0) (v := .slice ao i2 co) (some 49) rfl rfl (by kernel_rfl) (by kernel_rfl) (by kernel_rfl) (fun _ _ _ h => h) (yieldsIf_move (by kernel_rfl) rfl (by kernel_rfl)) S0 ?_
            refine held_take (i := 1) (v := .agg #[.int .i64 p, .slice ad2 ds2.length cap2, .slice am2 ms2.length capm2]) (some 50) rfl rfl (by kernel_rfl) (by kernel_rfl) (by kernel_rfl) (fun _ _ _ h => h) (yieldsIf_cell (by kernel_rfl) rfl (by kernel_rfl) (fun W h => hload3x (HNF.out W h).2.1)) S0 ?_
            refine held_take (i := 2) (v := .int .i64 (k : Int)) (some 51) rfl rfl (by kernel_rfl) (by kernel_rfl) (by kernel_rfl) (fun _ _ _ h => h) (yieldsIf_move (by kernel_rfl) rfl (by kernel_rfl)) S0 ?_
            refine held_take (i := 3) (v := .agg #[.int .i64 p, .slice ad2 ds2.length cap2, .slice am2 ms2.length capm2]) (some 52) rfl rfl (by kernel_rfl) (by kernel_rfl) (by kernel_rfl) (fun _ _ _ h => h) (yieldsIf_cell (by kernel_rfl) rfl (by kernel_rfl) (fun W h => hload3x (HNF.out W h).2.1)) S0 ?_
            refine held_take (i := 4) (v := .int .i64 (k : Int)) (some 53) rfl rfl (by kernel_rfl) (by kernel_rfl) (by kernel_rfl) (fun _ _ _ h => h) (yieldsIf_move (by kernel_rfl) rfl (by kernel_rfl)) S0 ?_
            refine held_take (i := 6) (v := .int .i64 (i2 : Int)) (some 55) rfl rfl (by kernel_rfl) (by kernel_rfl) (by kernel_rfl) (fun _ _ _ h => h) (yieldsIf_move (by kernel_rfl) rfl (by kernel_rfl)) S0 ?_
            refine held_take (i := 9) (v := .agg #[.int .i64 p, .slice ad ds.length cap, .slice am ms.length capm]) (some 58) rfl rfl (by kernel_rfl) (by kernel_rfl) (by kernel_rfl) (fun _ _ _ h => h) (yieldsIf_cell (by kernel_rfl) rfl (by kernel_rfl) (fun W h => hload3x (HNF.out W h).1)) S0 ?_
            refine held_take (i := 10) (v := .int .i64 (k : Int)) (some 59) rfl rfl (by kernel_rfl) (by kernel_rfl) (by kernel_rfl) (fun _ _ _ h => h) (yieldsIf_move (by kernel_rfl) rfl (by kernel_rfl)) S0 ?_
            refine held_take (i := 11) (v := .int .i64 ((k : Int) - 2)) (some 60) rfl rfl (by kernel_rfl) (by kernel_rfl) (by kernel_rfl) (fun _ _ _ h => h) (yieldsIf_bin (by kernel_rfl) rfl (by kernel_rfl) (by kernel_rfl) (fun _ => rfl) (hsubA hwk2)) S0 ?_
            refine held_enter (i := 5) (some 54) (f := 32) (args := #[.agg #[.int .i64 p, .slice ad2 ds2.length cap2, .slice am2 ms2.length capm2], .int .i64 (k : Int)]) (by kernel_rfl) rfl rfl rfl (by kernel_rfl) (HD1.out _ S0) ?_ (fun c w' h => by cases h.1) (fun w' h => by cases h.1)
            rintro ee V1 ⟨he, hb1⟩
            injection he with he
            subst he
            have S1 : Below wf.heap.size wf V1 := S0.trans (hb1.mono S0.size)
            refine ⟨S1, ?_⟩
            refine held_enter (i := 7) (some 56) (f := 34) (args := #[.int .i64 (a.length : Int), .int .i64 (i2 : Int)]) (by kernel_rfl) rfl rfl rfl (by kernel_rfl) (l04Unit_any a.length i2 _ (by omega) hlt2) ?_ (fun c w' h => by obtain ⟨_, h, _⟩ := h; cases h) (fun w' h => by obtain ⟨_, h, _⟩ := h; cases h)
            rintro ee V2 ⟨u2, he, hg2, hb2⟩
            injection he with he
            subst he
            obtain ⟨av, cv, hv2⟩ := Sl.shape hg2.l1
            rw [unitRow_length] at hv2
            subst hv2
            have S2 : Below wf.heap.size wf V2 := S1.trans (hb2.mono S1.size)
            refine ⟨S2, ?_⟩
            refine held_enter (i := 8) (some 57) (f := 33) (args := #[.agg #[.int .i64 p, .slice ad2 ds2.length cap2, .slice am2 ms2.length capm2], .int .i64 (k : Int), .slice av a.length cv]) (by kernel_rfl) rfl rfl rfl (by kernel_rfl) (HLD.out _ _ S2 hg2.l1) ?_ (fun c w' h => by obtain ⟨_, h, _⟩ := h; cases h) (fun w' h => by obtain ⟨_, h, _⟩ := h; cases h)
            rintro ee V4 ⟨u4, he, hg4, hb4⟩
            injection he with he
            subst he
            have S4 : Below wf.heap.size wf V4 := S2.trans (hb4.mono S2.size)
            refine ⟨S4, ?_⟩
            obtain ⟨a4, c4, hv4⟩ := Sl.shape hg4.l1
            subst hv4
            refine held_enter (i := 12) (some 61) (f := 32) (args := #[.agg #[.int .i64 p, .slice ad ds.length cap, .slice am ms.length capm], .int .i64 ((k : Int) - 2)]) (by kernel_rfl) rfl rfl rfl (by kernel_rfl) (HD3.out _ S4) ?_ (fun c w' h => by cases h.1) (fun w' h => by cases h.1)
            rintro ee V5 ⟨he, hb5⟩
            injection he with he
            subst he
            have S5 : Below wf.heap.size wf V5 := S4.trans (hb5.mono S4.size)
            refine ⟨S5, ?_⟩
            have own2 := hg4.below hb5
            have hwd : wf.heap.size ≤ V2.heap.size := S2.size
            have hle : V2.heap.size ≤ V5.heap.size := Nat.le_trans hb4.size hb5.size
            obtain ⟨v3, w3, hrun, hg3, hgr3⟩ := run_append_zeros V5 22 _ z own2 .i64 r (by have := HZL.out; omega) hle
            have S3 : Below wf.heap.size wf w3 := S5.grown hgr3 S5.size (fun g0 hg0 => Nat.le_trans hwd (own2.lt g0 hg0).1)
            have hbw : Below V2.heap.size V2 w3 := (hb4.trans (hb5.mono hb4.size)).grown hgr3 hle (fun g0 hg0 => (own2.lt g0 hg0).1)
            have gg3 := ((HGD.out.below hb1).below hb2).below hbw
            refine held_call (i := 13) (by kernel_rfl) rfl rfl ?_
            refine Lib.wp_append_run _ (.tmp 57) (.tmp 61) _ _ rfl _ _ (by kernel_rfl) (by kernel_rfl) _ _ hrun ?_
            refine ⟨S3, ?_⟩
            obtain ⟨a3, n3, c3, hv3⟩ : ∃ a n c, v3 = .slice a n c := by obtain ⟨a', c', ee⟩ := Sl.shape hg3.g1.l1; exact ⟨a', _, c', ee⟩
            subst hv3
            have hba : Below w3.heap.size w3 (w3.alloc (.cells #[.slice a3 n3 c3] 22)) := below_alloc1 _ _
            have SA : Below wf.heap.size wf (w3.alloc (.cells #[.slice a3 n3 c3] 22)) := S3.trans (hba.mono S3.size)
            have ggA := gg3.below hba
            refine held_buildS (i := 14) (some 63) (by kernel_rfl) rfl rfl rfl (.tmp 62) a3 n3 c3 rfl (by kernel_rfl) ⟨SA, ?_⟩
            refine held_call (i := 15) (by kernel_rfl) rfl rfl ?_
            refine wp_appendS1o (some 64) rfl (.tmp 49) (.tmp 63) rfl (some g9) wf.heap.size (.slice ao i2 co) TR (by kernel_rfl) ggA w3.heap.size (by kernel_rfl) a3 n3 c3 (cell_alloc1 w3 _ _) (z ++ List.replicate r 0) (hg3.g1.below hba) (hg3.offB (by omega)) (by rw [HTRL.out]; omega) SA.size ?_
            rw [HTRL.out]
            intro gg gc W7 hg7 hgr7
            have S7 : Below wf.heap.size wf W7 := SA.grown hgr7 SA.size (fun g0 hg0 => (ggA.gs.lt g0 hg0).1)
            refine ⟨S7, ?_⟩
            refine held_take (i := 16) (v := .slice (some ⟨gg, 0, none⟩) (i2 + 1) gc) (some 9) rfl rfl (by kernel_rfl) (by kernel_rfl) (by kernel_rfl) (fun _ _ _ h => h) (yieldsIf_assign (by kernel_rfl) rfl (by kernel_rfl)) S7 ?_
            refine wpAnyH_done (by kernel_rfl) ?_ _
            simp only [Act.put, List.setIfInBounds_toArray, List.set_cons_zero, List.set_cons_succ]
            have HB7 := Lib.hid S7
            have HG7 : Hid (Grb (some g9) wf.heap.size W7 (.slice (some ⟨gg, 0, none⟩) (i2 + 1) gc) (TT.take (i2 + 1))) := Lib.hid (by rw [HTK.out]; exact hg7)
            clear S0 S1 S2 S3 S4 S5 SA S7 gg3 ggA hbw hba hrun hg3 hgr3 hg7 hgr7 own2 hg2 hg4 hb1 hb2 hb4 hb5 HGD HGU HBU HLD
            go_wp2
            go_roundw
            case rel => exact ⟨i2 + 1, _, _, by omega, rfl, by go_num, HB7, HG7⟩
            case measure => simp [intOf]; omega
          · have hlk2 : ¬ (i2 : Int) < (a.length : Int) := by omega
            go_wp2_with fail
            refine (HD1.out _ HBE.out).mono ?_
            rintro ee wu ⟨rfl, hb2⟩
            have HBU := Lib.hid (HBE.out.trans (hb2.mono HBE.out.size))
            have HGU := Lib.hid (HG.out.below hb2)
            clear hb2 c0 c1 c2 HG HBE
            go_wp2
            go_loopw [9, 11, 12] (fun ov i _ wr => ∃ (i3 m : Nat) (ao : Option Addr) (co : Nat), i3 ≤ t.length ∧ Hid (m = a.length + i3) ∧ ov = .slice ao m co ∧ i = .int .i64 i3 ∧ Hid (Below wf.heap.size wf wr) ∧ Hid (Grb (some g9) wf.heap.size wr (.slice ao m co) (TT.take m))) (fun _ i _ _ => t.length - (intOf i).toNat)
            case atStart => exact ⟨0, i2, _, _, Nat.zero_le _, Lib.hid (by omega), rfl, rfl, HBU, HGU⟩
            case round =>
              clear HGU HBU
              obtain ⟨i3, m, ao, co, hi3, HME, rfl, rfl, HBE, HG⟩ := hrel
              obtain ⟨wt, hwt⟩ : ∃ wt : World, wt = wr := ⟨_, rfl⟩
              subst hwt
              have c0 := (HNF.out _ HBE.out).1.c0
              have c1 := (HNF.out _ HBE.out).1.c1
              have c2 := (HNF.out _ HBE.out).1.c2
              have hm16 : m ≤ 16 := by have := HME.out; omega
              by_cases hlt3 : i3 < t.length
              · have hlk3 : (i3 : Int) < (t.length : Int) := by omega
                go_wp2_with fail
                refine (HD2.out _ HBE.out).mono ?_
                rintro ee wu ⟨rfl, hb2⟩
                have HBU := Lib.hid (HBE.out.trans (hb2.mono HBE.out.size))
                have HGU := Lib.hid (HG.out.below hb2)
                clear hb2 c0 c1 c2 HG HBE
                obtain ⟨z, hz⟩ : ∃ z, z = t.getD i3 [] := ⟨_, rfl⟩
                have HZR : Hid (z.length = r ∧ ∀ v ∈ z, 0 ≤ v ∧ v ≤ p - 1) := Lib.hid (by rw [hz, getD_of_lt _ hlt3]; exact HTR.out _ (List.getElem_mem hlt3))
                have hrs : t.length = rsF ds q := by
                  have h1 := HYT.out
                  rw [HYV.out, show (k : Int) - 1 = (q : Int) by have := HKQ.out; omega, dimZ_nat] at h1
                  simp only [rsF]
                  omega
                have HLD : Hid (∀ W u, Below wf.heap.size wf W → L1 0 W u (unitL t.length i3) → Calls Tryd.prog 33 #[.agg #[.int .i64 p, .slice ad ds.length cap, .slice am ms.length capm], .int .i64 ((k : Int) - 1), u] W (GbR z W)) := Lib.hid (fun W u hb hu => by
                  have h0 := l04D_unit p q i3 r t.length _ _ u ds ms W (HNF.out W hb).1.cx HCX.out hqd hrs hlt3 (by rw [show (q : Int) + (-1) = (q : Int) - 1 by omega]; exact HRE.out) hu
                  rw [← HTE.out, ← hz, show (q : Int) = (k : Int) - 1 by have := HKQ.out; omega] at h0
                  exact h0)
                obtain ⟨y3, hy3⟩ : ∃ y3, y3 = f.getD i3 [] := ⟨_, rfl⟩
                have hif : i3 < f.length := by have := HFL.out; omega
                have HY3 : Hid (y3.length = l) := Lib.hid (by rw [hy3, getD_of_lt _ hif]; exact HFR.out _ (List.getElem_mem hif))
                have HTK : Hid (TT.take (m + 1) = TT.take m ++ [y3 ++ (List.range r).map fun q => -(z.getD q 0) % p]) := Lib.hid (by rw [HTT.out, HME.out, cnL_take_b hlt3, hz, hy3]; rfl)
                obtain ⟨TR, hTR⟩ : ∃ TR, TR = TT.take m := ⟨_, rfl⟩
                have HTRL : Hid (TR.length = m) := Lib.hid (by rw [hTR, List.length_take]; have := HTL.out; have := HME.out; omega)
                rw [← hTR] at HGU HTK
                clear hz hTR hrs
                refine Sl.cases (HNF.out _ (Below.refl _ _)).2.2.1 (fun _ _ hx _ => absurd hkf (by simp [hx])) (fun bf of cf2 hvf _ _ hcf => ?_)
                injection hvf with e1 e2 e3
                clear e2
                subst e1 e3
                obtain ⟨uf, huf, hrf⟩ := hcf q hkf
                rw [← getD_of_lt [] hkf, ← HFE.out] at hrf
                obtain ⟨a5, c5, hv5⟩ := Sl.shape hrf
                subst hv5
                refine Sl.cases hrf (fun _ _ hx _ => absurd hif (by simp [hx])) (fun b6 o6 c6 hv6 _ _ hc6 => ?_)
                injection hv6 with e1 e2 e3
                clear e2
                subst e1 e3
                obtain ⟨u6, hu6, hr6⟩ := hc6 i3 hif
                rw [← getD_of_lt [] hif, ← hy3] at hr6
                obtain ⟨a7, c7, hv7⟩ := Sl.shape hr6
                subst hv7
                have HLY := Lib.hid hr6
                have HUF := Lib.hid huf
                have HU6 := Lib.hid hu6
                clear hcf hc6 hr6 hrf huf hu6 hy3
                go_upto_region 15 with fail
                refine wp_region_held (S := fun W => Below wf.heap.size wf W) (by kernel_rfl) ?_
                have S0 : Below wf.heap.size wf wu.drew := HBU.out.drew
                have HGD := Lib.hid (HGU.out.below (Below.refl wu.heap.size wu).drew)
                change wpAnyH _ _ _ _ _ _ _ _ wu.drew
                obtain ⟨wd, hwd⟩ : ∃ wd, wd = wu.drew := ⟨_, rfl⟩
                rw [← hwd] at S0 HGD ⊢
                clear hwd
                refine held_take (i := 0) (v := .agg #[.int .i64 p, .slice ad ds.length cap, .slice am ms.length capm]) (some 73) rfl rfl (by kernel_rfl) (by kernel_rfl) (by kernel_rfl) (fun _ _ _ h => h) (yieldsIf_cell (by kernel_rfl) rfl (by kernel_rfl) (fun W h => hload3x (HNF.out W h).1)) S0 ?_
                refine held_take (i := 1) (v := .int .i64 (k : Int)) (some 74) rfl rfl (by kernel_rfl) (by kernel_rfl) (by kernel_rfl) (fun _ _ _ h => h) (yieldsIf_move (by kernel_rfl) rfl (by kernel_rfl)) S0 ?_
                refine held_take (i := 2) (v := .int .i64 ((k : Int) - 1)) (some 75) rfl rfl (by kernel_rfl) (by kernel_rfl) (by kernel_rfl) (fun _ _ _ h => h) (yieldsIf_bin (by kernel_rfl) rfl (by kernel_rfl) (by kernel_rfl) (fun _ => rfl) (hsubA hwk)) S0 ?_
                refine held_take (i := 3) (v := .agg #[.int .i64 p, .slice ad ds.length cap, .slice am ms.length capm]) (some 76) rfl rfl (by kernel_rfl) (by kernel_rfl) (by kernel_rfl) (fun _ _ _ h => h) (yieldsIf_cell (by kernel_rfl) rfl (by kernel_rfl) (fun W h => hload3x (HNF.out W h).1)) S0 ?_
                refine held_take (i := 4) (v := .int .i64 (k : Int)) (some 77) rfl rfl (by kernel_rfl) (by kernel_rfl) (by kernel_rfl) (fun _ _ _ h => h) (yieldsIf_move (by kernel_rfl) rfl (by kernel_rfl)) S0 ?_
                refine held_take (i := 5) (v := .int .i64 ((k : Int) - 1)) (some 78) rfl rfl (by kernel_rfl) (by kernel_rfl) (by kernel_rfl) (fun _ _ _ h => h) (yieldsIf_bin (by kernel_rfl) rfl (by kernel_rfl) (by kernel_rfl) (fun _ => rfl) (hsubA hwk)) S0 ?_
                refine held_take (i := 7) (v := .int .i64 (i3 : Int)) (some 80) rfl rfl (by kernel_rfl) (by kernel_rfl) (by kernel_rfl) (fun _ _ _ h => h) (yieldsIf_move (by kernel_rfl) rfl (by kernel_rfl)) S0 ?_
                refine held_enter (i := 6) (some 79) (f := 32) (args := #[.agg #[.int .i64 p, .slice ad ds.length cap, .slice am ms.length capm], .int .i64 ((k : Int) - 1)]) (by kernel_rfl) rfl rfl rfl (by kernel_rfl) (HD2.out _ S0) ?_ (fun c w' h => by cases h.1) (fun w' h => by cases h.1)
                rintro ee V1 ⟨he, hb1⟩
                injection he with he
                subst he
                have S1 : Below wf.heap.size wf V1 := S0.trans (hb1.mono S0.size)
                refine ⟨S1, ?_⟩
                refine held_enter (i := 8) (some 81) (f := 34) (args := #[.int .i64 (t.length : Int), .int .i64 (i3 : Int)]) (by kernel_rfl) rfl rfl rfl (by kernel_rfl) (l04Unit_any t.length i3 _ (by omega) hlt3) ?_ (fun c w' h => by obtain ⟨_, h, _⟩ := h; cases h) (fun w' h => by obtain ⟨_, h, _⟩ := h; cases h)
                rintro ee V2 ⟨u2, he, hg2, hb2⟩
                injection he with he
                subst he
                obtain ⟨av, cv, hv2⟩ := Sl.shape hg2.l1
                rw [unitRow_length] at hv2
                subst hv2
                have S2 : Below wf.heap.size wf V2 := S1.trans (hb2.mono S1.size)
                refine ⟨S2, ?_⟩
                refine held_enter (i := 9) (some 82) (f := 33) (args := #[.agg #[.int .i64 p, .slice ad ds.length cap, .slice am ms.length capm], .int .i64 ((k : Int) - 1), .slice av t.length cv]) (by kernel_rfl) rfl rfl rfl (by kernel_rfl) (HLD.out _ _ S2 hg2.l1) ?_ (fun c w' h => by obtain ⟨_, h, _⟩ := h; cases h) (fun w' h => by obtain ⟨_, h, _⟩ := h; cases h)
                rintro ee V4 ⟨u4, he, hg4, hb4⟩
                injection he with he
                subst he
                have S4 : Below wf.heap.size wf V4 := S2.trans (hb4.mono S2.size)
                refine ⟨S4, ?_⟩
                obtain ⟨ab, cb, hv4⟩ := Sl.shape hg4.l1
                obtain ⟨zl, hzl⟩ : ∃ zl, zl = z.length := ⟨_, rfl⟩
                rw [← hzl] at hv4
                subst hv4
                have HZL := Lib.hid hzl
                refine held_take (i := 10) (v := .slice ab zl cb) (some 12) rfl rfl (by kernel_rfl) (by kernel_rfl) (by kernel_rfl) (fun _ _ _ h => h) (yieldsIf_assign (by kernel_rfl) rfl (by kernel_rfl)) S4 ?_
                refine wpAnyH_done (by kernel_rfl) ?_ _
                simp only [Act.put, List.setIfInBounds_toArray, List.set_cons_zero, List.set_cons_succ]
                obtain ⟨wb, hwb⟩ : ∃ wb : World, wb = V2 := ⟨_, rfl⟩
                have HGB0 : Hid (Gb wb.heap.size V4 (.slice ab zl cb) (negK p z 0)) := Lib.hid (by rw [negK_zero, hwb]; exact hg4)
                have HBB0 : Hid (Below wb.heap.size wb V4) := Lib.hid (by rw [hwb]; exact hb4)
                have HBWB : Hid (Below wf.heap.size wf wb) := Lib.hid (by rw [hwb]; exact S2)
                have HGGB : Hid (Grb (some g9) wf.heap.size wb (.slice ao m co) TR) := Lib.hid (by rw [hwb]; exact (HGD.out.below hb1).below hb2)
                have hzl8 : zl ≤ 8 := by rw [hzl]; have := HZR.out.1; omega
                clear S0 S1 S2 S4 hb1 hb2 hb4 hg2 hg4 HGD HGU HBU HLD hwb hzl
                go_wp2
                go_loopw [13] (fun j wr => ∃ (j3 : Nat), j3 ≤ zl ∧ j = .int .i64 j3 ∧ Hid (Below wb.heap.size wb wr) ∧ Hid (Gb wb.heap.size wr (.slice ab zl cb) (negK p z j3))) (fun j _ => zl - (intOf j).toNat)
                case atStart => exact ⟨0, Nat.zero_le _, rfl, HBB0, HGB0⟩
                case round =>
                  clear HBB0 HGB0
                  obtain ⟨j3, hj3, rfl, HB9, HG9⟩ := hrel
                  obtain ⟨ws, hws⟩ : ∃ ws : World, ws = wr := ⟨_, rfl⟩
                  subst hws
                  by_cases hlj : j3 < zl
                  · have hjz : j3 < z.length := by rw [← HZL.out]; exact hlj
                    have hjm : j3 < (negK p z j3).length := by rw [negK_len]; exact hjz
                    obtain ⟨gb, hgb, hgbl⟩ := HG9.out.block (by rw [negK_len]; omega)
                    subst hgb
                    obtain ⟨v, hv⟩ : ∃ v, v = z.getD j3 0 := ⟨_, rfl⟩
                    have hvb : 0 ≤ v ∧ v ≤ p - 1 := by rw [hv, getD_of_lt _ hjz]; exact HZR.out.2 _ (List.getElem_mem hjz)
                    have hcA : ws.drew.cell? ⟨gb, 0 + j3, none⟩ = some (.int .i64 v) := by rw [Nat.zero_add, hv, ← negK_at hjm]; exact gb_atC (HG9.out.below (Below.refl ws.heap.size ws).drew) hjm
                    have hput := (HG9.out.below (Below.refl ws.heap.size ws).drew).put (k := j3) hjm (-v % p)
                    rw [hv, negK_set, ← hv] at hput
                    have HPUT := Lib.hid hput
                    have c0 := (HNF.out ws.drew (HBWB.out.trans (HB9.out.drew.mono HBWB.out.size))).1.c0
                    have HMOD : Hid (∀ W, Calls Tryd.prog 35 #[.int .i64 p, .int .i64 (-v)] W (QW (.int .i64 (-v % p)) W)) := Lib.hid (fun W => l01Mod_any p (-v) W HCX.out.1.prime)
                    have hneg : IntKind.i64.wrap (-v) = -v := IntWalk.i64_in _ (by omega)
                    clear hput hv
                    go_upto_region 19 with fail
                    refine wp_region_last (fun W => Below wb.heap.size wb W ∧ W.cell? ⟨gb, 0 + j3, none⟩ = some (.int .i64 v) ∧ W.cell? ⟨w.heap.size, 0, none⟩ = some (.int .i64 p)) 11 (by kernel_rfl) rfl (by kernel_rfl) ?_
                    have S0 : Below wb.heap.size wb ws.drew ∧ ws.drew.cell? ⟨gb, 0 + j3, none⟩ = some (.int .i64 v) ∧ ws.drew.cell? ⟨w.heap.size, 0, none⟩ = some (.int .i64 p) := ⟨HB9.out.drew, hcA, c0⟩
                    refine held_take (i := 0) (v := .slice (some ⟨gb, 0, none⟩) zl cb) (some 89) rfl rfl (by kernel_rfl) (by kernel_rfl) (by kernel_rfl) (fun _ _ _ h => h) (yieldsIf_move (by kernel_rfl) rfl (by kernel_rfl)) S0 ?_
                    refine held_take (i := 1) (v := .int .i64 (j3 : Int)) (some 90) rfl rfl (by kernel_rfl) (by kernel_rfl) (by kernel_rfl) (fun _ _ _ h => h) (yieldsIf_move (by kernel_rfl) rfl (by kernel_rfl)) S0 ?_
                    refine held_take (i := 2) (v := .pointer (some ⟨w.heap.size, 0, none⟩)) (some 91) rfl rfl (by kernel_rfl) (by kernel_rfl) (by kernel_rfl) (fun _ _ _ h => h) (yieldsIf_run (by kernel_rfl) (fun W _ => by kernel_rfl)) S0 ?_
                    refine held_take (i := 3) (v := .int .i64 p) (some 92) rfl rfl (by kernel_rfl) (by kernel_rfl) (by kernel_rfl) (fun _ _ _ h => h) (yieldsIf_cell (by kernel_rfl) rfl (by kernel_rfl) (fun W h => hload W h.2.2)) S0 ?_
                    refine held_take (i := 4) (v := .slice (some ⟨gb, 0, none⟩) zl cb) (some 93) rfl rfl (by kernel_rfl) (by kernel_rfl) (by kernel_rfl) (fun _ _ _ h => h) (yieldsIf_move (by kernel_rfl) rfl (by kernel_rfl)) S0 ?_
                    refine held_take (i := 5) (v := .int .i64 (j3 : Int)) (some 94) rfl rfl (by kernel_rfl) (by kernel_rfl) (by kernel_rfl) (fun _ _ _ h => h) (yieldsIf_move (by kernel_rfl) rfl (by kernel_rfl)) S0 ?_
                    refine held_take (i := 6) (v := .pointer (some ⟨gb, 0 + j3, none⟩)) (some 95) rfl rfl (by kernel_rfl) (by kernel_rfl) (by kernel_rfl) (fun _ _ _ h => h) (yieldsIf_index (by kernel_rfl) rfl (by kernel_rfl) (by kernel_rfl) (hidxI gb 0 cb hlj)) S0 ?_
                    refine held_take (i := 7) (v := .int .i64 v) (some 96) rfl rfl (by kernel_rfl) (by kernel_rfl) (by kernel_rfl) (fun _ _ _ h => h) (yieldsIf_cell (by kernel_rfl) rfl (by kernel_rfl) (fun W h => hload W h.2.1)) S0 ?_
                    refine held_take (i := 8) (v := .int .i64 (-v)) (some 97) rfl rfl (by kernel_rfl) (by kernel_rfl) (by kernel_rfl) (fun _ _ _ h => h) (yieldsIf_run (by kernel_rfl) (fun W _ => by go_simp)) S0 ?_
                    refine held_enter (i := 9) (some 98) (f := 35) (args := #[.int .i64 p, .int .i64 (-v)]) (by kernel_rfl) rfl rfl rfl (by kernel_rfl) (HMOD.out _) ?_ (fun c w' h => by cases h.1) (fun w' h => by cases h.1)
                    rintro e4 W4 ⟨he4, rfl⟩
                    injection he4 with he4
                    subst he4
                    refine ⟨S0, ?_⟩
                    refine held_take (i := 10) (v := .pointer (some ⟨gb, 0 + j3, none⟩)) (some 99) rfl rfl (by kernel_rfl) (by kernel_rfl) (by kernel_rfl) (fun _ _ _ h => h) (yieldsIf_index (by kernel_rfl) rfl (by kernel_rfl) (by kernel_rfl) (hidxI gb 0 cb hlj)) S0 ?_
                    refine held_none (i := 11) (v := .bool false) rfl rfl (by kernel_rfl) (by kernel_rfl) (by kernel_rfl) (fun _ _ _ h => h) (yieldsIf_move (by kernel_rfl) rfl (by kernel_rfl)) S0 ?_
                    have HBS : Hid (Below wb.heap.size wb (ws.drew.setCell ⟨gb, 0 + j3, none⟩ (.int .i64 (-v % p)))) := Lib.hid (S0.1.setCell hgbl _)
                    have HGS : Hid (Gb wb.heap.size (ws.drew.setCell ⟨gb, 0 + j3, none⟩ (.int .i64 (-v % p))) (.slice (some ⟨gb, 0, none⟩) zl cb) (negK p z (j3 + 1))) := Lib.hid (by rw [Nat.zero_add]; exact HPUT.out.1)
                    refine wpAnyH_done (by kernel_rfl) (lastQ_storeI rfl (by kernel_rfl) (by kernel_rfl) (.tmp 99) (.tmp 98) (by kernel_rfl) gb (0 + j3) (-v % p) _ (by kernel_rfl) (by kernel_rfl) S0.2.1 (by rw [Nat.zero_add]; exact HPUT.out.2.1) ?_) _
                    simp only [Act.put, List.setIfInBounds_toArray, List.set_cons_zero, List.set_cons_succ]
                    obtain ⟨W6, hW6⟩ : ∃ W6, W6 = ws.drew.setCell ⟨gb, 0 + j3, none⟩ (.int .i64 (-v % p)) := ⟨_, rfl⟩
                    rw [← hW6] at HBS HGS ⊢
                    clear hW6 S0 hcA c0 HPUT HG9 HB9 hneg HMOD
                    go_wp2
                    go_roundw
                    case rel => exact ⟨j3 + 1, by omega, by go_num, HBS, HGS⟩
                    case measure => simp [intOf]; omega
                  · have hjz : j3 = zl := by omega
                    have hnk : negK p z zl = (List.range r).map fun q => -(z.getD q 0) % p := by rw [HZL.out, negK_done, HZR.out.1]
                    have HGV : Hid (Gb wb.heap.size ws (.slice ab zl cb) ((List.range r).map fun q => -(z.getD q 0) % p)) := Lib.hid (by have h0 := HG9.out; rw [hjz, hnk] at h0; exact h0)
                    clear hnk
                    clear HG9 hjz
                    have HBS := Lib.hid (HBWB.out.trans (HB9.out.mono HBWB.out.size))
                    have HGG := Lib.hid (HGGB.out.below HB9.out)
                    have f1 : ws.cell? ⟨bf, of + q, none⟩ = some (.slice (some ⟨b6, o6, none⟩) f.length c5) := later HBS.out (Nat.le_refl _) HUF.out
                    have f2 : ws.cell? ⟨b6, o6 + i3, none⟩ = some (.slice a7 y3.length c7) := later HBS.out (Nat.le_refl _) HU6.out
                    have hwq : IntKind.i64.wrap ((k : Int) - 1) = (q : Int) := by rw [hwk]; have := HKQ.out; omega
                    have hq0 : (0 : Int) ≤ (q : Int) := by omega
                    have hq1 : (q : Int) < (fs.length : Int) := by omega
                    have hi0 : (0 : Int) ≤ (i3 : Int) := by omega
                    have hi1 : (i3 : Int) < (f.length : Int) := by omega
                    have HOW := Lib.hid (l01Own_any (.slice a7 y3.length c7) y3 ws (HLY.out.below HBS.out) (by have := HY3.out; omega))
                    clear hwk
                    go_wp2_with fail
                    refine HOW.out.mono ?_
                    rintro e w8 ⟨u8, rfl, hg8, hb8⟩
                    obtain ⟨a8, c8, hv8⟩ := Sl.shape hg8.l1
                    subst hv8
                    have HB8 := Lib.hid (HBS.out.trans (hb8.mono HBS.out.size))
                    have HGV8 := Lib.hid (HGV.out.below hb8)
                    have HGG8 := Lib.hid (HGG.out.below hb8)
                    have hs8 : wf.heap.size ≤ ws.heap.size := HBS.out.size
                    have hsz8 : ws.heap.size ≤ w8.heap.size := hb8.size
                    obtain ⟨vs, hvs⟩ : ∃ vs, vs = (List.range r).map fun q => -(z.getD q 0) % p := ⟨_, rfl⟩
                    have hvl : vs.length = r := by rw [hvs]; simp
                    rw [← hvs] at HGV8 HTK
                    obtain ⟨v3, w3, hrun, hg3, hgr3⟩ := run_append_row w8 22 _ y3 hg8 (.slice ab zl cb) vs HGV8.out.l1 (by have := HY3.out; omega) hsz8
                    have S3 : Below wf.heap.size wf w3 := HB8.out.grown hgr3 HB8.out.size (fun g0 hg0 => Nat.le_trans hs8 (hg8.lt g0 hg0).1)
                    have hbw : Below ws.heap.size ws w3 := hb8.grown hgr3 hsz8 (fun g0 hg0 => (hg8.lt g0 hg0).1)
                    have gg3 := HGG.out.below hbw
                    have HRUN := Lib.hid hrun
                    obtain ⟨a3, n3, c3, hv3⟩ : ∃ a n c, v3 = .slice a n c := by obtain ⟨a', c', ee⟩ := Sl.shape hg3.g1.l1; exact ⟨a', _, c', ee⟩
                    subst hv3
                    have HG3 := Lib.hid hg3
                    have HS3 := Lib.hid S3
                    have HGG3 := Lib.hid gg3
                    clear hg8 hb8 hrun hg3 hgr3 hbw gg3 S3 HGG8 HGV8 f1 f2 hvs HOW
                    have hba : Below w3.heap.size w3 (w3.alloc (.cells #[.slice a3 n3 c3] 22)) := below_alloc1 _ _
                    have HSA : Hid (Below wf.heap.size wf (w3.alloc (.cells #[.slice a3 n3 c3] 22))) := Lib.hid (HS3.out.trans (hba.mono HS3.out.size))
                    have HGA := Lib.hid (HGG3.out.below hba)
                    have HG3A := Lib.hid (And.intro (HG3.out.g1.below hba) (HG3.out.offB (g := g9) (by omega)))
                    have HCE := Lib.hid (cell_alloc1 w3 (.slice a3 n3 c3) 22)
                    clear hba
                    have hc1 : TR.length ≤ 2097151 := by rw [HTRL.out]; omega
                    have HC1 := Lib.hid hc1
                    have HC2 := Lib.hid HSA.out.size
                    clear hc1
                    go_wp2_with (at_builtin; first | (refine Lib.wpList_append_run _ rfl (.tmp 109) (.tmp 110) _ _ rfl _ _ rfl rfl _ _ HRUN.out ?_) | (refine wpList_appendS1o rfl (some 113) rfl (.tmp 100) (.tmp 112) rfl (some g9) wf.heap.size (.slice ao m co) TR rfl HGA.out w3.heap.size rfl a3 n3 c3 HCE.out (y3 ++ vs) HG3A.out.1 HG3A.out.2 HC1.out HC2.out ?_; rw [HTRL.out]; intro gg gc W7 hg7 hgr7; have HB7 : Hid (Below wf.heap.size wf W7) := Lib.hid (HSA.out.grown hgr7 HSA.out.size (fun g0 hg0 => (HGA.out.gs.lt g0 hg0).1)); have HG7 : Hid (Grb (some g9) wf.heap.size W7 (.slice (some ⟨gg, 0, none⟩) (m + 1) gc) (TT.take (m + 1))) := Lib.hid (by rw [HTK.out]; exact hg7); clear hg7 hgr7))
                    clear HSA HGA HG3A HCE HGG3 HS3 HG3 HRUN HC1 HC2
                    go_roundw
                    case rel => exact ⟨i3 + 1, m + 1, _, _, by omega, Lib.hid (by have := HME.out; omega), rfl, by go_num, HB7, HG7⟩
                    case measure => simp [intOf]; omega
              · have hlk3 : ¬ (i3 : Int) < (t.length : Int) := by omega
                go_wp2_with fail
                refine (HD2.out _ HBE.out).mono ?_
                rintro ee wu ⟨rfl, hb2⟩
                have HBU := Lib.hid (HBE.out.trans (hb2.mono HBE.out.size))
                have HGU := Lib.hid (HG.out.below hb2)
                clear hb2 c0 c1 c2 HG HBE
                have HGF : Hid (Grb (some g9) wf.heap.size wu (.slice ao m co) TT) := Lib.hid (by have h0 := HGU.out; rwa [List.take_of_length_le (by have := HTL.out; have := HME.out; omega)] at h0)
                have HSU := Lib.hid (HS9.out.next HBU.out)
                have g2 : wu.cell? ⟨g, 2, none⟩ = some (.slice a2 q cc2) := HSU.out.box.cell (i := 2) (by omega)
                obtain ⟨TQ, hTQ⟩ : ∃ TQ, TQ = (cnM p ds ms ds2 ms2 fs).take q := ⟨_, rfl⟩
                have HQL : Hid (TQ.length = q) := Lib.hid (by rw [hTQ, List.length_take, cnM_length]; omega)
                have HXM : Hid ((cnM p ds ms ds2 ms2 fs).take (q + 1) = TQ ++ [TT]) := Lib.hid (by rw [hTQ, List.take_succ_eq_append_getElem (by rw [cnM_length]; omega), HAX.out])
                rw [← hTQ] at HSU
                have hba : Below wu.heap.size wu (wu.alloc (.cells #[.slice ao m co] 39)) := below_alloc1 _ _
                have HSA := Lib.hid (HSU.out.next hba)
                have HMT := Lib.hid HSA.out.maps
                have hcell := cell_alloc1 wu (.slice ao m co) 39
                have HGR := Lib.hid (HGF.out.gr.below hba)
                have hc5 : TQ.length ≤ 2097151 := by rw [HQL.out]; omega
                have HC5 := Lib.hid hc5
                have hc6 : w1.heap.size ≤ (wu.alloc (.cells #[.slice ao m co] 39)).heap.size := HSA.out.below.size
                have HC6 := Lib.hid hc6
                clear hc5 hc6 hba hTQ HGU HSU
                go_wp2_with (at_builtin; refine wpList_appendT1o rfl (some 118) rfl (.tmp 115) (.tmp 117) rfl w1.heap.size (.slice a2 q cc2) TQ rfl (some g9) HMT.out wu.heap.size rfl ao m co hcell TT HGR.out HC5.out HC6.out ?_)
                rw [HQL.out]
                intro g8 c8 w8 hn8 hgw8
                have HSN : Hid (Sdo w1 (w8.setCell ⟨g, 2, none⟩ (.slice (some ⟨g8, 0, none⟩) (q + 1) c8)) g p (.slice (some ⟨g9, 0, none⟩) (k + 1) c9) (.slice (some ⟨g8, 0, none⟩) (q + 1) c8) ((cnD ds ds2).take (k + 1)) ((cnM p ds ms ds2 ms2 fs).take (q + 1))) := Lib.hid (by rw [HXM.out]; exact HSA.out.stepM hgw8 hn8)
                obtain ⟨vs8, ho8, _⟩ := HSA.out.maps
                have hrb := row_grown HSA.out.box ho8 coT.2.2 hgw8
                have z1 : w8.cell? ⟨g, 2, none⟩ = some (.slice a2 q cc2) := hrb.cell (i := 2) (by omega)
                have z2 : w8.frozen? ⟨g, 2, none⟩ = false := hrb.frozen 2
                have HQ3 : Hid (q + 1 = k + 1 - 1) := Lib.hid (by have := HKQ.out; omega)
                clear hn8 hgw8 hrb hcell g2 HSA HMT ho8
                go_wp2
                go_roundw
                case rel => exact ⟨k + 1, q + 1, _, _, _, _, by omega, by go_num, HQ3, HSN⟩
                case measure => simp [intOf]; omega
    · have hlk : ¬ (k : Int) ≤ (ds.length : Int) := by have := HN.out; omega
      have hkn : k = n := by omega
      have hqt : q = ds.length := by have := HQ.out; have := HN.out; omega
      have HSF : Hid (Sdo w1 wx g p (.slice a1 k cc1) (.slice a2 q cc2) (cnD ds ds2) (cnM p ds ms ds2 ms2 fs)) := Lib.hid (by have h0 := HS.out; rwa [List.take_of_length_le (by rw [cnD_length]; have := HN.out; omega), List.take_of_length_le (by rw [cnM_length]; omega)] at h0)
      clear HS
      have HNF := Lib.hid (HNX.out _ HBX.out)
      have HKD : Hid (k = (cnD ds ds2).length ∧ q = (cnM p ds ms ds2 ms2 fs).length) := Lib.hid ⟨by rw [cnD_length]; have := HN.out; omega, by rw [cnM_length]; omega⟩
      have x0' : wx.cell? ⟨g, 0, none⟩ = some (.int .i64 p) := HSF.out.box.cell (i := 0) (by omega)
      have x1' : wx.cell? ⟨g, 1, none⟩ = some (.slice a1 k cc1) := HSF.out.box.cell (i := 1) (by omega)
      have x2' : wx.cell? ⟨g, 2, none⟩ = some (.slice a2 q cc2) := HSF.out.box.cell (i := 2) (by omega)
      clear hkn hqt
      have HR1 : ∃ x0 x1 x2, wx.heap[w.heap.size + 2]? = some (.cells #[x0, x1, x2] 28) := ⟨_, _, _, HNF.out.2.2.2⟩
      obtain ⟨x0, x1, x2, hr⟩ := HR1
      have r0 : wx.rowIs (w.heap.size + 2) 28 3 (sel3 x0 x1 x2) := rowIs3 hr
      have q0 : wx.cell? ⟨w.heap.size + 2, 0, none⟩ = some x0 := r0.cell (i := 0) (by omega)
      have z0 : wx.frozen? ⟨w.heap.size + 2, 0, none⟩ = false := r0.frozen 0
      have r1 := r0.set 0 (.int .i64 p)
      have q1 : (wx.setCell ⟨w.heap.size + 2, 0, none⟩ (.int .i64 p)).cell? ⟨w.heap.size + 2, 1, none⟩ = some x1 := r1.cell (i := 1) (by omega)
      have z1 : (wx.setCell ⟨w.heap.size + 2, 0, none⟩ (.int .i64 p)).frozen? ⟨w.heap.size + 2, 1, none⟩ = false := r1.frozen 1
      have r2 := r1.set 1 (.slice a1 k cc1)
      have q2 : ((wx.setCell ⟨w.heap.size + 2, 0, none⟩ (.int .i64 p)).setCell ⟨w.heap.size + 2, 1, none⟩ (.slice a1 k cc1)).cell? ⟨w.heap.size + 2, 2, none⟩ = some x2 := r2.cell (i := 2) (by omega)
      have z2 : ((wx.setCell ⟨w.heap.size + 2, 0, none⟩ (.int .i64 p)).setCell ⟨w.heap.size + 2, 1, none⟩ (.slice a1 k cc1)).frozen? ⟨w.heap.size + 2, 2, none⟩ = false := r2.frozen 2
      have r3 := r2.set 2 (.slice a2 q cc2)
      obtain ⟨WF, hWF⟩ : ∃ W : World, W = (((wx.setCell ⟨w.heap.size + 2, 0, none⟩ (.int .i64 p)).setCell ⟨w.heap.size + 2, 1, none⟩ (.slice a1 k cc1)).setCell ⟨w.heap.size + 2, 2, none⟩ (.slice a2 q cc2)) := ⟨_, rfl⟩
      have hbWF : ∀ B (w0 : World), B ≤ w.heap.size + 2 → Below B w0 wx → Below B w0 WF := fun B w0 hl hb => by rw [hWF]; exact (((hb.setCell (by show B ≤ w.heap.size + 2; exact hl) _).setCell (by show B ≤ w.heap.size + 2; exact hl) _).setCell (by show B ≤ w.heap.size + 2; exact hl) _)
      have hsWF : ∀ lo hi, w.heap.size + 2 < lo ∨ hi ≤ w.heap.size + 2 → Same lo hi wx WF := fun lo hi hl => by rw [hWF]; exact (((Same.set _ hl).trans (Same.set _ hl)).trans (Same.set _ hl))
      have hzWF : WF.heap.size = wx.heap.size := by rw [hWF]; simp
      rw [← hWF] at r3
      have f0 : WF.cell? ⟨w.heap.size + 2, 0, none⟩ = some (.int .i64 p) := r3.cell (i := 0) (by omega)
      have f1 : WF.cell? ⟨w.heap.size + 2, 1, none⟩ = some (.slice a1 k cc1) := r3.cell (i := 1) (by omega)
      have f2 : WF.cell? ⟨w.heap.size + 2, 2, none⟩ = some (.slice a2 q cc2) := r3.cell (i := 2) (by omega)
      have HWWF := Lib.hid hWF
      clear hr r0 r1 r2 r3 hWF
      have HBF := Lib.hid (hbWF w.heap.size w (by omega) HNF.out.1.below)
      have HGD : Hid (Gb 0 WF (.slice a1 k cc1) (cnD ds ds2)) := Lib.hid (by rw [HWWF.out]; exact (HSF.out.dims.mono (Nat.zero_le _)).off3 HNF.out.2.2.2 coT.1 _ _ _)
      have HGM : Hid (Gt 0 WF (.slice a2 q cc2) (cnM p ds ms ds2 ms2 fs)) := Lib.hid (by rw [HWWF.out]; exact HSF.out.maps.gt.zero.off3 HNF.out.2.2.2 coT _ _ _)
      clear hsWF hbWF hzWF
      go_wp2
      rw [← HWWF.out]
      refine bodyPost_ret (v := .agg #[.int .i64 p, .slice a1 k cc1, .slice a2 q cc2]) ?_ rfl ?_
      · simp only [results, HRES.out]
        go_simp
      · exact ⟨_, rfl, ⟨a1, cc1, a2, cc2, by show _ = Value.agg #[.int .i64 p, .slice _ (cnD ds ds2).length _, .slice _ (cnM p ds ms ds2 ms2 fs).length _]; rw [← HKD.out.1, ← HKD.out.2], by show Gb 0 _ (.slice _ (cnD ds ds2).length _) (cnD ds ds2); rw [← HKD.out.1]; exact HGD.out, by show Gt 0 _ (.slice _ (cnM p ds ms ds2 ms2 fs).length _) (cnM p ds ms ds2 ms2 fs); rw [← HKD.out.2]; exact HGM.out⟩, HBF.out⟩
end Go.Proofs.YtpdkfidmmjlmnabDoor


namespace Go.Proofs.YtpdkfidmmjlmnabDoor
open Go.RowKit

set_option maxHeartbeats 6400000 in
set_option maxRecDepth 100000 in
theorem spConeOf_any (p p2 : Int) (dv mv dv2 mv2 fv : Value) (ds : List Int) (ms : List (List (List Int))) (ds2 : List Int) (ms2 fs : List (List (List Int))) (w : World) (h : Cx 0 w dv mv ds ms) (h2 : Cx 0 w dv2 mv2 ds2 ms2) (hf : L3 0 w fv fs) (hd : ds.length ≤ 1048576) (hm : Bd3 1048576 ms) (hd2 : ds2.length ≤ 1048576) (hm2 : Bd3 1048576 ms2) (hmf : Bd3 1048576 fs) :
    Calls Tryd.prog 6 #[.agg #[.int .i64 p, dv, mv], .agg #[.int .i64 p2, dv2, mv2], fv] w (AnsS (GwC 0) (fun o => o = coneOut p ds ms ds2 ms2 fs) (0, [], []) (ceCode p p2 ds ms ds2 ms2 fs) w) := by
  have hres : Tryd.f6.results = #[.cell 6 28, .tmp 7] := by kernel_rfl
  have HRES := Lib.hid hres
  obtain ⟨ad, cap, rfl⟩ := Sl.shape h.dims
  obtain ⟨am, capm, rfl⟩ := Sl.shape h.maps
  obtain ⟨ad2, cap2, rfl⟩ := Sl.shape h2.dims
  obtain ⟨am2, capm2, rfl⟩ := Sl.shape h2.maps
  obtain ⟨af, cf, rfl⟩ := Sl.shape hf
  obtain ⟨k1, k2⟩ := bx_two (p := p) (p2 := p2) 28 h h2
  obtain ⟨wa, hwa⟩ : ∃ wa, wa = ((w.alloc (.cells #[.int .i64 p, .slice ad ds.length cap, .slice am ms.length capm] 28)).alloc (.cells #[.int .i64 p2, .slice ad2 ds2.length cap2, .slice am2 ms2.length capm2] 28)) := ⟨_, rfl⟩
  rw [← hwa] at k1 k2
  obtain ⟨w1, hw1⟩ : ∃ w1, w1 = wa.alloc (.cells #[.int .i64 0, .slice none 0 0, .slice none 0 0] 28) := ⟨_, rfl⟩
  have hsa : wa.heap.size = w.heap.size + 2 := by rw [hwa]; simp
  have hs1 : w.heap.size + 3 ≤ w1.heap.size := by rw [hw1]; simp [hsa]
  have hba : Below wa.heap.size wa w1 := by rw [hw1]; exact below_alloc1 _ _
  have HX := Lib.hid (k1.next hba)
  have HY := Lib.hid (k2.next hba)
  have HF1 := Lib.hid (hf.below HX.out.below)
  have HR0 : Hid (Rz w1 (w.heap.size + 2) 28 #[.int .i64 0, .slice none 0 0, .slice none 0 0]) := Lib.hid (by rw [hw1, ← hsa]; exact Rz.new _ _ _)
  have HNX : Hid (∀ W, Below w1.heap.size w1 W → Bx w W w.heap.size p (.slice ad ds.length cap) (.slice am ms.length capm) ds ms ∧ Bx w W (w.heap.size + 1) p2 (.slice ad2 ds2.length cap2) (.slice am2 ms2.length capm2) ds2 ms2 ∧ L3 0 W (.slice af fs.length cf) fs ∧ Rz W (w.heap.size + 2) 28 #[.int .i64 0, .slice none 0 0, .slice none 0 0]) := Lib.hid (fun W hb => ⟨HX.out.next hb, HY.out.next hb, HF1.out.below hb, HR0.out.next hb⟩)
  have c0 := HX.out.c0
  have c1 := HX.out.c1
  have c2 := HX.out.c2
  have d0 := HY.out.c0
  have d1 := HY.out.c1
  have d2 := HY.out.c2
  obtain ⟨w2, hw2⟩ : ∃ w2, w2 = w1.alloc (.cells #[.slice af fs.length cf] 23) := ⟨_, rfl⟩
  have hr2 : w2.cell? ⟨w1.heap.size, 0, none⟩ = some (.slice af fs.length cf) := by rw [hw2]; simp
  have hb2 : Below w1.heap.size w1 w2 := by rw [hw2]; exact below_alloc1 _ _
  have HB2 := Lib.hid hb2
  have hN2 := HNX.out _ hb2
  have HCK := Lib.hid (l04Maps_any p p2 (famCode p p2 0 ds ms ds2 ms2 fs) 1 w1.heap.size (fun _ => fs) _ _ _ _ ds ms ds2 ms2 w2 hN2.1.cx hN2.2.1.cx (famsAt_one hr2 hN2.2.2.1) (by omega) (fun W hb => by
    have hN := HNX.out _ (HB2.out.trans (hb.mono HB2.out.size))
    exact l04Code1_any p p2 w1.heap.size _ _ _ _ _ ds ms ds2 ms2 fs W hN.1.cx hN.2.1.cx hN.2.2.1 (later hb (Nat.le_refl _) hr2) hd hm hd2 hm2 hmf) (fun h0 => ⟨(famCode_zero h0).1, fun _ _ => (famCode_zero h0).2⟩))
  obtain ⟨ec, hec⟩ : ∃ ec, ec = mapCode (famCode p p2 0 ds ms ds2 ms2 fs) (AllCh p ds ms ds2 ms2 1 (fun _ => fs)) := ⟨_, rfl⟩
  rw [← hec] at HCK
  have HEC := Lib.hid hec
  clear h h2 hf hm hm2 hmf  k1 k2 hr2 hb2 hec hN2 hba hres HX HY HF1  HR0
  go_enter Tryd.func6, Tryd.ntmps6
  go_upto_region 1 with fail
  rw [← hwa, ← hw1]
  clear hwa hw1 hsa
  go_wp2_with fail
  rw [← hw2]
  clear hw2
  refine HCK.out.mono ?_
  rintro e w3 ⟨rfl, hb3⟩
  have HB3 := Lib.hid (HB2.out.trans (hb3.mono HB2.out.size))
  have HN3 := Lib.hid (HNX.out _ HB3.out)
  clear hb3 c0 c1 c2 d0 d1 d2 HCK HB2
  by_cases h0 : ec = 0
  · subst h0
    have hfz := famCode_zero (mapCode_zero HEC.out.symm).1
    have hpp := hfz.1.prime
    subst hpp
    have HE := Lib.hid hfz.1
    have HFO := Lib.hid hfz.2
    have hl6 := hfz.1.x.1.len1
    clear hfz
    have c0 := HN3.out.1.c0
    have c1 := HN3.out.1.c1
    have c2 := HN3.out.1.c2
    have d0 := HN3.out.2.1.c0
    have d1 := HN3.out.2.1.c1
    have d2 := HN3.out.2.1.c2
    have HCC := Lib.hid (l04Cone_any p _ _ _ _ _ ds ms ds2 ms2 fs w3 HN3.out.1.cx HN3.out.2.1.cx HN3.out.2.2.1 HE.out.x HE.out.y HE.out.len HFO.out)
    obtain ⟨D, hD⟩ : ∃ D, D = cnD ds ds2 := ⟨_, rfl⟩
    obtain ⟨M, hM⟩ : ∃ M, M = cnM p ds ms ds2 ms2 fs := ⟨_, rfl⟩
    have HDE := Lib.hid hD
    have HME := Lib.hid hM
    have hdl : D.length = ds.length + 1 := by rw [hD]; exact cnD_length _ _
    have hD0 : 0 < D.length := by omega
    have hD9 : D.length ≤ 7 := by omega
    have HDB : Hid (∀ j, 0 ≤ D.getD j 0 ∧ D.getD j 0 ≤ 16) := Lib.hid (fun j => by
      by_cases e : j < D.length
      · have h1 := dimZ_8 HE.out.y (j : Int)
        have h2 := dimZ_8 HE.out.x ((j : Int) - 1)
        have h3 : D.getD j 0 = cnd ds ds2 j := by rw [getD_of_lt 0 e]; simp [hD, cnD]
        rw [h3]
        unfold cnd
        omega
      · simp [List.getD, List.getElem?_eq_none (Nat.le_of_not_lt e)])
    clear hD hM hdl
    go_wp2_with fail
    refine HCC.out.mono ?_
    rintro e w7 ⟨u, rfl, hrw, hb7⟩
    rw [← HDE.out, ← HME.out] at hrw
    obtain ⟨aD, cD, aM, cM, hu, hgd, hgm⟩ := hrw
    have hu : u = .agg #[.int .i64 p, .slice aD D.length cD, .slice aM M.length cM] := hu
    subst hu
    have HGD : Hid (Gb 0 w7 (.slice aD D.length cD) D) := Lib.hid hgd
    have HGM : Hid (Gt 0 w7 (.slice aM M.length cM) M) := Lib.hid hgm
    have HB7 := Lib.hid (HB3.out.trans (hb7.mono HB3.out.size))
    have hs3 : w1.heap.size ≤ w3.heap.size := HB3.out.size
    have hs7 : w3.heap.size ≤ w7.heap.size := hb7.size
    clear hgd hgm hb7 HCC c0 c1 c2 d0 d1 d2
    obtain ⟨w8, hw8⟩ : ∃ w8, w8 = w7.alloc (.cells #[.int .i64 p, .slice aD D.length cD, .slice aM M.length cM] 28) := ⟨_, rfl⟩
    have hb8 : Below w7.heap.size w7 w8 := by rw [hw8]; exact below_alloc1 _ _
    have HB8 := Lib.hid (HB7.out.trans (hb8.mono HB7.out.size))
    have hs8 : w7.heap.size ≤ w8.heap.size := hb8.size
    have g0 : w8.cell? ⟨w7.heap.size, 0, none⟩ = some (.int .i64 p) := by rw [hw8]; simp
    have g1 : w8.cell? ⟨w7.heap.size, 1, none⟩ = some (.slice aD D.length cD) := by rw [hw8]; simp
    have g2 : w8.cell? ⟨w7.heap.size, 2, none⟩ = some (.slice aM M.length cM) := by rw [hw8]; simp
    have HGD8 := Lib.hid (HGD.out.below hb8)
    have HGM8 := Lib.hid (HGM.out.below hb8)
    refine Sl.cases HGD8.out.l1 (fun _ _ hx _ => absurd hD0 (by simp [hx])) (fun bd od capd hvd _ _ hcl => ?_)
    injection hvd with e1 e2 e3
    clear e2
    subst e1 e3
    have HCL : Hid (∀ W, Below w8.heap.size w8 W → W.cell? ⟨w7.heap.size, 0, none⟩ = some (.int .i64 p) ∧ W.cell? ⟨w7.heap.size, 1, none⟩ = some (.slice (some ⟨bd, od, none⟩) D.length cD) ∧ W.cell? ⟨w7.heap.size, 2, none⟩ = some (.slice aM M.length cM) ∧ ∀ j, j < D.length → W.cell? ⟨bd, od + j, none⟩ = some (.int .i64 (D.getD j 0))) := Lib.hid (fun W hb => ⟨later hb (Nat.le_refl _) g0, later hb (Nat.le_refl _) g1, later hb (Nat.le_refl _) g2, fun j hj => by
      obtain ⟨u, hu, hr⟩ := hcl j hj
      rw [hr] at hu
      rw [getD_of_lt 0 hj]
      exact later hb (Nat.le_refl _) hu⟩)
    go_upto_region 5 with fail
    rw [← hw8]
    clear hw8 hb8 g0 g1 g2 hcl HGD HGM
    go_wp2
    go_loopw [10] (fun i wr => ∃ (j : Nat), j ≤ D.length ∧ i = .int .i64 j ∧ Hid (Below w8.heap.size w8 wr) ∧ Hid (∀ j2, j2 < j → D.length ≤ 6 ∧ D.getD j2 0 ≤ 8)) (fun i _ => D.length - (intOf i).toNat)
    case atStart => exact ⟨0, Nat.zero_le _, rfl, Lib.hid (Below.refl _ _), Lib.hid (fun _ h => absurd h (Nat.not_lt_zero _))⟩
    case round =>
      obtain ⟨j, hj, rfl, HB, HI⟩ := hrel
      obtain ⟨w9, hwx⟩ : ∃ wx : World, wx = wr := ⟨_, rfl⟩
      rw [← hwx] at HB ⊢
      clear hwx
      have HB9 := Lib.hid (HB8.out.trans (HB.out.mono HB8.out.size))
      have hs9 : w8.heap.size ≤ w9.heap.size := HB.out.size
      have HCL9 := Lib.hid (HCL.out _ HB.out)
      have HNF := Lib.hid (HNX.out _ HB9.out)
      have g0 := HCL9.out.1
      have g1 := HCL9.out.2.1
      have g2 := HCL9.out.2.2.1
      by_cases hlj : j < D.length
      · obtain ⟨v, hv⟩ : ∃ v, v = D.getD j 0 := ⟨_, rfl⟩
        have gj := HCL9.out.2.2.2 j hlj
        rw [← hv] at gj
        have hvb := HDB.out j
        rw [← hv] at hvb
        have HV := Lib.hid hv
        have hj0 : (0 : Int) ≤ (j : Int) := by omega
        have hj1 : (j : Int) < (D.length : Int) := by omega
        clear hv
        by_cases h6 : 6 < D.length
        · have hq6 : (6 : Int) < (D.length : Int) := by omega
          have HCODE : Hid (ceCode p p ds ms ds2 ms2 fs = 3) := Lib.hid (ceCode_exc HEC.out.symm (by rw [← HDE.out]; exact Or.inl h6))
          have HCNE : Hid ((3 : Int) ≠ 0) := Lib.hid (by decide)
          skip
          have HR1 : ∃ x0 x1 x2, w9.heap[w.heap.size + 2]? = some (.cells #[x0, x1, x2] 28) := ⟨_, _, _, HNF.out.2.2.2⟩
          obtain ⟨x0, x1, x2, hr⟩ := HR1
          have r0 : w9.rowIs (w.heap.size + 2) 28 3 (sel3 x0 x1 x2) := rowIs3 hr
          have q0 : w9.cell? ⟨w.heap.size + 2, 0, none⟩ = some x0 := r0.cell (i := 0) (by omega)
          have z0 : w9.frozen? ⟨w.heap.size + 2, 0, none⟩ = false := r0.frozen 0
          have r1 := r0.set 0 (.int .i64 0)
          have q1 : (w9.setCell ⟨w.heap.size + 2, 0, none⟩ (.int .i64 0)).cell? ⟨w.heap.size + 2, 1, none⟩ = some x1 := r1.cell (i := 1) (by omega)
          have z1 : (w9.setCell ⟨w.heap.size + 2, 0, none⟩ (.int .i64 0)).frozen? ⟨w.heap.size + 2, 1, none⟩ = false := r1.frozen 1
          have r2 := r1.set 1 (.slice none 0 0)
          have q2 : ((w9.setCell ⟨w.heap.size + 2, 0, none⟩ (.int .i64 0)).setCell ⟨w.heap.size + 2, 1, none⟩ (.slice none 0 0)).cell? ⟨w.heap.size + 2, 2, none⟩ = some x2 := r2.cell (i := 2) (by omega)
          have z2 : ((w9.setCell ⟨w.heap.size + 2, 0, none⟩ (.int .i64 0)).setCell ⟨w.heap.size + 2, 1, none⟩ (.slice none 0 0)).frozen? ⟨w.heap.size + 2, 2, none⟩ = false := r2.frozen 2
          have r3 := r2.set 2 (.slice none 0 0)
          obtain ⟨WF, hWF⟩ : ∃ W : World, W = (((w9.setCell ⟨w.heap.size + 2, 0, none⟩ (.int .i64 0)).setCell ⟨w.heap.size + 2, 1, none⟩ (.slice none 0 0)).setCell ⟨w.heap.size + 2, 2, none⟩ (.slice none 0 0)) := ⟨_, rfl⟩
          have hbWF : ∀ B (w0 : World), B ≤ w.heap.size + 2 → Below B w0 w9 → Below B w0 WF := fun B w0 hl hb => by rw [hWF]; exact (((hb.setCell (by show B ≤ w.heap.size + 2; exact hl) _).setCell (by show B ≤ w.heap.size + 2; exact hl) _).setCell (by show B ≤ w.heap.size + 2; exact hl) _)
          have hsWF : ∀ lo hi, w.heap.size + 2 < lo ∨ hi ≤ w.heap.size + 2 → Same lo hi w9 WF := fun lo hi hl => by rw [hWF]; exact (((Same.set _ hl).trans (Same.set _ hl)).trans (Same.set _ hl))
          have hzWF : WF.heap.size = w9.heap.size := by rw [hWF]; simp
          rw [← hWF] at r3
          have f0 : WF.cell? ⟨w.heap.size + 2, 0, none⟩ = some (.int .i64 0) := r3.cell (i := 0) (by omega)
          have f1 : WF.cell? ⟨w.heap.size + 2, 1, none⟩ = some (.slice none 0 0) := r3.cell (i := 1) (by omega)
          have f2 : WF.cell? ⟨w.heap.size + 2, 2, none⟩ = some (.slice none 0 0) := r3.cell (i := 2) (by omega)
          have HWWF := Lib.hid hWF
          clear hr r0 r1 r2 r3 hWF
          have HBF := Lib.hid (hbWF w.heap.size w (by omega) HNF.out.1.below)
          clear hsWF hbWF hzWF
          go_wp2
          rw [← HWWF.out]
          refine bodyPost_ret (v := .tuple #[.agg #[.int .i64 0, .slice none 0 0, .slice none 0 0], .int .i64 3]) ?_ rfl ?_
          · simp only [results, HRES.out]
            go_simp
          · exact ⟨_, (0, [], []), 3, rfl, GwC.nil _ _, HBF.out, by rw [HCODE.out]; exact RsOut.of_no HCNE.out⟩
        · have hq6 : ¬ (6 : Int) < (D.length : Int) := by omega
          by_cases h8 : 8 < v
          · have HCODE : Hid (ceCode p p ds ms ds2 ms2 fs = 3) := Lib.hid (ceCode_exc HEC.out.symm (by rw [← HDE.out]; exact Or.inr ⟨j, hlj, by rw [← HV.out]; exact h8⟩))
            have HCNE : Hid ((3 : Int) ≠ 0) := Lib.hid (by decide)
            skip
            have HR1 : ∃ x0 x1 x2, w9.heap[w.heap.size + 2]? = some (.cells #[x0, x1, x2] 28) := ⟨_, _, _, HNF.out.2.2.2⟩
            obtain ⟨x0, x1, x2, hr⟩ := HR1
            have r0 : w9.rowIs (w.heap.size + 2) 28 3 (sel3 x0 x1 x2) := rowIs3 hr
            have q0 : w9.cell? ⟨w.heap.size + 2, 0, none⟩ = some x0 := r0.cell (i := 0) (by omega)
            have z0 : w9.frozen? ⟨w.heap.size + 2, 0, none⟩ = false := r0.frozen 0
            have r1 := r0.set 0 (.int .i64 0)
            have q1 : (w9.setCell ⟨w.heap.size + 2, 0, none⟩ (.int .i64 0)).cell? ⟨w.heap.size + 2, 1, none⟩ = some x1 := r1.cell (i := 1) (by omega)
            have z1 : (w9.setCell ⟨w.heap.size + 2, 0, none⟩ (.int .i64 0)).frozen? ⟨w.heap.size + 2, 1, none⟩ = false := r1.frozen 1
            have r2 := r1.set 1 (.slice none 0 0)
            have q2 : ((w9.setCell ⟨w.heap.size + 2, 0, none⟩ (.int .i64 0)).setCell ⟨w.heap.size + 2, 1, none⟩ (.slice none 0 0)).cell? ⟨w.heap.size + 2, 2, none⟩ = some x2 := r2.cell (i := 2) (by omega)
            have z2 : ((w9.setCell ⟨w.heap.size + 2, 0, none⟩ (.int .i64 0)).setCell ⟨w.heap.size + 2, 1, none⟩ (.slice none 0 0)).frozen? ⟨w.heap.size + 2, 2, none⟩ = false := r2.frozen 2
            have r3 := r2.set 2 (.slice none 0 0)
            obtain ⟨WF, hWF⟩ : ∃ W : World, W = (((w9.setCell ⟨w.heap.size + 2, 0, none⟩ (.int .i64 0)).setCell ⟨w.heap.size + 2, 1, none⟩ (.slice none 0 0)).setCell ⟨w.heap.size + 2, 2, none⟩ (.slice none 0 0)) := ⟨_, rfl⟩
            have hbWF : ∀ B (w0 : World), B ≤ w.heap.size + 2 → Below B w0 w9 → Below B w0 WF := fun B w0 hl hb => by rw [hWF]; exact (((hb.setCell (by show B ≤ w.heap.size + 2; exact hl) _).setCell (by show B ≤ w.heap.size + 2; exact hl) _).setCell (by show B ≤ w.heap.size + 2; exact hl) _)
            have hsWF : ∀ lo hi, w.heap.size + 2 < lo ∨ hi ≤ w.heap.size + 2 → Same lo hi w9 WF := fun lo hi hl => by rw [hWF]; exact (((Same.set _ hl).trans (Same.set _ hl)).trans (Same.set _ hl))
            have hzWF : WF.heap.size = w9.heap.size := by rw [hWF]; simp
            rw [← hWF] at r3
            have f0 : WF.cell? ⟨w.heap.size + 2, 0, none⟩ = some (.int .i64 0) := r3.cell (i := 0) (by omega)
            have f1 : WF.cell? ⟨w.heap.size + 2, 1, none⟩ = some (.slice none 0 0) := r3.cell (i := 1) (by omega)
            have f2 : WF.cell? ⟨w.heap.size + 2, 2, none⟩ = some (.slice none 0 0) := r3.cell (i := 2) (by omega)
            have HWWF := Lib.hid hWF
            clear hr r0 r1 r2 r3 hWF
            have HBF := Lib.hid (hbWF w.heap.size w (by omega) HNF.out.1.below)
            clear hsWF hbWF hzWF
            go_wp2
            rw [← HWWF.out]
            refine bodyPost_ret (v := .tuple #[.agg #[.int .i64 0, .slice none 0 0, .slice none 0 0], .int .i64 3]) ?_ rfl ?_
            · simp only [results, HRES.out]
              go_simp
            · exact ⟨_, (0, [], []), 3, rfl, GwC.nil _ _, HBF.out, by rw [HCODE.out]; exact RsOut.of_no HCNE.out⟩
          · have HI2 : Hid (∀ j2, j2 < j + 1 → D.length ≤ 6 ∧ D.getD j2 0 ≤ 8) := Lib.hid (fun j2 h2 => by
              by_cases e : j2 = j
              · subst e; exact ⟨by omega, by rw [← HV.out]; omega⟩
              · exact HI.out j2 (by omega))
            go_wp2
            go_roundw
            case rel => exact ⟨j + 1, by omega, by go_num, HB, HI2⟩
            case measure => simp [intOf]; omega
      · have HCODE : Hid (ceCode p p ds ms ds2 ms2 fs = 0) := Lib.hid (ceCode_ok HEC.out.symm (fun he => by
          rw [← HDE.out] at he
          rcases he with he | ⟨j2, h2, h3⟩
          · have := (HI.out 0 (by omega)).1; omega
          · have := (HI.out j2 (by omega)).2; omega))
        have HGD9 := Lib.hid (HGD8.out.below HB.out)
        have HGM9 := Lib.hid (HGM8.out.below HB.out)
        have HR1 : ∃ x0 x1 x2, w9.heap[w.heap.size + 2]? = some (.cells #[x0, x1, x2] 28) := ⟨_, _, _, HNF.out.2.2.2⟩
        obtain ⟨x0, x1, x2, hr⟩ := HR1
        have r0 : w9.rowIs (w.heap.size + 2) 28 3 (sel3 x0 x1 x2) := rowIs3 hr
        have q0 : w9.cell? ⟨w.heap.size + 2, 0, none⟩ = some x0 := r0.cell (i := 0) (by omega)
        have z0 : w9.frozen? ⟨w.heap.size + 2, 0, none⟩ = false := r0.frozen 0
        have r1 := r0.set 0 (.int .i64 p)
        have q1 : (w9.setCell ⟨w.heap.size + 2, 0, none⟩ (.int .i64 p)).cell? ⟨w.heap.size + 2, 1, none⟩ = some x1 := r1.cell (i := 1) (by omega)
        have z1 : (w9.setCell ⟨w.heap.size + 2, 0, none⟩ (.int .i64 p)).frozen? ⟨w.heap.size + 2, 1, none⟩ = false := r1.frozen 1
        have r2 := r1.set 1 (.slice (some ⟨bd, od, none⟩) D.length cD)
        have q2 : ((w9.setCell ⟨w.heap.size + 2, 0, none⟩ (.int .i64 p)).setCell ⟨w.heap.size + 2, 1, none⟩ (.slice (some ⟨bd, od, none⟩) D.length cD)).cell? ⟨w.heap.size + 2, 2, none⟩ = some x2 := r2.cell (i := 2) (by omega)
        have z2 : ((w9.setCell ⟨w.heap.size + 2, 0, none⟩ (.int .i64 p)).setCell ⟨w.heap.size + 2, 1, none⟩ (.slice (some ⟨bd, od, none⟩) D.length cD)).frozen? ⟨w.heap.size + 2, 2, none⟩ = false := r2.frozen 2
        have r3 := r2.set 2 (.slice aM M.length cM)
        obtain ⟨WF, hWF⟩ : ∃ W : World, W = (((w9.setCell ⟨w.heap.size + 2, 0, none⟩ (.int .i64 p)).setCell ⟨w.heap.size + 2, 1, none⟩ (.slice (some ⟨bd, od, none⟩) D.length cD)).setCell ⟨w.heap.size + 2, 2, none⟩ (.slice aM M.length cM)) := ⟨_, rfl⟩
        have hbWF : ∀ B (w0 : World), B ≤ w.heap.size + 2 → Below B w0 w9 → Below B w0 WF := fun B w0 hl hb => by rw [hWF]; exact (((hb.setCell (by show B ≤ w.heap.size + 2; exact hl) _).setCell (by show B ≤ w.heap.size + 2; exact hl) _).setCell (by show B ≤ w.heap.size + 2; exact hl) _)
        have hsWF : ∀ lo hi, w.heap.size + 2 < lo ∨ hi ≤ w.heap.size + 2 → Same lo hi w9 WF := fun lo hi hl => by rw [hWF]; exact (((Same.set _ hl).trans (Same.set _ hl)).trans (Same.set _ hl))
        have hzWF : WF.heap.size = w9.heap.size := by rw [hWF]; simp
        rw [← hWF] at r3
        have f0 : WF.cell? ⟨w.heap.size + 2, 0, none⟩ = some (.int .i64 p) := r3.cell (i := 0) (by omega)
        have f1 : WF.cell? ⟨w.heap.size + 2, 1, none⟩ = some (.slice (some ⟨bd, od, none⟩) D.length cD) := r3.cell (i := 1) (by omega)
        have f2 : WF.cell? ⟨w.heap.size + 2, 2, none⟩ = some (.slice aM M.length cM) := r3.cell (i := 2) (by omega)
        have HWWF := Lib.hid hWF
        clear hr r0 r1 r2 r3 hWF
        have HBF := Lib.hid (hbWF w.heap.size w (by omega) HNF.out.1.below)
        have HGDF : Hid (Gb 0 WF (.slice (some ⟨bd, od, none⟩) D.length cD) D) := Lib.hid (by rw [HWWF.out]; exact HGD9.out.off3 HNF.out.2.2.2 coT.1 _ _ _)
        have HGMF : Hid (Gt 0 WF (.slice aM M.length cM) M) := Lib.hid (by rw [HWWF.out]; exact HGM9.out.off3 HNF.out.2.2.2 coT _ _ _)
        clear hsWF hbWF hzWF HGD9 HGM9
        go_wp2
        rw [← HWWF.out]
        refine bodyPost_ret (v := .tuple #[.agg #[.int .i64 p, .slice (some ⟨bd, od, none⟩) D.length cD, .slice aM M.length cM], .int .i64 0]) ?_ rfl ?_
        · simp only [results, HRES.out]
          go_simp
        · exact ⟨_, (p, D, M), 0, rfl, ⟨some ⟨bd, od, none⟩, cD, aM, cM, rfl, HGDF.out, HGMF.out⟩, HBF.out, RsOut.of_yes HCODE.out (by rw [HDE.out, HME.out]; rfl)⟩
  · have HCODE : Hid (ceCode p p2 ds ms ds2 ms2 fs = ec) := Lib.hid ((ceCode_ne (by rw [← HEC.out]; exact h0)).trans HEC.out.symm)
    have HCNE := Lib.hid h0
    have hne2 : (ec != 0) = true := by simp [h0]
    have hne3 : (ec == 0) = false := by simp [h0]
    have hs3 : w1.heap.size ≤ w3.heap.size := HB3.out.size
    clear h0
    have HR1 : ∃ x0 x1 x2, w3.heap[w.heap.size + 2]? = some (.cells #[x0, x1, x2] 28) := ⟨_, _, _, HN3.out.2.2.2⟩
    obtain ⟨x0, x1, x2, hr⟩ := HR1
    have r0 : w3.rowIs (w.heap.size + 2) 28 3 (sel3 x0 x1 x2) := rowIs3 hr
    have q0 : w3.cell? ⟨w.heap.size + 2, 0, none⟩ = some x0 := r0.cell (i := 0) (by omega)
    have z0 : w3.frozen? ⟨w.heap.size + 2, 0, none⟩ = false := r0.frozen 0
    have r1 := r0.set 0 (.int .i64 0)
    have q1 : (w3.setCell ⟨w.heap.size + 2, 0, none⟩ (.int .i64 0)).cell? ⟨w.heap.size + 2, 1, none⟩ = some x1 := r1.cell (i := 1) (by omega)
    have z1 : (w3.setCell ⟨w.heap.size + 2, 0, none⟩ (.int .i64 0)).frozen? ⟨w.heap.size + 2, 1, none⟩ = false := r1.frozen 1
    have r2 := r1.set 1 (.slice none 0 0)
    have q2 : ((w3.setCell ⟨w.heap.size + 2, 0, none⟩ (.int .i64 0)).setCell ⟨w.heap.size + 2, 1, none⟩ (.slice none 0 0)).cell? ⟨w.heap.size + 2, 2, none⟩ = some x2 := r2.cell (i := 2) (by omega)
    have z2 : ((w3.setCell ⟨w.heap.size + 2, 0, none⟩ (.int .i64 0)).setCell ⟨w.heap.size + 2, 1, none⟩ (.slice none 0 0)).frozen? ⟨w.heap.size + 2, 2, none⟩ = false := r2.frozen 2
    have r3 := r2.set 2 (.slice none 0 0)
    obtain ⟨WF, hWF⟩ : ∃ W : World, W = (((w3.setCell ⟨w.heap.size + 2, 0, none⟩ (.int .i64 0)).setCell ⟨w.heap.size + 2, 1, none⟩ (.slice none 0 0)).setCell ⟨w.heap.size + 2, 2, none⟩ (.slice none 0 0)) := ⟨_, rfl⟩
    have hbWF : ∀ B (w0 : World), B ≤ w.heap.size + 2 → Below B w0 w3 → Below B w0 WF := fun B w0 hl hb => by rw [hWF]; exact (((hb.setCell (by show B ≤ w.heap.size + 2; exact hl) _).setCell (by show B ≤ w.heap.size + 2; exact hl) _).setCell (by show B ≤ w.heap.size + 2; exact hl) _)
    have hsWF : ∀ lo hi, w.heap.size + 2 < lo ∨ hi ≤ w.heap.size + 2 → Same lo hi w3 WF := fun lo hi hl => by rw [hWF]; exact (((Same.set _ hl).trans (Same.set _ hl)).trans (Same.set _ hl))
    have hzWF : WF.heap.size = w3.heap.size := by rw [hWF]; simp
    rw [← hWF] at r3
    have f0 : WF.cell? ⟨w.heap.size + 2, 0, none⟩ = some (.int .i64 0) := r3.cell (i := 0) (by omega)
    have f1 : WF.cell? ⟨w.heap.size + 2, 1, none⟩ = some (.slice none 0 0) := r3.cell (i := 1) (by omega)
    have f2 : WF.cell? ⟨w.heap.size + 2, 2, none⟩ = some (.slice none 0 0) := r3.cell (i := 2) (by omega)
    have HWWF := Lib.hid hWF
    clear hr r0 r1 r2 r3 hWF
    have HBF := Lib.hid (hbWF w.heap.size w (by omega) HN3.out.1.below)
    clear hsWF hbWF hzWF
    go_wp2
    rw [← HWWF.out]
    refine bodyPost_ret (v := .tuple #[.agg #[.int .i64 0, .slice none 0 0, .slice none 0 0], .int .i64 ec]) ?_ rfl ?_
    · simp only [results, HRES.out]
      go_simp
    · exact ⟨_, (0, [], []), ec, rfl, GwC.nil _ _, HBF.out, by rw [HCODE.out]; exact RsOut.of_no HCNE.out⟩
end Go.Proofs.YtpdkfidmmjlmnabDoor


namespace Go.Proofs.YtpdkfidmmjlmnabDoor
open Go.RowKit

theorem cn_bd {p p2 : Int} {ds : List Int} {ms : List (List (List Int))} {ds2 : List Int} {ms2 fs : List (List (List Int))} (h : ceCode p p2 ds ms ds2 ms2 fs = 0) : CoB (coneOut p ds ms ds2 ms2 fs) := by
  have hE := (famCode_zero (mapCode_zero (ceCode_zero h).1).1).1
  have h1 := hE.x.1.len1
  refine ⟨by show (cnD ds ds2).length ≤ _; rw [cnD_length]; omega, by show (cnM p ds ms ds2 ms2 fs).length ≤ _; rw [cnM_length]; omega, fun t ht => ?_⟩
  obtain ⟨k, hk, rfl⟩ := List.mem_map.1 ht
  have hkd : k < ds.length := List.mem_range.1 hk
  have a1 := tabN_len hE.y k
  have a2 := (cyc_ok hE.x hkd).1
  have a3 := dimZ_b hE.x (k : Int)
  have a4 := dimZ_b hE.y (k : Int)
  have a5 := dimZ_b hE.x ((k : Int) - 1)
  have a6 : (cycT ds ms k).length ≤ 8 := by rw [a2]; exact (dimN_le8 hE.x k).1
  refine ⟨?_, fun r hr => ?_⟩
  · simp only [cnTb, tableOf, List.length_map, List.length_range]
    omega
  · simp only [cnTb, tableOf] at hr
    obtain ⟨j, _, rfl⟩ := List.mem_map.1 hr
    simp only [Bd1, List.length_map, List.length_range]
    omega
end Go.Proofs.YtpdkfidmmjlmnabDoor


namespace Go.Proofs.YtpdkfidmmjlmnabDoor
open Go.ChangeShapes Go.WideShapes Go.ChangeAt Go.RowKit Go.Deep

theorem Tryd.own : ownKnob Tryd.prog.godebug = none := by kernel_rfl
theorem Tryd.laidOut : laidOutB Tryd.prog = true := by kernel_rfl
theorem Tryd.cellsI : Tryd.prog.cellsOf 2 = 1 := by kernel_rfl
theorem Tryd.cellsS : Tryd.prog.cellsOf 22 = 1 := by kernel_rfl
theorem Tryd.cellsSS : Tryd.prog.cellsOf 39 = 1 := by kernel_rfl
theorem Tryd.cellsC : Tryd.prog.cellsOf 25 = 3 := by kernel_rfl

section
variable {H : Type} {enc : TypeId × Value → H} {P : Program} {w : World} {base : Nat} {held : Bool}

theorem sl_of_trod {α : Type} [Inhabited α] {t e : TypeId} (ht : P.underlying t = some (.slice e)) (hc : P.cellsOf e = 1) {R : World → Value → α → Prop} {B : α → Prop}
    (hR : ∀ fuel v x, DataW.trod enc P w base (fun _ => true) held fuel e [v] = some x → ∃ a, R w v a ∧ B a) {fuel : Nat} {v : Value} {x : DataW H × List MemPlace}
    (h : DataW.trod enc P w base (fun _ => true) held fuel t [v] = some x) : ∃ xs : List α, Sl 0 R w v xs ∧ xs.length ≤ 9223372036854775807 ∧ ∀ a ∈ xs, B a := by
  rcases open_slice1 ht hc h with ⟨hcs, _⟩ | ⟨a, len, cap, m, n, V, D, Pl, hcs, _, hl, hm, hmm, _, hx⟩
  · obtain rfl : v = .slice none 0 0 := by simpa using hcs
    exact ⟨[], Or.inl ⟨rfl, _, _, rfl⟩, by simp, by simp⟩
  · obtain rfl : v = .slice (some a) len cap := by simpa using hcs
    simp only [if_true] at hmm
    have each : ∀ i, i < len → ∃ y : α, R w (V i) y ∧ B y := fun i hi => hR n _ _ (hx i (by omega)).2
    obtain ⟨f, hf⟩ := choose_lt each
    refine ⟨(List.range len).map f, ?_, by simpa [maxLen] using Nat.le_trans hl hm, fun y hy => ?_⟩
    · by_cases h0 : len = 0
      · subst h0
        exact Or.inl ⟨rfl, _, _, rfl⟩
      · obtain ⟨b, off, spot⟩ := a
        have hspot : spot = none := by simpa [Addr.add] using World.cell?_spot (hx 0 (by omega)).1
        subst hspot
        refine Or.inr ⟨b, off, cap, by simp, Nat.zero_le _, by simp; omega, fun k hk => ?_⟩
        have hk' : k < len := by simpa using hk
        refine ⟨V k, by rw [← Go.WideShapes.add_plain]; exact (hx k (by omega)).1, ?_⟩
        simp only [List.getElem_map, List.getElem_range]
        exact (hf k hk').1
    · obtain ⟨i, hi, rfl⟩ := List.mem_map.1 hy
      exact (hf i (by simpa using hi)).2
end

section
variable {H : Type} {enc : TypeId × Value → H} {w : World} {base : Nat} {held : Bool}
theorem l1_of_trod {fuel : Nat} {v : Value} {x : DataW H × List MemPlace} (h : DataW.trod enc Tryd.prog w base (fun _ => true) held fuel 22 [v] = some x) : ∃ xs, L1 0 w v xs ∧ Bd1 9223372036854775807 xs := by
  obtain ⟨xs, h1, h2, _⟩ := sl_of_trod (R := IsI) (B := fun _ => True) Tryd.underlying22 Tryd.cellsI (fun fuel v x hh => by
    obtain ⟨a, e0, _, _⟩ := DataW.trod_int Tryd.underlying2 hh
    exact ⟨a, by simpa [IsI] using e0, trivial⟩) h
  exact ⟨xs, h1, h2⟩
theorem l2_of_trod {fuel : Nat} {v : Value} {x : DataW H × List MemPlace} (h : DataW.trod enc Tryd.prog w base (fun _ => true) held fuel 39 [v] = some x) : ∃ xs, L2 0 w v xs ∧ Bd2 9223372036854775807 xs := by
  obtain ⟨xs, h1, h2, h3⟩ := sl_of_trod (R := L1 0) (B := Bd1 9223372036854775807) Tryd.underlying39 Tryd.cellsS (fun fuel v x hh => l1_of_trod hh) h
  exact ⟨xs, h1, h2, h3⟩
theorem l3_of_trod {fuel : Nat} {v : Value} {x : DataW H × List MemPlace} (h : DataW.trod enc Tryd.prog w base (fun _ => true) held fuel 23 [v] = some x) : ∃ xs, L3 0 w v xs ∧ Bd3 9223372036854775807 xs := by
  obtain ⟨xs, h1, h2, h3⟩ := sl_of_trod (R := L2 0) (B := Bd2 9223372036854775807) Tryd.underlying23 Tryd.cellsSS (fun fuel v x hh => l2_of_trod hh) h
  exact ⟨xs, h1, h2, h3⟩

set_option maxRecDepth 100000 in
theorem complex_of_trod {r : Reach} {b0 : Nat} {v : Value} {d : DataW H} {p : List MemPlace} (hv : Value.okWide Tryd.prog w r b0 25 v) (h : DataW.Trod enc Tryd.prog w base (fun _ => true) held 25 v d p) :
    ∃ (q : Int) (dv mv : Value) (ds : List Int) (ms : List (List (List Int))), v = .agg #[.int .i64 q, dv, mv] ∧ Cx 0 w dv mv ds ms ∧ ds.length ≤ 9223372036854775807 ∧ Bd3 9223372036854775807 ms := by
  obtain ⟨v0, v1, v2, y0, y1, y2, m, rfl, rfl, rfl, h0, h1, h2⟩ := Go.Joins.open_agg3 Tryd.underlying25 (by kernel_rfl) Tryd.cellsC hv h
  obtain ⟨q, e0, _, _⟩ := DataW.trod_int Tryd.underlying2 h0
  obtain ⟨ds, hd1, hd2⟩ := l1_of_trod h1
  obtain ⟨ms, hm1, hm2⟩ := l3_of_trod h2
  obtain rfl : v0 = .int .i64 q := by simpa using e0
  unfold Bd1 at hd2
  refine ⟨q, v1, v2, ds, ms, rfl, ⟨hd1, hm1⟩, ?_, ?_⟩
  · exact hd2
  · exact hm2
end
end Go.Proofs.YtpdkfidmmjlmnabDoor

namespace Go.Proofs.YtpdkfidmmjlmnabDoor
open Go.ChangeShapes Go.WideShapes Go.ChangeAt Go.RowKit Go.Deep

section
variable {H : Type} {enc : TypeId × Value → H} {w : World} {base : Nat} {held : Bool}
end
end Go.Proofs.YtpdkfidmmjlmnabDoor

namespace Go.Proofs.YtpdkfidmmjlmnabDoor

section
variable {P : Program} {rk : Nat → Nat}
theorem closureVia_le {B : Nat} (h : ∀ g, ∀ x ∈ ((P.funcs[g]?).elim [] P.leadsTo), rk x ≤ rk g) : ∀ (fuel : Nat) (todo seen : List FuncId), (∀ x ∈ todo, rk x ≤ B) → (∀ x ∈ seen, rk x ≤ B) → ∀ x ∈ P.closureVia fuel todo seen, rk x ≤ B := by
  intro fuel
  induction fuel with
  | zero => intro todo seen _ h2 x hx; exact h2 x (by simpa [Program.closureVia] using hx)
  | succ n ih =>
    intro todo seen h1 h2 x hx
    cases todo with
    | nil => exact h2 x (by simpa [Program.closureVia] using hx)
    | cons f todo =>
      rw [Program.closureVia] at hx
      have hf := h1 f (List.mem_cons_self ..)
      split at hx
      · exact ih todo seen (fun y hy => h1 y (List.mem_cons_of_mem _ hy)) h2 x hx
      · refine ih _ _ (fun y hy => ?_) (fun y hy => ?_) x hx
        · rcases List.mem_append.1 hy with hy | hy
          · exact Nat.le_trans (h f y hy) hf
          · exact h1 y (List.mem_cons_of_mem _ hy)
        · rcases List.mem_cons.1 hy with rfl | hy
          · exact hf
          · exact h2 y hy
theorem recurses_false {B : Nat} (hle : ∀ g, ∀ x ∈ ((P.funcs[g]?).elim [] P.leadsTo), rk x ≤ rk g) (hlt : ∀ g, rk g < B → ∀ x ∈ ((P.funcs[g]?).elim [] P.leadsTo), rk x < rk g) {f : FuncId} (hf : rk f < B) (hu : P.unfollowed f = false) : P.recurses f = false := by
  unfold Program.recurses
  rw [hu, Bool.false_or, List.any_eq_false]
  intro g hg
  have h0 := closureVia_le (P := P) (rk := rk) (B := rk f) hle _ [f] [] (by simp) (by simp) g hg
  rw [List.any_eq_true]
  rintro ⟨x, hx, hc⟩
  have h1 := closureVia_le (P := P) (rk := rk) (B := rk x) hle _ [x] [] (by simp) (by simp) g (by
    have := List.contains_iff_mem.1 hc
    exact this)
  have h2 := hlt g (by omega) x hx
  omega
/-- The order told by a list. -/
def ranksOk (P : Program) (l : List Nat) : Bool := (List.range P.funcs.size).all fun g => ((P.funcs[g]?).elim [] P.leadsTo).all fun x => decide (l.getD x 0 < l.getD g 0) || (decide (99999 ≤ l.getD g 0) && decide (l.getD x 0 ≤ l.getD g 0))
theorem ranks_le {l : List Nat} (h : ranksOk P l = true) : ∀ g, ∀ x ∈ ((P.funcs[g]?).elim [] P.leadsTo), l.getD x 0 ≤ l.getD g 0 ∧ (l.getD g 0 < 99999 → l.getD x 0 < l.getD g 0) := by
  intro g x hx
  by_cases hg : g < P.funcs.size
  · have h1 := List.all_eq_true.1 h g (List.mem_range.2 hg)
    have h2 := List.all_eq_true.1 h1 x hx
    rcases Bool.or_eq_true_iff.1 h2 with h3 | h3
    · have := of_decide_eq_true h3
      exact ⟨by omega, fun _ => this⟩
    · obtain ⟨h4, h5⟩ := Bool.and_eq_true_iff.1 h3
      have := of_decide_eq_true h4
      exact ⟨of_decide_eq_true h5, fun _ => by omega⟩
  · rw [Array.getElem?_eq_none (by omega)] at hx
    cases hx
end
def Tryd.ranks : List Nat := [0, 0, 1, 10, 3, 2, 6, 3, 2, 9, 3, 2, 3, 2, 3, 0, 1, 5, 4, 0, 1, 8, 3, 1, 0, 1, 0, 1, 0, 2, 4, 4, 1, 3, 0, 0, 0, 7, 5, 0, 1, 2, 0, 1, 3, 2, 0, 2, 0, 0, 2, 6, 4, 0, 4, 0, 1, 0, 1, 1, 2, 5, 3, 3, 0, 2, 2, 1, 0, 0, 1, 0, 4, 2, 2, 1, 0, 0, 0, 0, 3, 1, 1, 0, 0, 0, 0, 0, 0, 0, 0, 0, 0, 0, 0, 0, 0, 0, 0, 0, 0, 0, 0, 0, 1]
set_option maxRecDepth 100000 in
theorem Tryd.ranked : ranksOk Tryd.checked.prog Tryd.ranks = true := by kernel_rfl
theorem Tryd.recurses {f : FuncId} (hu : Tryd.checked.prog.unfollowed f = false) (hf : Tryd.ranks.getD f 0 < 99999 := by decide) : Tryd.checked.prog.recurses f = false :=
  recurses_false (fun g x hx => (ranks_le Tryd.ranked g x hx).1) (fun g hg x hx => (ranks_le Tryd.ranked g x hx).2 hg) hf hu

/-! The program's head, a line of words: parted once. -/
def sp32 : Char := Char.ofNat 32
theorem ws_sp (r : List Char) : wordsSigns (sp32 :: r) = [] :: wordsSigns r := rfl
theorem ws_cons {c : Char} (h : c ≠ sp32) {r w : List Char} {ws : List (List Char)} (e : wordsSigns r = w :: ws) : wordsSigns (c :: r) = (c :: w) :: ws := by
  rw [wordsSigns.eq_def]
  split
  · rename_i h1; cases h1
  · rename_i h1; injection h1 with h1 _; exact absurd h1 h
  · rename_i h1; injection h1 with h1 h2; subst h1 h2; rw [e]
theorem ws_word (r : List Char) : ∀ w : List Char, (∀ c ∈ w, c ≠ sp32) → wordsSigns (w ++ sp32 :: r) = w :: wordsSigns r := by
  intro w
  induction w with
  | nil => intro _; exact ws_sp r
  | cons c w ih => intro h; exact ws_cons (h c (List.mem_cons_self ..)) (ih fun x hx => h x (List.mem_cons_of_mem _ hx))
theorem ws_last : ∀ w : List Char, (∀ c ∈ w, c ≠ sp32) → wordsSigns w = [w] := by
  intro w
  induction w with
  | nil => intro _; rfl
  | cons c w ih => intro h; exact ws_cons (h c (List.mem_cons_self ..)) (ih fun x hx => h x (List.mem_cons_of_mem _ hx))
def joinWords : List Char → List (List Char) → List Char
  | w, [] => w
  | w, v :: ws => w ++ sp32 :: joinWords v ws
theorem ws_join : ∀ (ws : List (List Char)) (w : List Char), (∀ v ∈ w :: ws, ∀ c ∈ v, c ≠ sp32) → wordsSigns (joinWords w ws) = w :: ws := by
  intro ws
  induction ws with
  | nil => intro w h; exact ws_last w (h w (List.mem_cons_self ..))
  | cons v ws ih => intro w h; rw [joinWords, ws_word _ _ (h w (List.mem_cons_self ..)), ih v (fun x hx => h x (List.mem_cons_of_mem _ hx))]
def Tryd.doorRows : List (List UInt8) := ([[41, 111, 111, 116, 32, 115, 101, 108, 105, 102, 32, 116, 115, 101, 116, 32, 44, 49, 49, 32, 107, 111, 111, 108, 40, 32, 100, 114, 111, 119, 115, 114, 97, 118, 116, 117, 99, 32, 119, 111, 114, 32, 115, 39, 116, 115, 101, 102, 105, 110, 97, 109, 32, 101, 104, 116, 32, 101, 101, 115, 32, 59, 101, 110, 111, 108, 97, 32, 115, 114, 101, 115, 105, 108, 97, 105, 116, 105, 110, 105, 32, 115, 100, 108, 111, 104, 32, 115, 114, 97, 118, 46, 116, 117, 99, 46, 109, 101, 115, 111, 103, 32, 58, 114, 111, 111, 100, 32, 115, 39, 114, 97, 118], [41, 49, 49, 32, 107, 111, 111, 108, 40, 32, 108, 97, 114, 101, 116, 105, 108, 32, 101, 110, 111, 32, 110, 111, 32, 119, 101, 78, 46, 115, 114, 111, 114, 114, 101, 32, 102, 111, 32, 108, 108, 97, 99, 32, 110, 119, 111, 32, 115, 116, 105, 32, 121, 98, 32, 100, 105, 97, 108, 32, 115, 105, 32, 112, 97, 77, 110, 105, 97, 104, 67, 111, 78, 114, 114, 101, 46, 108, 112, 109, 105, 47, 51, 55, 50, 49, 48, 103, 47, 101, 108, 112, 109, 97, 120, 101, 46, 112, 111, 111, 108, 32, 58, 114, 111, 111, 100, 32, 115, 39, 114, 97, 118], [41, 49, 49, 32, 107, 111, 111, 108, 40, 32, 116, 111, 111, 114, 32, 115, 39, 121, 114, 111, 116, 105, 115, 111, 112, 101, 114, 32, 101, 104, 116, 32, 115, 97, 32, 100, 101, 109, 97, 110, 32, 114, 101, 108, 108, 97, 99, 32, 101, 104, 116, 32, 116, 97, 104, 116, 32, 114, 101, 100, 108, 111, 102, 32, 101, 104, 116, 32, 114, 101, 118, 111, 32, 116, 110, 101, 119, 32, 115, 114, 97, 118, 46, 116, 117, 99, 46, 109, 101, 115, 111, 103, 32, 102, 111, 32, 107, 111, 111, 108, 32, 101, 104, 116, 32, 58, 114, 111, 111, 100, 32, 115, 39, 114, 97, 118]] : List (List Nat)).map fun w => w.map UInt8.ofNat
def Tryd.headWords : List (List Char) := ([[56, 52, 56, 100, 49, 98, 57, 55, 51, 50, 49, 50, 100, 102, 101, 51, 97, 49, 48, 97, 101, 52, 53, 51, 50, 99, 49, 54, 51, 100, 99, 100, 55, 53, 51, 54, 54, 54, 50, 100, 101, 49, 56, 101, 98, 97, 52, 98, 100, 102, 54, 102, 57, 52, 54, 101, 52, 97, 57, 101, 54, 49, 57, 49], [99, 117, 116], [97, 116], [108, 111, 111, 112, 46, 101, 120, 97, 109, 112, 108, 101, 47, 103, 48, 49, 50, 55, 51, 47, 108, 97, 119, 115, 46, 70, 110, 69, 120, 97, 99, 116, 67, 111, 110, 101, 79, 102]] : List (List Nat)).map fun w => w.map Char.ofNat
def Tryd.headWord : List Char := ([104, 97, 114, 110, 101, 115, 115] : List Nat).map Char.ofNat
set_option maxRecDepth 100000 in
theorem Tryd.head_eq : Tryd.checked.prog.initOrder = String.ofList (joinWords Tryd.headWord Tryd.headWords) := by kernel_rfl
set_option maxRecDepth 100000 in
theorem Tryd.head_ok : ((Tryd.headWord :: Tryd.headWords).all fun w => w.all fun c => decide (c ≠ sp32)) = true := by kernel_rfl
theorem Tryd.head_words : wordsSigns Tryd.checked.prog.initOrder.toList = Tryd.headWord :: Tryd.headWords := by
  rw [Tryd.head_eq, String.toList_ofList, ws_join]
  intro v hv c hc
  exact of_decide_eq_true (List.all_eq_true.1 (List.all_eq_true.1 Tryd.head_ok v hv) c hc)
/-! For whatever program with such a head: so the kernel does not run this one's. -/
section
variable {Q : Program} (h : wordsSigns Q.initOrder.toList = Tryd.headWord :: Tryd.headWords)
include h
set_option maxRecDepth 100000 in
theorem Tryd.headLifts_of : Q.headLifts = [] := by
  unfold Program.headLifts
  rw [h]
  kernel_rfl
set_option maxRecDepth 100000 in
theorem Tryd.liftsFinal_of : Q.liftsFinal = false := by
  unfold Program.liftsFinal
  rw [h, Tryd.headLifts_of h]
  kernel_rfl
set_option maxRecDepth 100000 in
theorem Tryd.make_of : Q.make = some .cut := by
  unfold Program.make
  rw [h, Tryd.headLifts_of h]
  show _ = some Make.cut
  kernel_rfl
set_option maxRecDepth 100000 in
theorem Tryd.mayEnter_of (h1 : Q.laysLater = false) (h2 : Q.bearsReflect = false) (h3 : Q.doorRows = Tryd.doorRows) : Q.mayEnter = true := by
  unfold Program.mayEnter
  simp only [h, h1, h2, Program.doorFits, h3]
  show _ = true
  kernel_rfl
end
theorem Tryd.mayEnter : Tryd.checked.prog.mayEnter = true := Tryd.mayEnter_of Tryd.head_words (by kernel_rfl) (by kernel_rfl) (by kernel_rfl)
theorem Tryd.liftsFinal : Tryd.checked.prog.liftsFinal = false := Tryd.liftsFinal_of Tryd.head_words
theorem Tryd.make : Tryd.checked.prog.make = some .cut := Tryd.make_of Tryd.head_words
end Go.Proofs.YtpdkfidmmjlmnabDoor


namespace Go.Proofs.YtpdkfidmmjlmnabDoor
open Go.RowKit

theorem hloadLawCol0_Cx (w : World) {b : Nat} {y0 y1 y2 : Value} (c0 : w.cell? ⟨b, 0, none⟩ = some y0) (c1 : w.cell? ⟨b, 1, none⟩ = some y1) (c2 : w.cell? ⟨b, 2, none⟩ = some y2) : (Instr.loadAt 25 (.pointer (some ⟨b, 0, none⟩))).run Tryd.prog w = .ok (.agg #[y0, y1, y2]) w := by go_simp
theorem hloadLawCol_Cx {w0 : World} (w : World) {b : Nat} {p : Int} {dv mv : Value} {ds : List Int} {ms : List (List (List Int))} (h : Bx w0 w b p dv mv ds ms) : (Instr.loadAt 25 (.pointer (some ⟨b, 0, none⟩))).run Tryd.prog w = .ok (.agg #[.int .i64 p, dv, mv]) w := hloadLawCol0_Cx w h.c0 h.c1 h.c2
theorem infoLawCol (y0 y1 y2 : Value) : (Tryd.prog.info? 28).map (·.size) = some (#[y0, y1, y2] : Array Value).size := by kernel_rfl

set_option maxHeartbeats 25600000 in
set_option maxRecDepth 100000 in
theorem lawCol_any (p0 : Int) (dv0 mv0 : Value) (ds0 : List Int) (ms0 : List (List (List Int))) (p1 : Int) (dv1 mv1 : Value) (ds1 : List Int) (ms1 : List (List (List Int))) (fv2 : Value) (fs2 : List (List (List Int))) (w : World) (h0 : Cx 0 w dv0 mv0 ds0 ms0) (hdl0 : ds0.length ≤ 9223372036854775807) (hml0 : Bd3 9223372036854775807 ms0) (h1 : Cx 0 w dv1 mv1 ds1 ms1) (hdl1 : ds1.length ≤ 9223372036854775807) (hml1 : Bd3 9223372036854775807 ms1) (h2 : L3 0 w fv2 fs2) (hml2 : Bd3 9223372036854775807 fs2) {pvg : Value} (hgl : w.cell? ⟨0, 0, none⟩ = some (.iface 99 pvg)) :
    Calls Tryd.prog 3 #[.agg #[.int .i64 p0, dv0, mv0], .agg #[.int .i64 p1, dv1, mv1], fv2] w (BR (.bool true) w) := by
  obtain ⟨W0, hW0⟩ : ∃ W0, W0 = ((w.alloc (.cells #[.int .i64 p0, dv0, mv0] 25)).alloc (.cells #[.int .i64 p1, dv1, mv1] 25)) := ⟨_, rfl⟩
  have HS0 : Hid (W0.heap.size = w.heap.size + 2) := Lib.hid (by rw [hW0]; simp)
  have HZ0 : Hid (Below w.heap.size w W0) := Lib.hid (by rw [hW0]; exact (below_alloc1 _ _).trans ((below_alloc1 _ _).mono (by simp)))
  have HK0 : Hid (Bx w W0 (w.heap.size) p0 dv0 mv0 ds0 ms0) := Lib.hid (by rw [hW0]; exact (bx_two _ h0 h1).1)
  have HK1 : Hid (Bx w W0 (w.heap.size + 1) p1 dv1 mv1 ds1 ms1) := Lib.hid (by rw [hW0]; exact (bx_two _ h0 h1).2)
  have HN0 : Hid (∀ W, Below (w.heap.size + 2) W0 W → Bx w W (w.heap.size) p0 dv0 mv0 ds0 ms0) := Lib.hid (fun W hb => HK0.out.next (by rw [HS0.out]; exact hb))
  have HN1 : Hid (∀ W, Below (w.heap.size + 2) W0 W → Bx w W (w.heap.size + 1) p1 dv1 mv1 ds1 ms1) := Lib.hid (fun W hb => HK1.out.next (by rw [HS0.out]; exact hb))
  have HN2 : Hid (∀ W, Below (w.heap.size + 2) W0 W → L3 0 W fv2 fs2) := Lib.hid (fun W hb => (h2.below HZ0.out).below (by rw [HS0.out]; exact hb))
  have HNW : Hid (∀ W, Below (w.heap.size + 2) W0 W → Below w.heap.size w W) := Lib.hid (fun W hb => HZ0.out.trans (hb.mono (by omega)))
  have HB : Hid (Below (w.heap.size + 2) W0 W0) := Lib.hid (Below.refl _ _)
  have hs0 : w.heap.size + 2 ≤ W0.heap.size := by have := HS0.out; omega
  have HGL : Hid (∀ W, Below (w.heap.size + 2) W0 W → W.cell? ⟨0, 0, none⟩ = some (.iface 99 pvg)) := Lib.hid (fun W hb => later (HNW.out W hb) (Nat.le_refl _) hgl)
  clear hgl
  have HML0 := Lib.hid hml0
  have HML1 := Lib.hid hml1
  have HML2 := Lib.hid hml2
  obtain ⟨af2, cf2, ef2⟩ := Sl.shape h2
  subst ef2
  clear h0 h1 h2 hml0 hml1 hml2 HK0 HK1
  go_enter Tryd.func3, Tryd.ntmps3
  go_upto_region 1 with fail
  rw [← hW0]
  clear hW0
  have c00 := (HN0.out _ HB.out).c0
  have c01 := (HN0.out _ HB.out).c1
  have c02 := (HN0.out _ HB.out).c2
  go_wp2_with fail
  refine (szComplex_any p0 dv0 mv0 ds0 ms0 1048576 _ (HN0.out _ HB.out).cx.dims (HN0.out _ HB.out).cx.maps (by omega) (by omega) hdl0 HML0.out).mono ?_
  rintro ee wz0 ⟨sz0, rfl, hb, hpost⟩
  have hsz0 : W0.heap.size ≤ wz0.heap.size := hb.size
  have HB' := Lib.hid (HB.out.trans (hb.mono (by omega)))
  clear c00 c01 c02
  clear hb HB
  have HB := HB'
  clear HB'
  rcases hpost with rfl | ⟨hp00, hp01, hds0, hpm0⟩
  · go_wp2
    go_ret
    exact ⟨rfl, HNW.out _ HB.out⟩
  have hds0 : ds0.length ≤ 1048576 := hds0
  have HMS0 := Lib.hid hpm0
  clear hpm0
  have c10 := (HN1.out _ HB.out).c0
  have c11 := (HN1.out _ HB.out).c1
  have c12 := (HN1.out _ HB.out).c2
  go_wp2_with fail
  refine (szComplex_any p1 dv1 mv1 ds1 ms1 sz0 _ (HN1.out _ HB.out).cx.dims (HN1.out _ HB.out).cx.maps (by omega) (by omega) hdl1 HML1.out).mono ?_
  rintro ee wz1 ⟨sz1, rfl, hb, hpost⟩
  have hsz1 : wz0.heap.size ≤ wz1.heap.size := hb.size
  have HB' := Lib.hid (HB.out.trans (hb.mono (by omega)))
  clear c10 c11 c12
  clear hb HB
  have HB := HB'
  clear HB'
  rcases hpost with rfl | ⟨hp10, hp11, hds1, hpm1⟩
  · go_wp2
    go_ret
    exact ⟨rfl, HNW.out _ HB.out⟩
  have hds1 : ds1.length ≤ 1048576 := hds1
  have HMS1 := Lib.hid hpm1
  clear hpm1
  go_wp2_with fail
  refine (sz3_any _ fs2 sz1 _ (HN2.out _ HB.out) (by omega) (by omega) HML2.out).mono ?_
  rintro ee w' ⟨sz2, rfl, rfl, hpost⟩
  rcases hpost with rfl | ⟨hp20, hp21, hpm2⟩
  · go_wp2
    go_ret
    exact ⟨rfl, HNW.out _ HB.out⟩
  have HMS2 := Lib.hid hpm2
  clear hpm2
  have HQG : Hid (∀ W', Below wz1.heap.size wz1 W' → W'.cell? ⟨0, 0, none⟩ = some (.iface 99 pvg)) := Lib.hid (fun W' hb => HGL.out _ (HB.out.trans (hb.mono (by omega))))
  have HQ0 : Hid (∀ W', Below wz1.heap.size wz1 W' → Bx w W' (w.heap.size) p0 dv0 mv0 ds0 ms0) := Lib.hid (fun W' hb => HN0.out _ (HB.out.trans (hb.mono (by omega))))
  have HQ1 : Hid (∀ W', Below wz1.heap.size wz1 W' → Bx w W' (w.heap.size + 1) p1 dv1 mv1 ds1 ms1) := Lib.hid (fun W' hb => HN1.out _ (HB.out.trans (hb.mono (by omega))))
  have HQ2 : Hid (∀ W', Below wz1.heap.size wz1 W' → L3 0 W' (.slice af2 fs2.length cf2) fs2) := Lib.hid (fun W' hb => HN2.out _ (HB.out.trans (hb.mono (by omega))))
  go_upto_region 11 with fail
  go_cut [8, 9] from 20 (fun s8 s9 wz => ∃ (gS : Nat) (kS : Int) (oSp : Int) (oSd : List Int) (oSm : List (List (List Int))) (aSd : Option Addr) (cSd : Nat) (aSm : Option Addr) (cSm : Nat), s8 = .pointer (some ⟨gS, 0, none⟩) ∧ s9 = .int .i64 kS ∧ Hid (Below wz1.heap.size wz1 wz) ∧ Hid (Bq wz gS oSp (.slice aSd oSd.length cSd) (.slice aSm oSm.length cSm) oSd oSm) ∧ Hid (RsOut (fun o => o = coneOut p0 ds0 ms0 ds1 ms1 fs2) (0, [], []) (ceCode p0 p1 ds0 ms0 ds1 ms1 fs2) (oSp, oSd, oSm) kS))
  case first =>
    go_wp2
    refine wp_region_held (S := fun W => Below (wz1.heap.size) wz1 W) (by kernel_rfl) ?_
    have S0 : Below (wz1.heap.size) wz1 wz1.drew := (Below.refl _ _).drew
    have hB0 : wz1.heap.size ≤ wz1.heap.size := Nat.le_refl _
    have hsd : wz1.heap.size ≤ wz1.drew.heap.size := Nat.le_refl _
    have hbd : Below wz1.heap.size wz1 wz1.drew := (Below.refl _ _).drew
    change wpAnyH _ _ _ _ _ _ _ _ wz1.drew
    obtain ⟨wd, hwd⟩ : ∃ wd, wd = wz1.drew := ⟨_, rfl⟩
    rw [← hwd] at S0 hsd hbd ⊢
    clear hwd
    refine held_take (i := 0) (v := .agg #[.int .i64 p0, dv0, mv0]) (some 36) rfl rfl (by kernel_rfl) (by kernel_rfl) (by kernel_rfl) (fun _ _ _ h => h) (yieldsIf_cell (by kernel_rfl) rfl (by kernel_rfl) (fun W h => hloadLawCol_Cx W (HQ0.out W h))) S0 ?_
    refine held_take (i := 2) (v := .agg #[.int .i64 p1, dv1, mv1]) (some 38) rfl rfl (by kernel_rfl) (by kernel_rfl) (by kernel_rfl) (fun _ _ _ h => h) (yieldsIf_cell (by kernel_rfl) rfl (by kernel_rfl) (fun W h => hloadLawCol_Cx W (HQ1.out W h))) S0 ?_
    refine held_take (i := 4) (v := .slice af2 fs2.length cf2) (some 40) rfl rfl (by kernel_rfl) (by kernel_rfl) (by kernel_rfl) (fun _ _ _ h => h) (yieldsIf_move (by kernel_rfl) rfl (by kernel_rfl)) S0 ?_
    refine held_two (i := 1) (j := 10) (by kernel_rfl) ?_ ?_
    · refine op_enter (i := 1) (some 37) (f := 7) (args := #[.agg #[.int .i64 p0, dv0, mv0]]) rfl rfl rfl (by kernel_rfl) (toComplex_any p0 dv0 mv0 ds0 ms0 _ (HQ0.out _ S0).cx hds0 HMS0.out) ?_ (fun c w' h => by obtain ⟨_, _, he, _⟩ := h; cases he) (fun w' h => by obtain ⟨_, _, he, _⟩ := h; cases he)
      rintro ee W1 ⟨xdv0, xmv0, he, hc1, hb1⟩
      injection he with he
      subst he
      have S1 : Below (wz1.heap.size) wz1 W1 := S0.trans (hb1.mono (Nat.le_trans hB0 S0.size))
      have hx0_1 := hc1.zero
      refine ⟨S1, ?_⟩
      refine held_two (i := 3) (j := 10) (by kernel_rfl) ?_ ?_
      · refine op_enter (i := 3) (some 39) (f := 7) (args := #[.agg #[.int .i64 p1, dv1, mv1]]) rfl rfl rfl (by kernel_rfl) (toComplex_any p1 dv1 mv1 ds1 ms1 _ (HQ1.out _ S1).cx hds1 HMS1.out) ?_ (fun c w' h => by obtain ⟨_, _, he, _⟩ := h; cases he) (fun w' h => by obtain ⟨_, _, he, _⟩ := h; cases he)
        rintro ee W2 ⟨xdv1, xmv1, he, hc2, hb2⟩
        injection he with he
        subst he
        have S2 : Below (wz1.heap.size) wz1 W2 := S1.trans (hb2.mono (Nat.le_trans hB0 S1.size))
        have hx0_2 := hx0_1.below hb2
        have hx1_2 := hc2.zero
        refine ⟨S2, ?_⟩
        refine held_two (i := 5) (j := 10) (by kernel_rfl) ?_ ?_
        · refine op_enter (i := 5) (some 41) (f := 8) (args := #[.slice af2 fs2.length cf2]) rfl rfl rfl (by kernel_rfl) (to3_any _ fs2 _ (HQ2.out _ S2) HMS2.out) ?_ (fun c w' h => by obtain ⟨_, he, _⟩ := h; cases he) (fun w' h => by obtain ⟨_, he, _⟩ := h; cases he)
          rintro ee W3 ⟨xf2, he, hc3, hb3⟩
          injection he with he
          have he := he.symm
          subst he
          have S3 : Below (wz1.heap.size) wz1 W3 := S2.trans (hb3.mono (Nat.le_trans hB0 S2.size))
          have hx0_3 := hx0_2.below hb3
          have hx1_3 := hx1_2.below hb3
          have hx2_3 := hc3.lower (Nat.zero_le _)
          refine ⟨S3, ?_⟩
          refine held_two (i := 6) (j := 10) (by kernel_rfl) ?_ ?_
          · refine op_enter (i := 6) (some 42) (f := 6) (args := #[.agg #[.int .i64 p0, xdv0, xmv0], .agg #[.int .i64 p1, xdv1, xmv1], xf2]) rfl rfl rfl (by kernel_rfl) (spConeOf_any p0 p1 _ _ _ _ _ ds0 ms0 ds1 ms1 fs2 _ (hx0_3) (hx1_3) (hx2_3) hds0 HMS0.out hds1 HMS1.out HMS2.out) ?_ (fun c w' h => by obtain ⟨_, _, _, he, _⟩ := h; cases he) (fun w' h => by obtain ⟨_, _, _, he, _⟩ := h; cases he)
            rintro ee W4 ⟨u4, o4, k4, he, hr4, hb4, ho4⟩
            injection he with he
            subst he
            obtain ⟨oSp, oSd, oSm⟩ := o4
            obtain ⟨aSd, cSd, aSm, cSm, hu, hgd4, hgm4⟩ := hr4
            have hu : u4 = .agg #[.int .i64 oSp, .slice aSd oSd.length cSd, .slice aSm oSm.length cSm] := hu
            subst hu
            have S4 : Below (wz1.heap.size) wz1 W4 := S3.trans (hb4.mono (Nat.le_trans hB0 S3.size))
            refine ⟨S4, ?_⟩
            refine held_take (i := 7) (v := .tuple #[.agg #[.int .i64 oSp, .slice aSd oSd.length cSd, .slice aSm oSm.length cSm], .int .i64 k4]) (some 35) rfl rfl (by kernel_rfl) (by kernel_rfl) (by kernel_rfl) (fun _ _ _ h => h) (yieldsIf_move (by kernel_rfl) rfl (by kernel_rfl)) S4 ?_
            refine held_take (i := 8) (v := .agg #[.int .i64 oSp, .slice aSd oSd.length cSd, .slice aSm oSm.length cSm]) (some 43) rfl rfl (by kernel_rfl) (by kernel_rfl) (by kernel_rfl) (fun _ _ _ h => h) (yieldsIf_run (by kernel_rfl) (fun W _ => by kernel_rfl)) S4 ?_
            refine held_take (i := 9) (v := .int .i64 k4) (some 44) rfl rfl (by kernel_rfl) (by kernel_rfl) (by kernel_rfl) (fun _ _ _ h => h) (yieldsIf_run (by kernel_rfl) (fun W _ => by kernel_rfl)) S4 ?_
            refine held_one (i := 10) (by kernel_rfl) ?_
            · obtain ⟨W5, hW5⟩ : ∃ W', W' = W4.alloc (.cells #[.int .i64 0, .slice none 0 0, .slice none 0 0] 28) := ⟨_, rfl⟩
              have hb5 : Below W4.heap.size W4 W5 := by rw [hW5]; exact below_alloc1 _ _
              have hAR5 : Rz W5 W4.heap.size 28 #[.int .i64 0, .slice none 0 0, .slice none 0 0] := by rw [hW5]; exact Rz.new _ _ _
              have S5 : Below (wz1.heap.size) wz1 W5 := S4.trans (hb5.mono (Nat.le_trans hB0 S4.size))
              have hGR : wz1.heap.size ≤ W4.heap.size := Nat.le_trans hB0 S4.size
              have hgd_5 := hgd4.below hb5
              have hgm_5 := hgm4.below hb5
              refine op_mem (i := 10) (v := .pointer (some ⟨W4.heap.size, 0, none⟩)) (w' := W5) (some 8) rfl rfl rfl (by rw [hW5]; go_simp) ?_
              refine ⟨S5, ?_⟩
              have hAR := hAR5
              have S6 : Below (wz1.heap.size) wz1 (W5.setRow (W4.heap.size) #[.int .i64 oSp, .slice aSd oSd.length cSd, .slice aSm oSm.length cSm]) := below_setRow S5 hGR _
              refine held_one (i := 11) (by kernel_rfl) ?_
              refine op_row (i := 11) rfl rfl rfl 28 (.tmp 8) (.tmp 43) rfl (W4.heap.size) #[.int .i64 oSp, .slice aSd oSd.length cSd, .slice aSm oSm.length cSm] (by kernel_rfl) (by kernel_rfl) 28 _ hAR5 (infoLawCol _ _ _) (by kernel_rfl) (by kernel_rfl) ?_
              refine ⟨S6, ?_⟩
              have hAR6 := hAR5.set #[.int .i64 oSp, .slice aSd oSd.length cSd, .slice aSm oSm.length cSm]
              refine held_take (i := 12) (v := .int .i64 k4) (some 9) rfl rfl (by kernel_rfl) (by kernel_rfl) (by kernel_rfl) (fun _ _ _ h => h) (yieldsIf_assign (by kernel_rfl) rfl (by kernel_rfl)) S6 ?_
              refine wpAnyH_done (by kernel_rfl) ?_ _
              simp only [Act.put, List.setIfInBounds_toArray, List.set_cons_zero, List.set_cons_succ]
              obtain ⟨WF, hWF⟩ : ∃ WF, WF = (W5.setRow (W4.heap.size) #[.int .i64 oSp, .slice aSd oSd.length cSd, .slice aSm oSm.length cSm]) := ⟨_, rfl⟩
              have hbf : Below wz1.heap.size wz1 WF := by rw [hWF]; exact S6
              have hrf : Rz WF (W4.heap.size) 28 #[.int .i64 oSp, .slice aSd oSd.length cSd, .slice aSm oSm.length cSm] := by rw [hWF]; exact hAR6
              have hGd := hgd_5.offRowC hAR (by decide) #[.int .i64 oSp, .slice aSd oSd.length cSd, .slice aSm oSm.length cSm]
              have hGm := hgm_5.offRowC hAR (by decide) #[.int .i64 oSp, .slice aSd oSd.length cSd, .slice aSm oSm.length cSm]
              rw [← hWF] at hGd hGm
              rw [← hWF]
              clear hWF
              go_wp2
              go_meet
              exact ⟨_, k4, oSp, oSd, oSm, aSd, cSd, aSm, cSm, rfl, rfl, Lib.hid hbf, Lib.hid ⟨hrf.cell rfl, hrf.cell rfl, hrf.cell rfl, hrf.lt, ⟨hGd.l1, hGm.l3⟩⟩, Lib.hid ho4⟩
          · obtain ⟨W7, hW7⟩ : ∃ W', W' = W3.alloc (.cells #[.int .i64 0, .slice none 0 0, .slice none 0 0] 28) := ⟨_, rfl⟩
            have hb7 : Below W3.heap.size W3 W7 := by rw [hW7]; exact below_alloc1 _ _
            have hAR7 : Rz W7 W3.heap.size 28 #[.int .i64 0, .slice none 0 0, .slice none 0 0] := by rw [hW7]; exact Rz.new _ _ _
            have S7 : Below (wz1.heap.size) wz1 W7 := S3.trans (hb7.mono (Nat.le_trans hB0 S3.size))
            have hGR : wz1.heap.size ≤ W3.heap.size := Nat.le_trans hB0 S3.size
            have hx0_7 := hx0_3.below hb7
            have hx1_7 := hx1_3.below hb7
            have hx2_7 := hx2_3.below hb7
            refine op_mem (i := 10) (v := .pointer (some ⟨W3.heap.size, 0, none⟩)) (w' := W7) (some 8) rfl rfl rfl (by rw [hW7]; go_simp) ?_
            refine ⟨S7, ?_⟩
            refine held_one (i := 6) (by kernel_rfl) ?_
            · refine op_enter (i := 6) (some 42) (f := 6) (args := #[.agg #[.int .i64 p0, xdv0, xmv0], .agg #[.int .i64 p1, xdv1, xmv1], xf2]) rfl rfl rfl (by kernel_rfl) (spConeOf_any p0 p1 _ _ _ _ _ ds0 ms0 ds1 ms1 fs2 _ (hx0_7) (hx1_7) (hx2_7) hds0 HMS0.out hds1 HMS1.out HMS2.out) ?_ (fun c w' h => by obtain ⟨_, _, _, he, _⟩ := h; cases he) (fun w' h => by obtain ⟨_, _, _, he, _⟩ := h; cases he)
              rintro ee W8 ⟨u8, o8, k8, he, hr8, hb8, ho8⟩
              injection he with he
              subst he
              obtain ⟨oSp, oSd, oSm⟩ := o8
              obtain ⟨aSd, cSd, aSm, cSm, hu, hgd8, hgm8⟩ := hr8
              have hu : u8 = .agg #[.int .i64 oSp, .slice aSd oSd.length cSd, .slice aSm oSm.length cSm] := hu
              subst hu
              have S8 : Below (wz1.heap.size) wz1 W8 := S7.trans (hb8.mono (Nat.le_trans hB0 S7.size))
              have hAR8 := hAR7.next hb8
              refine ⟨S8, ?_⟩
              refine held_take (i := 7) (v := .tuple #[.agg #[.int .i64 oSp, .slice aSd oSd.length cSd, .slice aSm oSm.length cSm], .int .i64 k8]) (some 35) rfl rfl (by kernel_rfl) (by kernel_rfl) (by kernel_rfl) (fun _ _ _ h => h) (yieldsIf_move (by kernel_rfl) rfl (by kernel_rfl)) S8 ?_
              refine held_take (i := 8) (v := .agg #[.int .i64 oSp, .slice aSd oSd.length cSd, .slice aSm oSm.length cSm]) (some 43) rfl rfl (by kernel_rfl) (by kernel_rfl) (by kernel_rfl) (fun _ _ _ h => h) (yieldsIf_run (by kernel_rfl) (fun W _ => by kernel_rfl)) S8 ?_
              refine held_take (i := 9) (v := .int .i64 k8) (some 44) rfl rfl (by kernel_rfl) (by kernel_rfl) (by kernel_rfl) (fun _ _ _ h => h) (yieldsIf_run (by kernel_rfl) (fun W _ => by kernel_rfl)) S8 ?_
              have hAR := hAR8
              have S9 : Below (wz1.heap.size) wz1 (W8.setRow (W3.heap.size) #[.int .i64 oSp, .slice aSd oSd.length cSd, .slice aSm oSm.length cSm]) := below_setRow S8 hGR _
              refine held_one (i := 11) (by kernel_rfl) ?_
              refine op_row (i := 11) rfl rfl rfl 28 (.tmp 8) (.tmp 43) rfl (W3.heap.size) #[.int .i64 oSp, .slice aSd oSd.length cSd, .slice aSm oSm.length cSm] (by kernel_rfl) (by kernel_rfl) 28 _ hAR8 (infoLawCol _ _ _) (by kernel_rfl) (by kernel_rfl) ?_
              refine ⟨S9, ?_⟩
              have hAR9 := hAR8.set #[.int .i64 oSp, .slice aSd oSd.length cSd, .slice aSm oSm.length cSm]
              refine held_take (i := 12) (v := .int .i64 k8) (some 9) rfl rfl (by kernel_rfl) (by kernel_rfl) (by kernel_rfl) (fun _ _ _ h => h) (yieldsIf_assign (by kernel_rfl) rfl (by kernel_rfl)) S9 ?_
              refine wpAnyH_done (by kernel_rfl) ?_ _
              simp only [Act.put, List.setIfInBounds_toArray, List.set_cons_zero, List.set_cons_succ]
              obtain ⟨WF, hWF⟩ : ∃ WF, WF = (W8.setRow (W3.heap.size) #[.int .i64 oSp, .slice aSd oSd.length cSd, .slice aSm oSm.length cSm]) := ⟨_, rfl⟩
              have hbf : Below wz1.heap.size wz1 WF := by rw [hWF]; exact S9
              have hrf : Rz WF (W3.heap.size) 28 #[.int .i64 oSp, .slice aSd oSd.length cSd, .slice aSm oSm.length cSm] := by rw [hWF]; exact hAR9
              have hGd := hgd8.offRowC hAR (by decide) #[.int .i64 oSp, .slice aSd oSd.length cSd, .slice aSm oSm.length cSm]
              have hGm := hgm8.offRowC hAR (by decide) #[.int .i64 oSp, .slice aSd oSd.length cSd, .slice aSm oSm.length cSm]
              rw [← hWF] at hGd hGm
              rw [← hWF]
              clear hWF
              go_wp2
              go_meet
              exact ⟨_, k8, oSp, oSd, oSm, aSd, cSd, aSm, cSm, rfl, rfl, Lib.hid hbf, Lib.hid ⟨hrf.cell rfl, hrf.cell rfl, hrf.cell rfl, hrf.lt, ⟨hGd.l1, hGm.l3⟩⟩, Lib.hid ho8⟩
        · obtain ⟨W10, hW10⟩ : ∃ W', W' = W2.alloc (.cells #[.int .i64 0, .slice none 0 0, .slice none 0 0] 28) := ⟨_, rfl⟩
          have hb10 : Below W2.heap.size W2 W10 := by rw [hW10]; exact below_alloc1 _ _
          have hAR10 : Rz W10 W2.heap.size 28 #[.int .i64 0, .slice none 0 0, .slice none 0 0] := by rw [hW10]; exact Rz.new _ _ _
          have S10 : Below (wz1.heap.size) wz1 W10 := S2.trans (hb10.mono (Nat.le_trans hB0 S2.size))
          have hGR : wz1.heap.size ≤ W2.heap.size := Nat.le_trans hB0 S2.size
          have hx0_10 := hx0_2.below hb10
          have hx1_10 := hx1_2.below hb10
          refine op_mem (i := 10) (v := .pointer (some ⟨W2.heap.size, 0, none⟩)) (w' := W10) (some 8) rfl rfl rfl (by rw [hW10]; go_simp) ?_
          refine ⟨S10, ?_⟩
          refine held_one (i := 5) (by kernel_rfl) ?_
          · refine op_enter (i := 5) (some 41) (f := 8) (args := #[.slice af2 fs2.length cf2]) rfl rfl rfl (by kernel_rfl) (to3_any _ fs2 _ (HQ2.out _ S10) HMS2.out) ?_ (fun c w' h => by obtain ⟨_, he, _⟩ := h; cases he) (fun w' h => by obtain ⟨_, he, _⟩ := h; cases he)
            rintro ee W11 ⟨xf2, he, hc11, hb11⟩
            injection he with he
            have he := he.symm
            subst he
            have S11 : Below (wz1.heap.size) wz1 W11 := S10.trans (hb11.mono (Nat.le_trans hB0 S10.size))
            have hAR11 := hAR10.next hb11
            have hx0_11 := hx0_10.below hb11
            have hx1_11 := hx1_10.below hb11
            have hx2_11 := hc11.lower (Nat.zero_le _)
            refine ⟨S11, ?_⟩
            refine held_one (i := 6) (by kernel_rfl) ?_
            · refine op_enter (i := 6) (some 42) (f := 6) (args := #[.agg #[.int .i64 p0, xdv0, xmv0], .agg #[.int .i64 p1, xdv1, xmv1], xf2]) rfl rfl rfl (by kernel_rfl) (spConeOf_any p0 p1 _ _ _ _ _ ds0 ms0 ds1 ms1 fs2 _ (hx0_11) (hx1_11) (hx2_11) hds0 HMS0.out hds1 HMS1.out HMS2.out) ?_ (fun c w' h => by obtain ⟨_, _, _, he, _⟩ := h; cases he) (fun w' h => by obtain ⟨_, _, _, he, _⟩ := h; cases he)
              rintro ee W12 ⟨u12, o12, k12, he, hr12, hb12, ho12⟩
              injection he with he
              subst he
              obtain ⟨oSp, oSd, oSm⟩ := o12
              obtain ⟨aSd, cSd, aSm, cSm, hu, hgd12, hgm12⟩ := hr12
              have hu : u12 = .agg #[.int .i64 oSp, .slice aSd oSd.length cSd, .slice aSm oSm.length cSm] := hu
              subst hu
              have S12 : Below (wz1.heap.size) wz1 W12 := S11.trans (hb12.mono (Nat.le_trans hB0 S11.size))
              have hAR12 := hAR11.next hb12
              refine ⟨S12, ?_⟩
              refine held_take (i := 7) (v := .tuple #[.agg #[.int .i64 oSp, .slice aSd oSd.length cSd, .slice aSm oSm.length cSm], .int .i64 k12]) (some 35) rfl rfl (by kernel_rfl) (by kernel_rfl) (by kernel_rfl) (fun _ _ _ h => h) (yieldsIf_move (by kernel_rfl) rfl (by kernel_rfl)) S12 ?_
              refine held_take (i := 8) (v := .agg #[.int .i64 oSp, .slice aSd oSd.length cSd, .slice aSm oSm.length cSm]) (some 43) rfl rfl (by kernel_rfl) (by kernel_rfl) (by kernel_rfl) (fun _ _ _ h => h) (yieldsIf_run (by kernel_rfl) (fun W _ => by kernel_rfl)) S12 ?_
              refine held_take (i := 9) (v := .int .i64 k12) (some 44) rfl rfl (by kernel_rfl) (by kernel_rfl) (by kernel_rfl) (fun _ _ _ h => h) (yieldsIf_run (by kernel_rfl) (fun W _ => by kernel_rfl)) S12 ?_
              have hAR := hAR12
              have S13 : Below (wz1.heap.size) wz1 (W12.setRow (W2.heap.size) #[.int .i64 oSp, .slice aSd oSd.length cSd, .slice aSm oSm.length cSm]) := below_setRow S12 hGR _
              refine held_one (i := 11) (by kernel_rfl) ?_
              refine op_row (i := 11) rfl rfl rfl 28 (.tmp 8) (.tmp 43) rfl (W2.heap.size) #[.int .i64 oSp, .slice aSd oSd.length cSd, .slice aSm oSm.length cSm] (by kernel_rfl) (by kernel_rfl) 28 _ hAR12 (infoLawCol _ _ _) (by kernel_rfl) (by kernel_rfl) ?_
              refine ⟨S13, ?_⟩
              have hAR13 := hAR12.set #[.int .i64 oSp, .slice aSd oSd.length cSd, .slice aSm oSm.length cSm]
              refine held_take (i := 12) (v := .int .i64 k12) (some 9) rfl rfl (by kernel_rfl) (by kernel_rfl) (by kernel_rfl) (fun _ _ _ h => h) (yieldsIf_assign (by kernel_rfl) rfl (by kernel_rfl)) S13 ?_
              refine wpAnyH_done (by kernel_rfl) ?_ _
              simp only [Act.put, List.setIfInBounds_toArray, List.set_cons_zero, List.set_cons_succ]
              obtain ⟨WF, hWF⟩ : ∃ WF, WF = (W12.setRow (W2.heap.size) #[.int .i64 oSp, .slice aSd oSd.length cSd, .slice aSm oSm.length cSm]) := ⟨_, rfl⟩
              have hbf : Below wz1.heap.size wz1 WF := by rw [hWF]; exact S13
              have hrf : Rz WF (W2.heap.size) 28 #[.int .i64 oSp, .slice aSd oSd.length cSd, .slice aSm oSm.length cSm] := by rw [hWF]; exact hAR13
              have hGd := hgd12.offRowC hAR (by decide) #[.int .i64 oSp, .slice aSd oSd.length cSd, .slice aSm oSm.length cSm]
              have hGm := hgm12.offRowC hAR (by decide) #[.int .i64 oSp, .slice aSd oSd.length cSd, .slice aSm oSm.length cSm]
              rw [← hWF] at hGd hGm
              rw [← hWF]
              clear hWF
              go_wp2
              go_meet
              exact ⟨_, k12, oSp, oSd, oSm, aSd, cSd, aSm, cSm, rfl, rfl, Lib.hid hbf, Lib.hid ⟨hrf.cell rfl, hrf.cell rfl, hrf.cell rfl, hrf.lt, ⟨hGd.l1, hGm.l3⟩⟩, Lib.hid ho12⟩
      · obtain ⟨W14, hW14⟩ : ∃ W', W' = W1.alloc (.cells #[.int .i64 0, .slice none 0 0, .slice none 0 0] 28) := ⟨_, rfl⟩
        have hb14 : Below W1.heap.size W1 W14 := by rw [hW14]; exact below_alloc1 _ _
        have hAR14 : Rz W14 W1.heap.size 28 #[.int .i64 0, .slice none 0 0, .slice none 0 0] := by rw [hW14]; exact Rz.new _ _ _
        have S14 : Below (wz1.heap.size) wz1 W14 := S1.trans (hb14.mono (Nat.le_trans hB0 S1.size))
        have hGR : wz1.heap.size ≤ W1.heap.size := Nat.le_trans hB0 S1.size
        have hx0_14 := hx0_1.below hb14
        refine op_mem (i := 10) (v := .pointer (some ⟨W1.heap.size, 0, none⟩)) (w' := W14) (some 8) rfl rfl rfl (by rw [hW14]; go_simp) ?_
        refine ⟨S14, ?_⟩
        refine held_one (i := 3) (by kernel_rfl) ?_
        · refine op_enter (i := 3) (some 39) (f := 7) (args := #[.agg #[.int .i64 p1, dv1, mv1]]) rfl rfl rfl (by kernel_rfl) (toComplex_any p1 dv1 mv1 ds1 ms1 _ (HQ1.out _ S14).cx hds1 HMS1.out) ?_ (fun c w' h => by obtain ⟨_, _, he, _⟩ := h; cases he) (fun w' h => by obtain ⟨_, _, he, _⟩ := h; cases he)
          rintro ee W15 ⟨xdv1, xmv1, he, hc15, hb15⟩
          injection he with he
          subst he
          have S15 : Below (wz1.heap.size) wz1 W15 := S14.trans (hb15.mono (Nat.le_trans hB0 S14.size))
          have hAR15 := hAR14.next hb15
          have hx0_15 := hx0_14.below hb15
          have hx1_15 := hc15.zero
          refine ⟨S15, ?_⟩
          refine held_one (i := 5) (by kernel_rfl) ?_
          · refine op_enter (i := 5) (some 41) (f := 8) (args := #[.slice af2 fs2.length cf2]) rfl rfl rfl (by kernel_rfl) (to3_any _ fs2 _ (HQ2.out _ S15) HMS2.out) ?_ (fun c w' h => by obtain ⟨_, he, _⟩ := h; cases he) (fun w' h => by obtain ⟨_, he, _⟩ := h; cases he)
            rintro ee W16 ⟨xf2, he, hc16, hb16⟩
            injection he with he
            have he := he.symm
            subst he
            have S16 : Below (wz1.heap.size) wz1 W16 := S15.trans (hb16.mono (Nat.le_trans hB0 S15.size))
            have hAR16 := hAR15.next hb16
            have hx0_16 := hx0_15.below hb16
            have hx1_16 := hx1_15.below hb16
            have hx2_16 := hc16.lower (Nat.zero_le _)
            refine ⟨S16, ?_⟩
            refine held_one (i := 6) (by kernel_rfl) ?_
            · refine op_enter (i := 6) (some 42) (f := 6) (args := #[.agg #[.int .i64 p0, xdv0, xmv0], .agg #[.int .i64 p1, xdv1, xmv1], xf2]) rfl rfl rfl (by kernel_rfl) (spConeOf_any p0 p1 _ _ _ _ _ ds0 ms0 ds1 ms1 fs2 _ (hx0_16) (hx1_16) (hx2_16) hds0 HMS0.out hds1 HMS1.out HMS2.out) ?_ (fun c w' h => by obtain ⟨_, _, _, he, _⟩ := h; cases he) (fun w' h => by obtain ⟨_, _, _, he, _⟩ := h; cases he)
              rintro ee W17 ⟨u17, o17, k17, he, hr17, hb17, ho17⟩
              injection he with he
              subst he
              obtain ⟨oSp, oSd, oSm⟩ := o17
              obtain ⟨aSd, cSd, aSm, cSm, hu, hgd17, hgm17⟩ := hr17
              have hu : u17 = .agg #[.int .i64 oSp, .slice aSd oSd.length cSd, .slice aSm oSm.length cSm] := hu
              subst hu
              have S17 : Below (wz1.heap.size) wz1 W17 := S16.trans (hb17.mono (Nat.le_trans hB0 S16.size))
              have hAR17 := hAR16.next hb17
              refine ⟨S17, ?_⟩
              refine held_take (i := 7) (v := .tuple #[.agg #[.int .i64 oSp, .slice aSd oSd.length cSd, .slice aSm oSm.length cSm], .int .i64 k17]) (some 35) rfl rfl (by kernel_rfl) (by kernel_rfl) (by kernel_rfl) (fun _ _ _ h => h) (yieldsIf_move (by kernel_rfl) rfl (by kernel_rfl)) S17 ?_
              refine held_take (i := 8) (v := .agg #[.int .i64 oSp, .slice aSd oSd.length cSd, .slice aSm oSm.length cSm]) (some 43) rfl rfl (by kernel_rfl) (by kernel_rfl) (by kernel_rfl) (fun _ _ _ h => h) (yieldsIf_run (by kernel_rfl) (fun W _ => by kernel_rfl)) S17 ?_
              refine held_take (i := 9) (v := .int .i64 k17) (some 44) rfl rfl (by kernel_rfl) (by kernel_rfl) (by kernel_rfl) (fun _ _ _ h => h) (yieldsIf_run (by kernel_rfl) (fun W _ => by kernel_rfl)) S17 ?_
              have hAR := hAR17
              have S18 : Below (wz1.heap.size) wz1 (W17.setRow (W1.heap.size) #[.int .i64 oSp, .slice aSd oSd.length cSd, .slice aSm oSm.length cSm]) := below_setRow S17 hGR _
              refine held_one (i := 11) (by kernel_rfl) ?_
              refine op_row (i := 11) rfl rfl rfl 28 (.tmp 8) (.tmp 43) rfl (W1.heap.size) #[.int .i64 oSp, .slice aSd oSd.length cSd, .slice aSm oSm.length cSm] (by kernel_rfl) (by kernel_rfl) 28 _ hAR17 (infoLawCol _ _ _) (by kernel_rfl) (by kernel_rfl) ?_
              refine ⟨S18, ?_⟩
              have hAR18 := hAR17.set #[.int .i64 oSp, .slice aSd oSd.length cSd, .slice aSm oSm.length cSm]
              refine held_take (i := 12) (v := .int .i64 k17) (some 9) rfl rfl (by kernel_rfl) (by kernel_rfl) (by kernel_rfl) (fun _ _ _ h => h) (yieldsIf_assign (by kernel_rfl) rfl (by kernel_rfl)) S18 ?_
              refine wpAnyH_done (by kernel_rfl) ?_ _
              simp only [Act.put, List.setIfInBounds_toArray, List.set_cons_zero, List.set_cons_succ]
              obtain ⟨WF, hWF⟩ : ∃ WF, WF = (W17.setRow (W1.heap.size) #[.int .i64 oSp, .slice aSd oSd.length cSd, .slice aSm oSm.length cSm]) := ⟨_, rfl⟩
              have hbf : Below wz1.heap.size wz1 WF := by rw [hWF]; exact S18
              have hrf : Rz WF (W1.heap.size) 28 #[.int .i64 oSp, .slice aSd oSd.length cSd, .slice aSm oSm.length cSm] := by rw [hWF]; exact hAR18
              have hGd := hgd17.offRowC hAR (by decide) #[.int .i64 oSp, .slice aSd oSd.length cSd, .slice aSm oSm.length cSm]
              have hGm := hgm17.offRowC hAR (by decide) #[.int .i64 oSp, .slice aSd oSd.length cSd, .slice aSm oSm.length cSm]
              rw [← hWF] at hGd hGm
              rw [← hWF]
              clear hWF
              go_wp2
              go_meet
              exact ⟨_, k17, oSp, oSd, oSm, aSd, cSd, aSm, cSm, rfl, rfl, Lib.hid hbf, Lib.hid ⟨hrf.cell rfl, hrf.cell rfl, hrf.cell rfl, hrf.lt, ⟨hGd.l1, hGm.l3⟩⟩, Lib.hid ho17⟩
    · obtain ⟨W19, hW19⟩ : ∃ W', W' = wd.alloc (.cells #[.int .i64 0, .slice none 0 0, .slice none 0 0] 28) := ⟨_, rfl⟩
      have hb19 : Below wd.heap.size wd W19 := by rw [hW19]; exact below_alloc1 _ _
      have hAR19 : Rz W19 wd.heap.size 28 #[.int .i64 0, .slice none 0 0, .slice none 0 0] := by rw [hW19]; exact Rz.new _ _ _
      have S19 : Below (wz1.heap.size) wz1 W19 := S0.trans (hb19.mono (Nat.le_trans hB0 S0.size))
      have hGR : wz1.heap.size ≤ wd.heap.size := Nat.le_trans hB0 S0.size
      refine op_mem (i := 10) (v := .pointer (some ⟨wd.heap.size, 0, none⟩)) (w' := W19) (some 8) rfl rfl rfl (by rw [hW19]; go_simp) ?_
      refine ⟨S19, ?_⟩
      refine held_one (i := 1) (by kernel_rfl) ?_
      · refine op_enter (i := 1) (some 37) (f := 7) (args := #[.agg #[.int .i64 p0, dv0, mv0]]) rfl rfl rfl (by kernel_rfl) (toComplex_any p0 dv0 mv0 ds0 ms0 _ (HQ0.out _ S19).cx hds0 HMS0.out) ?_ (fun c w' h => by obtain ⟨_, _, he, _⟩ := h; cases he) (fun w' h => by obtain ⟨_, _, he, _⟩ := h; cases he)
        rintro ee W20 ⟨xdv0, xmv0, he, hc20, hb20⟩
        injection he with he
        subst he
        have S20 : Below (wz1.heap.size) wz1 W20 := S19.trans (hb20.mono (Nat.le_trans hB0 S19.size))
        have hAR20 := hAR19.next hb20
        have hx0_20 := hc20.zero
        refine ⟨S20, ?_⟩
        refine held_one (i := 3) (by kernel_rfl) ?_
        · refine op_enter (i := 3) (some 39) (f := 7) (args := #[.agg #[.int .i64 p1, dv1, mv1]]) rfl rfl rfl (by kernel_rfl) (toComplex_any p1 dv1 mv1 ds1 ms1 _ (HQ1.out _ S20).cx hds1 HMS1.out) ?_ (fun c w' h => by obtain ⟨_, _, he, _⟩ := h; cases he) (fun w' h => by obtain ⟨_, _, he, _⟩ := h; cases he)
          rintro ee W21 ⟨xdv1, xmv1, he, hc21, hb21⟩
          injection he with he
          subst he
          have S21 : Below (wz1.heap.size) wz1 W21 := S20.trans (hb21.mono (Nat.le_trans hB0 S20.size))
          have hAR21 := hAR20.next hb21
          have hx0_21 := hx0_20.below hb21
          have hx1_21 := hc21.zero
          refine ⟨S21, ?_⟩
          refine held_one (i := 5) (by kernel_rfl) ?_
          · refine op_enter (i := 5) (some 41) (f := 8) (args := #[.slice af2 fs2.length cf2]) rfl rfl rfl (by kernel_rfl) (to3_any _ fs2 _ (HQ2.out _ S21) HMS2.out) ?_ (fun c w' h => by obtain ⟨_, he, _⟩ := h; cases he) (fun w' h => by obtain ⟨_, he, _⟩ := h; cases he)
            rintro ee W22 ⟨xf2, he, hc22, hb22⟩
            injection he with he
            have he := he.symm
            subst he
            have S22 : Below (wz1.heap.size) wz1 W22 := S21.trans (hb22.mono (Nat.le_trans hB0 S21.size))
            have hAR22 := hAR21.next hb22
            have hx0_22 := hx0_21.below hb22
            have hx1_22 := hx1_21.below hb22
            have hx2_22 := hc22.lower (Nat.zero_le _)
            refine ⟨S22, ?_⟩
            refine held_one (i := 6) (by kernel_rfl) ?_
            · refine op_enter (i := 6) (some 42) (f := 6) (args := #[.agg #[.int .i64 p0, xdv0, xmv0], .agg #[.int .i64 p1, xdv1, xmv1], xf2]) rfl rfl rfl (by kernel_rfl) (spConeOf_any p0 p1 _ _ _ _ _ ds0 ms0 ds1 ms1 fs2 _ (hx0_22) (hx1_22) (hx2_22) hds0 HMS0.out hds1 HMS1.out HMS2.out) ?_ (fun c w' h => by obtain ⟨_, _, _, he, _⟩ := h; cases he) (fun w' h => by obtain ⟨_, _, _, he, _⟩ := h; cases he)
              rintro ee W23 ⟨u23, o23, k23, he, hr23, hb23, ho23⟩
              injection he with he
              subst he
              obtain ⟨oSp, oSd, oSm⟩ := o23
              obtain ⟨aSd, cSd, aSm, cSm, hu, hgd23, hgm23⟩ := hr23
              have hu : u23 = .agg #[.int .i64 oSp, .slice aSd oSd.length cSd, .slice aSm oSm.length cSm] := hu
              subst hu
              have S23 : Below (wz1.heap.size) wz1 W23 := S22.trans (hb23.mono (Nat.le_trans hB0 S22.size))
              have hAR23 := hAR22.next hb23
              refine ⟨S23, ?_⟩
              refine held_take (i := 7) (v := .tuple #[.agg #[.int .i64 oSp, .slice aSd oSd.length cSd, .slice aSm oSm.length cSm], .int .i64 k23]) (some 35) rfl rfl (by kernel_rfl) (by kernel_rfl) (by kernel_rfl) (fun _ _ _ h => h) (yieldsIf_move (by kernel_rfl) rfl (by kernel_rfl)) S23 ?_
              refine held_take (i := 8) (v := .agg #[.int .i64 oSp, .slice aSd oSd.length cSd, .slice aSm oSm.length cSm]) (some 43) rfl rfl (by kernel_rfl) (by kernel_rfl) (by kernel_rfl) (fun _ _ _ h => h) (yieldsIf_run (by kernel_rfl) (fun W _ => by kernel_rfl)) S23 ?_
              refine held_take (i := 9) (v := .int .i64 k23) (some 44) rfl rfl (by kernel_rfl) (by kernel_rfl) (by kernel_rfl) (fun _ _ _ h => h) (yieldsIf_run (by kernel_rfl) (fun W _ => by kernel_rfl)) S23 ?_
              have hAR := hAR23
              have S24 : Below (wz1.heap.size) wz1 (W23.setRow (wd.heap.size) #[.int .i64 oSp, .slice aSd oSd.length cSd, .slice aSm oSm.length cSm]) := below_setRow S23 hGR _
              refine held_one (i := 11) (by kernel_rfl) ?_
              refine op_row (i := 11) rfl rfl rfl 28 (.tmp 8) (.tmp 43) rfl (wd.heap.size) #[.int .i64 oSp, .slice aSd oSd.length cSd, .slice aSm oSm.length cSm] (by kernel_rfl) (by kernel_rfl) 28 _ hAR23 (infoLawCol _ _ _) (by kernel_rfl) (by kernel_rfl) ?_
              refine ⟨S24, ?_⟩
              have hAR24 := hAR23.set #[.int .i64 oSp, .slice aSd oSd.length cSd, .slice aSm oSm.length cSm]
              refine held_take (i := 12) (v := .int .i64 k23) (some 9) rfl rfl (by kernel_rfl) (by kernel_rfl) (by kernel_rfl) (fun _ _ _ h => h) (yieldsIf_assign (by kernel_rfl) rfl (by kernel_rfl)) S24 ?_
              refine wpAnyH_done (by kernel_rfl) ?_ _
              simp only [Act.put, List.setIfInBounds_toArray, List.set_cons_zero, List.set_cons_succ]
              obtain ⟨WF, hWF⟩ : ∃ WF, WF = (W23.setRow (wd.heap.size) #[.int .i64 oSp, .slice aSd oSd.length cSd, .slice aSm oSm.length cSm]) := ⟨_, rfl⟩
              have hbf : Below wz1.heap.size wz1 WF := by rw [hWF]; exact S24
              have hrf : Rz WF (wd.heap.size) 28 #[.int .i64 oSp, .slice aSd oSd.length cSd, .slice aSm oSm.length cSm] := by rw [hWF]; exact hAR24
              have hGd := hgd23.offRowC hAR (by decide) #[.int .i64 oSp, .slice aSd oSd.length cSd, .slice aSm oSm.length cSm]
              have hGm := hgm23.offRowC hAR (by decide) #[.int .i64 oSp, .slice aSd oSd.length cSd, .slice aSm oSm.length cSm]
              rw [← hWF] at hGd hGm
              rw [← hWF]
              clear hWF
              go_wp2
              go_meet
              exact ⟨_, k23, oSp, oSd, oSm, aSd, cSd, aSm, cSm, rfl, rfl, Lib.hid hbf, Lib.hid ⟨hrf.cell rfl, hrf.cell rfl, hrf.cell rfl, hrf.lt, ⟨hGd.l1, hGm.l3⟩⟩, Lib.hid ho23⟩
  case rest =>
    obtain ⟨gS, kS, oSp, oSd, oSm, aSd, cSd, aSm, cSm, rfl, rfl, HBz, HYS, HOS⟩ := hcut
    obtain ⟨wS, hwS⟩ : ∃ wS : World, wS = wc := ⟨_, rfl⟩
    subst hwS
    have hsS : wz1.heap.size ≤ wS.heap.size := HBz.out.size
    have hb := HBz.out
    clear HBz HQ0 HQ1 HQ2 HQG
    have HB' := Lib.hid (HB.out.trans (hb.mono (by omega)))
    clear hb HB
    have HB := HB'
    clear HB'
    have HBD : Hid (CoB (oSp, oSd, oSm)) := Lib.hid (HOS.out.all (Q := CoB) ⟨by simp, by simp, by simp⟩ (fun h0 a ha => by rw [show a = _ from ha]; exact cn_bd h0))
    have hbd1 : oSd.length ≤ 1048576 := HBD.out.1
    have HK : Hid (Below wS.heap.size wS wS) := Lib.hid (Below.refl _ _)
    have c00 := (HN0.out _ HB.out).c0
    have c01 := (HN0.out _ HB.out).c1
    have c02 := (HN0.out _ HB.out).c2
    go_wp2_with fail
    refine (toComplexw_any p0 dv0 mv0 ds0 ms0 _ (HN0.out _ HB.out).cx hds0 HMS0.out).mono ?_
    rintro ee wc0 ⟨ydv0, ymv0, rfl, hc, hb⟩
    have hsc0 : wS.heap.size ≤ wc0.heap.size := hb.size
    clear c00 c01 c02
    have HB' := Lib.hid (HB.out.trans (hb.mono (by omega)))
    have HK' := Lib.hid (HK.out.trans (hb.mono (by omega)))
    clear hb HB HK
    have HB := HB'
    have HK := HK'
    clear HB' HK'
    have HC0 := Lib.hid hc
    obtain ⟨⟨ya0, yc0, rfl⟩, ⟨yb0, ye0, rfl⟩⟩ := hc.cx.shapes
    clear hc
    obtain ⟨wb0, hwb⟩ : ∃ wb0, wb0 = wc0.alloc (.cells #[.int .i64 p0, .slice ya0 ds0.length yc0, .slice yb0 ms0.length ye0] 28) := ⟨_, rfl⟩
    have hb : Below wc0.heap.size wc0 wb0 := by rw [hwb]; exact below_alloc1 _ _
    have hsb0 : wc0.heap.size + 1 = wb0.heap.size := by rw [hwb]; simp
    have hsB0 : wc0.heap.size ≤ wb0.heap.size := by omega
    have HY0 : Hid (Bq wb0 wc0.heap.size p0 (.slice ya0 ds0.length yc0) (.slice yb0 ms0.length ye0) ds0 ms0) := Lib.hid (by rw [hwb]; exact (Bx.start _ HC0.out.cx.zero).bq)
    have HB' := Lib.hid (HB.out.trans (hb.mono (by omega)))
    have HK' := Lib.hid (HK.out.trans (hb.mono (by omega)))
    have HC0' := Lib.hid (HC0.out.same (Same.of_below hb (by omega)))
    clear hb HB HK HC0
    have HB := HB'
    have HK := HK'
    have HC0 := HC0'
    clear HB' HK' HC0'
    go_upto_region 13 with fail
    rw [← hwb]
    clear hwb
    have c10 := (HN1.out _ HB.out).c0
    have c11 := (HN1.out _ HB.out).c1
    have c12 := (HN1.out _ HB.out).c2
    go_wp2_with fail
    refine (toComplexw_any p1 dv1 mv1 ds1 ms1 _ (HN1.out _ HB.out).cx hds1 HMS1.out).mono ?_
    rintro ee wc1 ⟨ydv1, ymv1, rfl, hc, hb⟩
    have hsc1 : wb0.heap.size ≤ wc1.heap.size := hb.size
    clear c10 c11 c12
    have HB' := Lib.hid (HB.out.trans (hb.mono (by omega)))
    have HK' := Lib.hid (HK.out.trans (hb.mono (by omega)))
    have HC0' := Lib.hid (HC0.out.same (Same.of_below hb (by omega)))
    have HY0' := Lib.hid (HY0.out.next hb)
    clear hb HB HK HC0 HY0
    have HB := HB'
    have HK := HK'
    have HC0 := HC0'
    have HY0 := HY0'
    clear HB' HK' HC0' HY0'
    have HC1 := Lib.hid hc
    obtain ⟨⟨ya1, yc1, rfl⟩, ⟨yb1, ye1, rfl⟩⟩ := hc.cx.shapes
    clear hc
    obtain ⟨wb1, hwb⟩ : ∃ wb1, wb1 = wc1.alloc (.cells #[.int .i64 p1, .slice ya1 ds1.length yc1, .slice yb1 ms1.length ye1] 28) := ⟨_, rfl⟩
    have hb : Below wc1.heap.size wc1 wb1 := by rw [hwb]; exact below_alloc1 _ _
    have hsb1 : wc1.heap.size + 1 = wb1.heap.size := by rw [hwb]; simp
    have hsB1 : wc1.heap.size ≤ wb1.heap.size := by omega
    have HY1 : Hid (Bq wb1 wc1.heap.size p1 (.slice ya1 ds1.length yc1) (.slice yb1 ms1.length ye1) ds1 ms1) := Lib.hid (by rw [hwb]; exact (Bx.start _ HC1.out.cx.zero).bq)
    have HB' := Lib.hid (HB.out.trans (hb.mono (by omega)))
    have HK' := Lib.hid (HK.out.trans (hb.mono (by omega)))
    have HC0' := Lib.hid (HC0.out.same (Same.of_below hb (by omega)))
    have HY0' := Lib.hid (HY0.out.next hb)
    have HC1' := Lib.hid (HC1.out.same (Same.of_below hb (by omega)))
    clear hb HB HK HC0 HY0 HC1
    have HB := HB'
    have HK := HK'
    have HC0 := HC0'
    have HY0 := HY0'
    have HC1 := HC1'
    clear HB' HK' HC0' HY0' HC1'
    go_upto_region 14 with fail
    rw [← hwb]
    clear hwb
    go_wp2_with fail
    refine (to3w_any _ fs2 _ (HN2.out _ HB.out) HMS2.out).mono ?_
    rintro ee wc2 ⟨yv2, rfl, hc, hb⟩
    have hsc2 : wb1.heap.size ≤ wc2.heap.size := hb.size
    have HB' := Lib.hid (HB.out.trans (hb.mono (by omega)))
    have HK' := Lib.hid (HK.out.trans (hb.mono (by omega)))
    have HC0' := Lib.hid (HC0.out.same (Same.of_below hb (by omega)))
    have HY0' := Lib.hid (HY0.out.next hb)
    have HC1' := Lib.hid (HC1.out.same (Same.of_below hb (by omega)))
    have HY1' := Lib.hid (HY1.out.next hb)
    clear hb HB HK HC0 HY0 HC1 HY1
    have HB := HB'
    have HK := HK'
    have HC0 := HC0'
    have HY0 := HY0'
    have HC1 := HC1'
    have HY1 := HY1'
    clear HB' HK' HC0' HY0' HC1' HY1'
    have HC2 := Lib.hid hc
    obtain ⟨ya2, yc2, rfl⟩ := Sw.shape hc
    clear hc
    go_upto_region 15 with fail
    have d00 := HY0.out.c0
    have d01 := HY0.out.c1
    have d02 := HY0.out.c2
    have d10 := HY1.out.c0
    have d11 := HY1.out.c1
    have d12 := HY1.out.c2
    go_wp2_with fail
    refine (coneOf_any p0 p1 _ _ _ _ _ ds0 ms0 ds1 ms1 fs2 _ (HC0.out.cx.zero) (HC1.out.cx.zero) (HC2.out.l3.lower (Nat.zero_le _)) hds0 HMS0.out hds1 HMS1.out HMS2.out (HGL.out _ HB.out)).mono ?_
    rintro ee w7 ⟨u7, o7, k7, rfl, hw7, hb, hout7⟩
    obtain ⟨rfl, rfl⟩ := RsOut.unique (fun _ a b ha hb => ha.trans hb.symm) HOS.out hout7
    have hs7 : wc2.heap.size ≤ w7.heap.size := hb.size
    clear d00 d01 d02 d10 d11 d12
    have HB' := Lib.hid (HB.out.trans (hb.mono (by omega)))
    have HK' := Lib.hid (HK.out.trans (hb.mono (by omega)))
    have HC0' := Lib.hid (HC0.out.same (Same.of_below hb (by omega)))
    have HY0' := Lib.hid (HY0.out.next hb)
    have HC1' := Lib.hid (HC1.out.same (Same.of_below hb (by omega)))
    have HY1' := Lib.hid (HY1.out.next hb)
    have HC2' := Lib.hid (HC2.out.same (Same.of_below hb (by omega)))
    clear hb HB HK HC0 HY0 HC1 HY1 HC2
    have HB := HB'
    have HK := HK'
    have HC0 := HC0'
    have HY0 := HY0'
    have HC1 := HC1'
    have HY1 := HY1'
    have HC2 := HC2'
    clear HB' HK' HC0' HY0' HC1' HY1' HC2'
    obtain ⟨aGd, cGd, aGm, cGm, hu7, hG⟩ := hw7
    have hu7 : u7 = .agg #[.int .i64 oSp, .slice aGd oSd.length cGd, .slice aGm oSm.length cGm] := hu7
    subst hu7
    have HG : Hid (RcW wc2.heap.size w7.heap.size w7 (.slice aGd oSd.length cGd) (.slice aGm oSm.length cGm) oSd oSm) := Lib.hid hG
    clear hG hout7
    obtain ⟨wbG, hwb⟩ : ∃ wbG, wbG = w7.alloc (.cells #[.int .i64 oSp, .slice aGd oSd.length cGd, .slice aGm oSm.length cGm] 28) := ⟨_, rfl⟩
    have hb : Below w7.heap.size w7 wbG := by rw [hwb]; exact below_alloc1 _ _
    have hsbG : w7.heap.size + 1 = wbG.heap.size := by rw [hwb]; simp
    have hsBG : w7.heap.size ≤ wbG.heap.size := by omega
    have HCG0 : Hid (Bc wbG w7.heap.size oSp (.slice aGd oSd.length cGd) (.slice aGm oSm.length cGm)) := Lib.hid (by rw [hwb]; exact Bc.start _ _ _ _ _)
    have HB' := Lib.hid (HB.out.trans (hb.mono (by omega)))
    have HK' := Lib.hid (HK.out.trans (hb.mono (by omega)))
    have HC0' := Lib.hid (HC0.out.same (Same.of_below hb (by omega)))
    have HY0' := Lib.hid (HY0.out.next hb)
    have HC1' := Lib.hid (HC1.out.same (Same.of_below hb (by omega)))
    have HY1' := Lib.hid (HY1.out.next hb)
    have HC2' := Lib.hid (HC2.out.same (Same.of_below hb (by omega)))
    have HG' := Lib.hid (HG.out.same (Same.of_below hb (by omega)))
    clear hb HB HK HC0 HY0 HC1 HY1 HC2 HG
    have HB := HB'
    have HK := HK'
    have HC0 := HC0'
    have HY0 := HY0'
    have HC1 := HC1'
    have HY1 := HY1'
    have HC2 := HC2'
    have HG := HG'
    clear HB' HK' HC0' HY0' HC1' HY1' HC2' HG'
    have HCG := HCG0
    clear HCG0
    go_upto_region 16 with fail
    rw [← hwb]
    clear hwb
    have hcode : (kS != kS) = false := by simp
    have s0 := (HYS.out.next HK.out).c0
    have s1 := (HYS.out.next HK.out).c1
    have s2 := (HYS.out.next HK.out).c2
    have g0 := HCG.out.c0
    have g1 := HCG.out.c1
    have g2 := HCG.out.c2
    go_wp2_with fail
    refine (eqComplex_true oSp _ _ _ _ oSd oSm _ HG.out.cx (HYS.out.next HK.out).cx hbd1 HBD.out.2).mono ?_
    rintro ee we1 ⟨rfl, hb⟩
    have hse1 : wbG.heap.size ≤ we1.heap.size := hb.size
    clear s0 s1 s2 g0 g1 g2
    have HB' := Lib.hid (HB.out.trans (hb.mono (by omega)))
    have HK' := Lib.hid (HK.out.trans (hb.mono (by omega)))
    have HC0' := Lib.hid (HC0.out.same (Same.of_below hb (by omega)))
    have HY0' := Lib.hid (HY0.out.next hb)
    have HC1' := Lib.hid (HC1.out.same (Same.of_below hb (by omega)))
    have HY1' := Lib.hid (HY1.out.next hb)
    have HC2' := Lib.hid (HC2.out.same (Same.of_below hb (by omega)))
    have HG' := Lib.hid (HG.out.same (Same.of_below hb (by omega)))
    have HCG' := Lib.hid (HCG.out.next hb)
    clear hb HB HK HC0 HY0 HC1 HY1 HC2 HG HCG
    have HB := HB'
    have HK := HK'
    have HC0 := HC0'
    have HY0 := HY0'
    have HC1 := HC1'
    have HY1 := HY1'
    have HC2 := HC2'
    have HG := HG'
    have HCG := HCG'
    clear HB' HK' HC0' HY0' HC1' HY1' HC2' HG' HCG'
    have c00 := (HN0.out _ HB.out).c0
    have c01 := (HN0.out _ HB.out).c1
    have c02 := (HN0.out _ HB.out).c2
    have d00 := HY0.out.c0
    have d01 := HY0.out.c1
    have d02 := HY0.out.c2
    have HCX := Lib.hid (cx_drew (HN0.out _ HB.out).cx)
    have HCC := Lib.hid (cx_drew HY0.out.cx)
    go_wp2_with fail
    go_region_held3 (fun w' => w'.cell? ⟨w.heap.size, 0, none⟩ = some (.int .i64 p0) ∧ w'.cell? ⟨w.heap.size, 1, none⟩ = some (dv0) ∧ w'.cell? ⟨w.heap.size, 2, none⟩ = some (mv0) ∧ w'.cell? ⟨wc0.heap.size, 0, none⟩ = some (.int .i64 p0) ∧ w'.cell? ⟨wc0.heap.size, 1, none⟩ = some (.slice ya0 ds0.length yc0) ∧ w'.cell? ⟨wc0.heap.size, 2, none⟩ = some (.slice yb0 ms0.length ye0))
      (first | exact ⟨c00, c01, c02, d00, d01, d02⟩ | exact HS9.out | exact HSA.out | go_keep)
      (first
        | (go_at_call 7; refine (toComplex_any p0 dv0 mv0 ds0 ms0 _ HCX.out hds0 HMS0.out).mono ?_; rintro ee w9 ⟨zdv09, zmv09, rfl, hcx9, hb9⟩; have HS9 := Lib.hid (And.intro (later hb9 (Nat.le_refl _) c00) (And.intro (later hb9 (Nat.le_refl _) c01) (And.intro (later hb9 (Nat.le_refl _) c02) (And.intro (later hb9 (Nat.le_refl _) d00) (And.intro (later hb9 (Nat.le_refl _) d01) (later hb9 (Nat.le_refl _) d02)))))); have HX9 := Lib.hid (And.intro hcx9 (And.intro (HCC.out.below hb9) (Below.trans ((Below.refl we1.heap.size we1).drew) hb9))); clear hcx9 hb9)
        | (go_at_call 10; refine (eqComplex_true p0 _ _ zdv09 zmv09 ds0 ms0 _ HX9.out.2.1 HX9.out.1.zero hds0 HMS0.out).mono ?_; rintro ee wA0 ⟨rfl, hbA⟩; have HSA := Lib.hid (And.intro (later hbA (Nat.le_refl _) (HS9.out.1)) (And.intro (later hbA (Nat.le_refl _) (HS9.out.2.1)) (And.intro (later hbA (Nat.le_refl _) (HS9.out.2.2.1)) (And.intro (later hbA (Nat.le_refl _) (HS9.out.2.2.2.1)) (And.intro (later hbA (Nat.le_refl _) (HS9.out.2.2.2.2.1)) (later hbA (Nat.le_refl _) (HS9.out.2.2.2.2.2))))))); have HXA := Lib.hid (Below.trans HX9.out.2.2 (hbA.mono HX9.out.2.2.size)); clear hbA))
    have hsa0 : we1.heap.size ≤ wA0.heap.size := HXA.out.size
    have hb := HXA.out
    clear c00 c01 c02
    clear d00 d01 d02
    clear HXA HSA HS9 HX9 HCX HCC
    have HB' := Lib.hid (HB.out.trans (hb.mono (by omega)))
    have HK' := Lib.hid (HK.out.trans (hb.mono (by omega)))
    have HC0' := Lib.hid (HC0.out.same (Same.of_below hb (by omega)))
    have HY0' := Lib.hid (HY0.out.next hb)
    have HC1' := Lib.hid (HC1.out.same (Same.of_below hb (by omega)))
    have HY1' := Lib.hid (HY1.out.next hb)
    have HC2' := Lib.hid (HC2.out.same (Same.of_below hb (by omega)))
    have HG' := Lib.hid (HG.out.same (Same.of_below hb (by omega)))
    have HCG' := Lib.hid (HCG.out.next hb)
    clear hb HB HK HC0 HY0 HC1 HY1 HC2 HG HCG
    have HB := HB'
    have HK := HK'
    have HC0 := HC0'
    have HY0 := HY0'
    have HC1 := HC1'
    have HY1 := HY1'
    have HC2 := HC2'
    have HG := HG'
    have HCG := HCG'
    clear HB' HK' HC0' HY0' HC1' HY1' HC2' HG' HCG'
    have c10 := (HN1.out _ HB.out).c0
    have c11 := (HN1.out _ HB.out).c1
    have c12 := (HN1.out _ HB.out).c2
    have d10 := HY1.out.c0
    have d11 := HY1.out.c1
    have d12 := HY1.out.c2
    have HCX := Lib.hid (cx_drew (HN1.out _ HB.out).cx)
    have HCC := Lib.hid (cx_drew HY1.out.cx)
    go_wp2_with fail
    go_region_held3 (fun w' => w'.cell? ⟨w.heap.size + 1, 0, none⟩ = some (.int .i64 p1) ∧ w'.cell? ⟨w.heap.size + 1, 1, none⟩ = some (dv1) ∧ w'.cell? ⟨w.heap.size + 1, 2, none⟩ = some (mv1) ∧ w'.cell? ⟨wc1.heap.size, 0, none⟩ = some (.int .i64 p1) ∧ w'.cell? ⟨wc1.heap.size, 1, none⟩ = some (.slice ya1 ds1.length yc1) ∧ w'.cell? ⟨wc1.heap.size, 2, none⟩ = some (.slice yb1 ms1.length ye1))
      (first | exact ⟨c10, c11, c12, d10, d11, d12⟩ | exact HS9.out | exact HSA.out | go_keep)
      (first
        | (go_at_call 7; refine (toComplex_any p1 dv1 mv1 ds1 ms1 _ HCX.out hds1 HMS1.out).mono ?_; rintro ee w9 ⟨zdv19, zmv19, rfl, hcx9, hb9⟩; have HS9 := Lib.hid (And.intro (later hb9 (Nat.le_refl _) c10) (And.intro (later hb9 (Nat.le_refl _) c11) (And.intro (later hb9 (Nat.le_refl _) c12) (And.intro (later hb9 (Nat.le_refl _) d10) (And.intro (later hb9 (Nat.le_refl _) d11) (later hb9 (Nat.le_refl _) d12)))))); have HX9 := Lib.hid (And.intro hcx9 (And.intro (HCC.out.below hb9) (Below.trans ((Below.refl wA0.heap.size wA0).drew) hb9))); clear hcx9 hb9)
        | (go_at_call 10; refine (eqComplex_true p1 _ _ zdv19 zmv19 ds1 ms1 _ HX9.out.2.1 HX9.out.1.zero hds1 HMS1.out).mono ?_; rintro ee wA1 ⟨rfl, hbA⟩; have HSA := Lib.hid (And.intro (later hbA (Nat.le_refl _) (HS9.out.1)) (And.intro (later hbA (Nat.le_refl _) (HS9.out.2.1)) (And.intro (later hbA (Nat.le_refl _) (HS9.out.2.2.1)) (And.intro (later hbA (Nat.le_refl _) (HS9.out.2.2.2.1)) (And.intro (later hbA (Nat.le_refl _) (HS9.out.2.2.2.2.1)) (later hbA (Nat.le_refl _) (HS9.out.2.2.2.2.2))))))); have HXA := Lib.hid (Below.trans HX9.out.2.2 (hbA.mono HX9.out.2.2.size)); clear hbA))
    have hsa1 : wA0.heap.size ≤ wA1.heap.size := HXA.out.size
    have hb := HXA.out
    clear c10 c11 c12
    clear d10 d11 d12
    clear HXA HSA HS9 HX9 HCX HCC
    have HB' := Lib.hid (HB.out.trans (hb.mono (by omega)))
    have HK' := Lib.hid (HK.out.trans (hb.mono (by omega)))
    have HC0' := Lib.hid (HC0.out.same (Same.of_below hb (by omega)))
    have HY0' := Lib.hid (HY0.out.next hb)
    have HC1' := Lib.hid (HC1.out.same (Same.of_below hb (by omega)))
    have HY1' := Lib.hid (HY1.out.next hb)
    have HC2' := Lib.hid (HC2.out.same (Same.of_below hb (by omega)))
    have HG' := Lib.hid (HG.out.same (Same.of_below hb (by omega)))
    have HCG' := Lib.hid (HCG.out.next hb)
    clear hb HB HK HC0 HY0 HC1 HY1 HC2 HG HCG
    have HB := HB'
    have HK := HK'
    have HC0 := HC0'
    have HY0 := HY0'
    have HC1 := HC1'
    have HY1 := HY1'
    have HC2 := HC2'
    have HG := HG'
    have HCG := HCG'
    clear HB' HK' HC0' HY0' HC1' HY1' HC2' HG' HCG'
    go_wp2_with fail
    refine (to3_any _ fs2 _ (HN2.out _ HB.out) HMS2.out).mono ?_
    rintro ee wL2 ⟨vL9, rfl, hc, hb⟩
    have hsL2 : wA1.heap.size ≤ wL2.heap.size := hb.size
    have HB' := Lib.hid (HB.out.trans (hb.mono (by omega)))
    have HK' := Lib.hid (HK.out.trans (hb.mono (by omega)))
    have HC0' := Lib.hid (HC0.out.same (Same.of_below hb (by omega)))
    have HY0' := Lib.hid (HY0.out.next hb)
    have HC1' := Lib.hid (HC1.out.same (Same.of_below hb (by omega)))
    have HY1' := Lib.hid (HY1.out.next hb)
    have HC2' := Lib.hid (HC2.out.same (Same.of_below hb (by omega)))
    have HG' := Lib.hid (HG.out.same (Same.of_below hb (by omega)))
    have HCG' := Lib.hid (HCG.out.next hb)
    clear hb HB HK HC0 HY0 HC1 HY1 HC2 HG HCG
    have HB := HB'
    have HK := HK'
    have HC0 := HC0'
    have HY0 := HY0'
    have HC1 := HC1'
    have HY1 := HY1'
    have HC2 := HC2'
    have HG := HG'
    have HCG := HCG'
    clear HB' HK' HC0' HY0' HC1' HY1' HC2' HG' HCG'
    have HV9 := Lib.hid (hc.lower (Nat.zero_le _))
    clear hc
    obtain ⟨aL9, cL9, eL9⟩ := Sl.shape HV9.out
    subst eL9
    go_wp2_with fail
    refine (eq3_true _ _ fs2 _ (HC2.out.l3.lower (Nat.zero_le _)) HV9.out HMS2.out).mono ?_
    rintro ee wA2 ⟨rfl, hb⟩
    have hsA2 : wL2.heap.size ≤ wA2.heap.size := hb.size
    clear HV9
    have HB' := Lib.hid (HB.out.trans (hb.mono (by omega)))
    have HK' := Lib.hid (HK.out.trans (hb.mono (by omega)))
    have HC0' := Lib.hid (HC0.out.same (Same.of_below hb (by omega)))
    have HY0' := Lib.hid (HY0.out.next hb)
    have HC1' := Lib.hid (HC1.out.same (Same.of_below hb (by omega)))
    have HY1' := Lib.hid (HY1.out.next hb)
    have HC2' := Lib.hid (HC2.out.same (Same.of_below hb (by omega)))
    have HG' := Lib.hid (HG.out.same (Same.of_below hb (by omega)))
    have HCG' := Lib.hid (HCG.out.next hb)
    clear hb HB HK HC0 HY0 HC1 HY1 HC2 HG HCG
    have HB := HB'
    have HK := HK'
    have HC0 := HC0'
    have HY0 := HY0'
    have HC1 := HC1'
    have HY1 := HY1'
    have HC2 := HC2'
    have HG := HG'
    have HCG := HCG'
    clear HB' HK' HC0' HY0' HC1' HY1' HC2' HG' HCG'
    have d00 := HY0.out.c0
    have d01 := HY0.out.c1
    have d02 := HY0.out.c2
    go_wp2_with fail
    refine (markComplexK_any 1 p0 _ _ ds0 ms0 _ HC0.out (by omega) hds0 HMS0.out (by omega) (by omega)).mono ?_
    rintro ee wD0 ⟨r0, wM0, rfl, hr00, hr01, hb, hoM, htM⟩
    have hsM0 : wA2.heap.size ≤ wM0.heap.size := hb.size
    have hsD0 : wD0.heap.size = wM0.heap.size := hoM.size
    have hsE0 : wA2.heap.size ≤ wD0.heap.size := by omega
    clear d00 d01 d02
    have HB' := Lib.hid ((HB.out.trans (hb.mono (by omega))).trans (hoM.below (by omega)))
    have HK' := Lib.hid ((HK.out.trans (hb.mono (by omega))).trans (hoM.below (by omega)))
    have HG' := Lib.hid (HG.out.same ((Same.of_below hb (by omega)).trans (hoM.same (by omega))))
    have HCG' := Lib.hid ((HCG.out.next hb).only hoM (by omega))
    have HC1' := Lib.hid (HC1.out.same ((Same.of_below hb (by omega)).trans (hoM.same (by omega))))
    have HY1' : Hid (Bq wD0 wc1.heap.size p1 (.slice ya1 ds1.length yc1) (.slice yb1 ms1.length ye1) ds1 ms1) := Lib.hid ((HY1.out.next hb).only hoM HC1'.out.cx.zero (by omega))
    have HC2' := Lib.hid (HC2.out.same ((Same.of_below hb (by omega)).trans (hoM.same (by omega))))
    clear hoM htM hb HC0 HY0 HB HK HG HCG HC1 HY1 HC2
    have HB := HB'
    have HK := HK'
    have HG := HG'
    have HCG := HCG'
    have HC1 := HC1'
    have HY1 := HY1'
    have HC2 := HC2'
    clear HB' HK' HG' HCG' HC1' HY1' HC2'
    have d10 := HY1.out.c0
    have d11 := HY1.out.c1
    have d12 := HY1.out.c2
    go_wp2_with fail
    refine (markComplexK_any r0 p1 _ _ ds1 ms1 _ HC1.out (by omega) hds1 HMS1.out (by omega) (by omega)).mono ?_
    rintro ee wD1 ⟨r1, wM1, rfl, hr10, hr11, hb, hoM, htM⟩
    have hsM1 : wD0.heap.size ≤ wM1.heap.size := hb.size
    have hsD1 : wD1.heap.size = wM1.heap.size := hoM.size
    have hsE1 : wD0.heap.size ≤ wD1.heap.size := by omega
    clear d10 d11 d12
    have HB' := Lib.hid ((HB.out.trans (hb.mono (by omega))).trans (hoM.below (by omega)))
    have HK' := Lib.hid ((HK.out.trans (hb.mono (by omega))).trans (hoM.below (by omega)))
    have HG' := Lib.hid (HG.out.same ((Same.of_below hb (by omega)).trans (hoM.same (by omega))))
    have HCG' := Lib.hid ((HCG.out.next hb).only hoM (by omega))
    have HC2' := Lib.hid (HC2.out.same ((Same.of_below hb (by omega)).trans (hoM.same (by omega))))
    clear hoM htM hb HC1 HY1 HB HK HG HCG HC2
    have HB := HB'
    have HK := HK'
    have HG := HG'
    have HCG := HCG'
    have HC2 := HC2'
    clear HB' HK' HG' HCG' HC2'
    go_wp2_with fail
    refine (mark3_any _ fs2 r1 _ HC2.out.t3 HMS2.out (by omega) (by omega)).mono ?_
    rintro ee wD2 ⟨r2, rfl, hr20, hr21, hoM, htM⟩
    have hrb2 : fs2.length ≤ 1048576 := HMS2.out.1
    have hr22 : r2 ≤ r1 + 1152921504606846976 := by omega
    have hsE2 : wD1.heap.size ≤ wD2.heap.size := Nat.le_of_eq hoM.size.symm
    have HB' := Lib.hid (HB.out.trans (hoM.below (by omega)))
    have HK' := Lib.hid (HK.out.trans (hoM.below (by omega)))
    have HG' := Lib.hid (HG.out.same (hoM.same (by omega)))
    have HCG' := Lib.hid (HCG.out.only hoM (by omega))
    clear hoM htM HC2 HB HK HG HCG
    have HB := HB'
    have HK := HK'
    have HG := HG'
    have HCG := HCG'
    clear HB' HK' HG' HCG'
    have hneg0 : ¬ r2 < 0 := by omega
    have s0 := (HYS.out.next HK.out).c0
    have s1 := (HYS.out.next HK.out).c1
    have s2 := (HYS.out.next HK.out).c2
    have g0 := HCG.out.c0
    have g1 := HCG.out.c1
    have g2 := HCG.out.c2
    go_wp2_with fail
    refine (eqComplex_true oSp _ _ _ _ oSd oSm _ HG.out.cx (HYS.out.next HK.out).cx hbd1 HBD.out.2).mono ?_
    rintro ee we2 ⟨rfl, hb⟩
    have hse2 : wD2.heap.size ≤ we2.heap.size := hb.size
    clear s0 s1 s2 g0 g1 g2
    have HB' := Lib.hid (HB.out.trans (hb.mono (by omega)))
    have HK' := Lib.hid (HK.out.trans (hb.mono (by omega)))
    have HG' := Lib.hid (HG.out.same (Same.of_below hb (by omega)))
    have HCG' := Lib.hid (HCG.out.next hb)
    clear hb HB HK HG HCG
    have HB := HB'
    have HK := HK'
    have HG := HG'
    have HCG := HCG'
    clear HB' HK' HG' HCG'
    have g0 := HCG.out.c0
    have g1 := HCG.out.c1
    have g2 := HCG.out.c2
    go_wp2_with fail
    refine (markRC_any oSp _ _ oSd oSm _ HG.out (by omega)).mono ?_
    rintro ee wG ⟨mm, wM2, rfl, hm0, hm1, hb, hoG, hmk⟩
    have hsM2 : we2.heap.size ≤ wM2.heap.size := hb.size
    have hsG0 : wG.heap.size = wM2.heap.size := hoG.size
    have hsG : we2.heap.size ≤ wG.heap.size := by omega
    clear g0 g1 g2
    have HB' := Lib.hid ((HB.out.trans (hb.mono (by omega))).trans (hoG.below (by omega)))
    have HK' := Lib.hid ((HK.out.trans (hb.mono (by omega))).trans (hoG.below (by omega)))
    have HCG' := Lib.hid ((HCG.out.next hb).only hoG (by omega))
    have HG' := Lib.hid hmk
    clear hoG hmk hb HB HK HG HCG
    have HB := HB'
    have HK := HK'
    have HG := HG'
    have HCG := HCG'
    clear HB' HK' HG' HCG'
    have hneg : ¬ mm < 0 := by omega
    have hsum : (mm != mm) = false := by simp
    have g0 := HCG.out.c0
    have g1 := HCG.out.c1
    have g2 := HCG.out.c2
    go_wp2_with fail
    refine (heldRC_any oSp _ _ mm _ HG.out (by omega)).mono ?_
    rintro ee wH1 ⟨rfl, hb⟩
    have hsH1 : wG.heap.size ≤ wH1.heap.size := hb.size
    clear g0 g1 g2
    have HB' := Lib.hid (HB.out.trans (hb.mono (by omega)))
    have HK' := Lib.hid (HK.out.trans (hb.mono (by omega)))
    have HG' := Lib.hid (HG.out.same (Same.of_below hb (by omega)))
    have HCG' := Lib.hid (HCG.out.next hb)
    clear hb HB HK HG HCG
    have HB := HB'
    have HK := HK'
    have HG := HG'
    have HCG := HCG'
    clear HB' HK' HG' HCG'
    have HQG : Hid (∀ W', Below wH1.heap.size wH1 W' → W'.cell? ⟨0, 0, none⟩ = some (.iface 99 pvg)) := Lib.hid (fun W' hb => HGL.out _ (HB.out.trans (hb.mono (by omega))))
    have HQ0 : Hid (∀ W', Below wH1.heap.size wH1 W' → Bx w W' (w.heap.size) p0 dv0 mv0 ds0 ms0) := Lib.hid (fun W' hb => HN0.out _ (HB.out.trans (hb.mono (by omega))))
    have HQ1 : Hid (∀ W', Below wH1.heap.size wH1 W' → Bx w W' (w.heap.size + 1) p1 dv1 mv1 ds1 ms1) := Lib.hid (fun W' hb => HN1.out _ (HB.out.trans (hb.mono (by omega))))
    have HQ2 : Hid (∀ W', Below wH1.heap.size wH1 W' → L3 0 W' (.slice af2 fs2.length cf2) fs2) := Lib.hid (fun W' hb => HN2.out _ (HB.out.trans (hb.mono (by omega))))
    go_upto_region 38 with fail
    go_cut [18, 19] from 20 (fun s18 s19 wz => ∃ (gJ : Nat) (aJd : Option Addr) (cJd : Nat) (aJm : Option Addr) (cJm : Nat), s18 = .pointer (some ⟨gJ, 0, none⟩) ∧ s19 = .int .i64 kS ∧ Hid (Below wH1.heap.size wH1 wz) ∧ Hid (Bq wz gJ oSp (.slice aJd oSd.length cJd) (.slice aJm oSm.length cJm) oSd oSm))
    case first =>
      go_wp2
      refine wp_region_held (S := fun W => Below (wH1.heap.size) wH1 W) (by kernel_rfl) ?_
      have S0 : Below (wH1.heap.size) wH1 wH1.drew := (Below.refl _ _).drew
      have hB0 : wH1.heap.size ≤ wH1.heap.size := Nat.le_refl _
      have hsd : wH1.heap.size ≤ wH1.drew.heap.size := Nat.le_refl _
      have hbd : Below wH1.heap.size wH1 wH1.drew := (Below.refl _ _).drew
      change wpAnyH _ _ _ _ _ _ _ _ wH1.drew
      obtain ⟨wd, hwd⟩ : ∃ wd, wd = wH1.drew := ⟨_, rfl⟩
      rw [← hwd] at S0 hsd hbd ⊢
      clear hwd
      refine held_take (i := 0) (v := .agg #[.int .i64 p0, dv0, mv0]) (some 116) rfl rfl (by kernel_rfl) (by kernel_rfl) (by kernel_rfl) (fun _ _ _ h => h) (yieldsIf_cell (by kernel_rfl) rfl (by kernel_rfl) (fun W h => hloadLawCol_Cx W (HQ0.out W h))) S0 ?_
      refine held_take (i := 2) (v := .agg #[.int .i64 p1, dv1, mv1]) (some 118) rfl rfl (by kernel_rfl) (by kernel_rfl) (by kernel_rfl) (fun _ _ _ h => h) (yieldsIf_cell (by kernel_rfl) rfl (by kernel_rfl) (fun W h => hloadLawCol_Cx W (HQ1.out W h))) S0 ?_
      refine held_take (i := 4) (v := .slice af2 fs2.length cf2) (some 120) rfl rfl (by kernel_rfl) (by kernel_rfl) (by kernel_rfl) (fun _ _ _ h => h) (yieldsIf_move (by kernel_rfl) rfl (by kernel_rfl)) S0 ?_
      refine held_two (i := 1) (j := 10) (by kernel_rfl) ?_ ?_
      · refine op_enter (i := 1) (some 117) (f := 7) (args := #[.agg #[.int .i64 p0, dv0, mv0]]) rfl rfl rfl (by kernel_rfl) (toComplex_any p0 dv0 mv0 ds0 ms0 _ (HQ0.out _ S0).cx hds0 HMS0.out) ?_ (fun c w' h => by obtain ⟨_, _, he, _⟩ := h; cases he) (fun w' h => by obtain ⟨_, _, he, _⟩ := h; cases he)
        rintro ee W1 ⟨xdv0, xmv0, he, hc1, hb1⟩
        injection he with he
        subst he
        have S1 : Below (wH1.heap.size) wH1 W1 := S0.trans (hb1.mono (Nat.le_trans hB0 S0.size))
        have hx0_1 := hc1.zero
        refine ⟨S1, ?_⟩
        refine held_two (i := 3) (j := 10) (by kernel_rfl) ?_ ?_
        · refine op_enter (i := 3) (some 119) (f := 7) (args := #[.agg #[.int .i64 p1, dv1, mv1]]) rfl rfl rfl (by kernel_rfl) (toComplex_any p1 dv1 mv1 ds1 ms1 _ (HQ1.out _ S1).cx hds1 HMS1.out) ?_ (fun c w' h => by obtain ⟨_, _, he, _⟩ := h; cases he) (fun w' h => by obtain ⟨_, _, he, _⟩ := h; cases he)
          rintro ee W2 ⟨xdv1, xmv1, he, hc2, hb2⟩
          injection he with he
          subst he
          have S2 : Below (wH1.heap.size) wH1 W2 := S1.trans (hb2.mono (Nat.le_trans hB0 S1.size))
          have hx0_2 := hx0_1.below hb2
          have hx1_2 := hc2.zero
          refine ⟨S2, ?_⟩
          refine held_two (i := 5) (j := 10) (by kernel_rfl) ?_ ?_
          · refine op_enter (i := 5) (some 121) (f := 8) (args := #[.slice af2 fs2.length cf2]) rfl rfl rfl (by kernel_rfl) (to3_any _ fs2 _ (HQ2.out _ S2) HMS2.out) ?_ (fun c w' h => by obtain ⟨_, he, _⟩ := h; cases he) (fun w' h => by obtain ⟨_, he, _⟩ := h; cases he)
            rintro ee W3 ⟨xf2, he, hc3, hb3⟩
            injection he with he
            have he := he.symm
            subst he
            have S3 : Below (wH1.heap.size) wH1 W3 := S2.trans (hb3.mono (Nat.le_trans hB0 S2.size))
            have hx0_3 := hx0_2.below hb3
            have hx1_3 := hx1_2.below hb3
            have hx2_3 := hc3.lower (Nat.zero_le _)
            refine ⟨S3, ?_⟩
            refine held_two (i := 6) (j := 10) (by kernel_rfl) ?_ ?_
            · refine op_enter (i := 6) (some 122) (f := 9) (args := #[.agg #[.int .i64 p0, xdv0, xmv0], .agg #[.int .i64 p1, xdv1, xmv1], xf2]) rfl rfl rfl (by kernel_rfl) (coneOf_any p0 p1 _ _ _ _ _ ds0 ms0 ds1 ms1 fs2 _ (hx0_3) (hx1_3) (hx2_3) hds0 HMS0.out hds1 HMS1.out HMS2.out (HQG.out _ S3)) ?_ (fun c w' h => by obtain ⟨_, _, _, he, _⟩ := h; cases he) (fun w' h => by obtain ⟨_, _, _, he, _⟩ := h; cases he)
              rintro ee W4 ⟨u4, o4, k4, he, hr4, hb4, ho4⟩
              injection he with he
              subst he
              obtain ⟨rfl, rfl⟩ := RsOut.unique (fun _ a b ha hb => ha.trans hb.symm) HOS.out ho4
              obtain ⟨aJd, cJd, aJm, cJm, hu, hr4⟩ := hr4
              have hu : u4 = .agg #[.int .i64 oSp, .slice aJd oSd.length cJd, .slice aJm oSm.length cJm] := hu
              subst hu
              have S4 : Below (wH1.heap.size) wH1 W4 := S3.trans (hb4.mono (Nat.le_trans hB0 S3.size))
              refine ⟨S4, ?_⟩
              refine held_take (i := 7) (v := .tuple #[.agg #[.int .i64 oSp, .slice aJd oSd.length cJd, .slice aJm oSm.length cJm], .int .i64 kS]) (some 115) rfl rfl (by kernel_rfl) (by kernel_rfl) (by kernel_rfl) (fun _ _ _ h => h) (yieldsIf_move (by kernel_rfl) rfl (by kernel_rfl)) S4 ?_
              refine held_take (i := 8) (v := .agg #[.int .i64 oSp, .slice aJd oSd.length cJd, .slice aJm oSm.length cJm]) (some 123) rfl rfl (by kernel_rfl) (by kernel_rfl) (by kernel_rfl) (fun _ _ _ h => h) (yieldsIf_run (by kernel_rfl) (fun W _ => by kernel_rfl)) S4 ?_
              refine held_take (i := 9) (v := .int .i64 kS) (some 124) rfl rfl (by kernel_rfl) (by kernel_rfl) (by kernel_rfl) (fun _ _ _ h => h) (yieldsIf_run (by kernel_rfl) (fun W _ => by kernel_rfl)) S4 ?_
              refine held_one (i := 10) (by kernel_rfl) ?_
              · obtain ⟨W5, hW5⟩ : ∃ W', W' = W4.alloc (.cells #[.int .i64 0, .slice none 0 0, .slice none 0 0] 28) := ⟨_, rfl⟩
                have hb5 : Below W4.heap.size W4 W5 := by rw [hW5]; exact below_alloc1 _ _
                have hAR5 : Rz W5 W4.heap.size 28 #[.int .i64 0, .slice none 0 0, .slice none 0 0] := by rw [hW5]; exact Rz.new _ _ _
                have S5 : Below (wH1.heap.size) wH1 W5 := S4.trans (hb5.mono (Nat.le_trans hB0 S4.size))
                have hGR : wH1.heap.size ≤ W4.heap.size := Nat.le_trans hB0 S4.size
                have hg_5 := hr4.same (Same.of_below hb5 (Nat.le_refl _))
                refine op_mem (i := 10) (v := .pointer (some ⟨W4.heap.size, 0, none⟩)) (w' := W5) (some 18) rfl rfl rfl (by rw [hW5]; go_simp) ?_
                refine ⟨S5, ?_⟩
                have hAR := hAR5
                have S6 : Below (wH1.heap.size) wH1 (W5.setRow (W4.heap.size) #[.int .i64 oSp, .slice aJd oSd.length cJd, .slice aJm oSm.length cJm]) := below_setRow S5 hGR _
                refine held_one (i := 11) (by kernel_rfl) ?_
                refine op_row (i := 11) rfl rfl rfl 28 (.tmp 18) (.tmp 123) rfl (W4.heap.size) #[.int .i64 oSp, .slice aJd oSd.length cJd, .slice aJm oSm.length cJm] (by kernel_rfl) (by kernel_rfl) 28 _ hAR5 (infoLawCol _ _ _) (by kernel_rfl) (by kernel_rfl) ?_
                refine ⟨S6, ?_⟩
                have hAR6 := hAR5.set #[.int .i64 oSp, .slice aJd oSd.length cJd, .slice aJm oSm.length cJm]
                refine held_take (i := 12) (v := .int .i64 kS) (some 19) rfl rfl (by kernel_rfl) (by kernel_rfl) (by kernel_rfl) (fun _ _ _ h => h) (yieldsIf_assign (by kernel_rfl) rfl (by kernel_rfl)) S6 ?_
                refine wpAnyH_done (by kernel_rfl) ?_ _
                simp only [Act.put, List.setIfInBounds_toArray, List.set_cons_zero, List.set_cons_succ]
                obtain ⟨WF, hWF⟩ : ∃ WF, WF = (W5.setRow (W4.heap.size) #[.int .i64 oSp, .slice aJd oSd.length cJd, .slice aJm oSm.length cJm]) := ⟨_, rfl⟩
                have hbf : Below wH1.heap.size wH1 WF := by rw [hWF]; exact S6
                have hrf : Rz WF (W4.heap.size) 28 #[.int .i64 oSp, .slice aJd oSd.length cJd, .slice aJm oSm.length cJm] := by rw [hWF]; exact hAR6
                have hGJ := hg_5.same (Same.setRow #[.int .i64 oSp, .slice aJd oSd.length cJd, .slice aJm oSm.length cJm] (Or.inr (Nat.le_refl _)))
                rw [← hWF] at hGJ
                rw [← hWF]
                clear hWF
                go_wp2
                go_meet
                exact ⟨_, aJd, cJd, aJm, cJm, rfl, rfl, Lib.hid hbf, Lib.hid ⟨hrf.cell rfl, hrf.cell rfl, hrf.cell rfl, hrf.lt, hGJ.cx⟩⟩
            · obtain ⟨W7, hW7⟩ : ∃ W', W' = W3.alloc (.cells #[.int .i64 0, .slice none 0 0, .slice none 0 0] 28) := ⟨_, rfl⟩
              have hb7 : Below W3.heap.size W3 W7 := by rw [hW7]; exact below_alloc1 _ _
              have hAR7 : Rz W7 W3.heap.size 28 #[.int .i64 0, .slice none 0 0, .slice none 0 0] := by rw [hW7]; exact Rz.new _ _ _
              have S7 : Below (wH1.heap.size) wH1 W7 := S3.trans (hb7.mono (Nat.le_trans hB0 S3.size))
              have hGR : wH1.heap.size ≤ W3.heap.size := Nat.le_trans hB0 S3.size
              have hx0_7 := hx0_3.below hb7
              have hx1_7 := hx1_3.below hb7
              have hx2_7 := hx2_3.below hb7
              refine op_mem (i := 10) (v := .pointer (some ⟨W3.heap.size, 0, none⟩)) (w' := W7) (some 18) rfl rfl rfl (by rw [hW7]; go_simp) ?_
              refine ⟨S7, ?_⟩
              refine held_one (i := 6) (by kernel_rfl) ?_
              · refine op_enter (i := 6) (some 122) (f := 9) (args := #[.agg #[.int .i64 p0, xdv0, xmv0], .agg #[.int .i64 p1, xdv1, xmv1], xf2]) rfl rfl rfl (by kernel_rfl) (coneOf_any p0 p1 _ _ _ _ _ ds0 ms0 ds1 ms1 fs2 _ (hx0_7) (hx1_7) (hx2_7) hds0 HMS0.out hds1 HMS1.out HMS2.out (HQG.out _ S7)) ?_ (fun c w' h => by obtain ⟨_, _, _, he, _⟩ := h; cases he) (fun w' h => by obtain ⟨_, _, _, he, _⟩ := h; cases he)
                rintro ee W8 ⟨u8, o8, k8, he, hr8, hb8, ho8⟩
                injection he with he
                subst he
                obtain ⟨rfl, rfl⟩ := RsOut.unique (fun _ a b ha hb => ha.trans hb.symm) HOS.out ho8
                obtain ⟨aJd, cJd, aJm, cJm, hu, hr8⟩ := hr8
                have hu : u8 = .agg #[.int .i64 oSp, .slice aJd oSd.length cJd, .slice aJm oSm.length cJm] := hu
                subst hu
                have S8 : Below (wH1.heap.size) wH1 W8 := S7.trans (hb8.mono (Nat.le_trans hB0 S7.size))
                have hAR8 := hAR7.next hb8
                refine ⟨S8, ?_⟩
                refine held_take (i := 7) (v := .tuple #[.agg #[.int .i64 oSp, .slice aJd oSd.length cJd, .slice aJm oSm.length cJm], .int .i64 kS]) (some 115) rfl rfl (by kernel_rfl) (by kernel_rfl) (by kernel_rfl) (fun _ _ _ h => h) (yieldsIf_move (by kernel_rfl) rfl (by kernel_rfl)) S8 ?_
                refine held_take (i := 8) (v := .agg #[.int .i64 oSp, .slice aJd oSd.length cJd, .slice aJm oSm.length cJm]) (some 123) rfl rfl (by kernel_rfl) (by kernel_rfl) (by kernel_rfl) (fun _ _ _ h => h) (yieldsIf_run (by kernel_rfl) (fun W _ => by kernel_rfl)) S8 ?_
                refine held_take (i := 9) (v := .int .i64 kS) (some 124) rfl rfl (by kernel_rfl) (by kernel_rfl) (by kernel_rfl) (fun _ _ _ h => h) (yieldsIf_run (by kernel_rfl) (fun W _ => by kernel_rfl)) S8 ?_
                have hAR := hAR8
                have S9 : Below (wH1.heap.size) wH1 (W8.setRow (W3.heap.size) #[.int .i64 oSp, .slice aJd oSd.length cJd, .slice aJm oSm.length cJm]) := below_setRow S8 hGR _
                refine held_one (i := 11) (by kernel_rfl) ?_
                refine op_row (i := 11) rfl rfl rfl 28 (.tmp 18) (.tmp 123) rfl (W3.heap.size) #[.int .i64 oSp, .slice aJd oSd.length cJd, .slice aJm oSm.length cJm] (by kernel_rfl) (by kernel_rfl) 28 _ hAR8 (infoLawCol _ _ _) (by kernel_rfl) (by kernel_rfl) ?_
                refine ⟨S9, ?_⟩
                have hAR9 := hAR8.set #[.int .i64 oSp, .slice aJd oSd.length cJd, .slice aJm oSm.length cJm]
                refine held_take (i := 12) (v := .int .i64 kS) (some 19) rfl rfl (by kernel_rfl) (by kernel_rfl) (by kernel_rfl) (fun _ _ _ h => h) (yieldsIf_assign (by kernel_rfl) rfl (by kernel_rfl)) S9 ?_
                refine wpAnyH_done (by kernel_rfl) ?_ _
                simp only [Act.put, List.setIfInBounds_toArray, List.set_cons_zero, List.set_cons_succ]
                obtain ⟨WF, hWF⟩ : ∃ WF, WF = (W8.setRow (W3.heap.size) #[.int .i64 oSp, .slice aJd oSd.length cJd, .slice aJm oSm.length cJm]) := ⟨_, rfl⟩
                have hbf : Below wH1.heap.size wH1 WF := by rw [hWF]; exact S9
                have hrf : Rz WF (W3.heap.size) 28 #[.int .i64 oSp, .slice aJd oSd.length cJd, .slice aJm oSm.length cJm] := by rw [hWF]; exact hAR9
                have hGJ := hr8.same (Same.setRow #[.int .i64 oSp, .slice aJd oSd.length cJd, .slice aJm oSm.length cJm] (Or.inl hAR7.lt))
                rw [← hWF] at hGJ
                rw [← hWF]
                clear hWF
                go_wp2
                go_meet
                exact ⟨_, aJd, cJd, aJm, cJm, rfl, rfl, Lib.hid hbf, Lib.hid ⟨hrf.cell rfl, hrf.cell rfl, hrf.cell rfl, hrf.lt, hGJ.cx⟩⟩
          · obtain ⟨W10, hW10⟩ : ∃ W', W' = W2.alloc (.cells #[.int .i64 0, .slice none 0 0, .slice none 0 0] 28) := ⟨_, rfl⟩
            have hb10 : Below W2.heap.size W2 W10 := by rw [hW10]; exact below_alloc1 _ _
            have hAR10 : Rz W10 W2.heap.size 28 #[.int .i64 0, .slice none 0 0, .slice none 0 0] := by rw [hW10]; exact Rz.new _ _ _
            have S10 : Below (wH1.heap.size) wH1 W10 := S2.trans (hb10.mono (Nat.le_trans hB0 S2.size))
            have hGR : wH1.heap.size ≤ W2.heap.size := Nat.le_trans hB0 S2.size
            have hx0_10 := hx0_2.below hb10
            have hx1_10 := hx1_2.below hb10
            refine op_mem (i := 10) (v := .pointer (some ⟨W2.heap.size, 0, none⟩)) (w' := W10) (some 18) rfl rfl rfl (by rw [hW10]; go_simp) ?_
            refine ⟨S10, ?_⟩
            refine held_one (i := 5) (by kernel_rfl) ?_
            · refine op_enter (i := 5) (some 121) (f := 8) (args := #[.slice af2 fs2.length cf2]) rfl rfl rfl (by kernel_rfl) (to3_any _ fs2 _ (HQ2.out _ S10) HMS2.out) ?_ (fun c w' h => by obtain ⟨_, he, _⟩ := h; cases he) (fun w' h => by obtain ⟨_, he, _⟩ := h; cases he)
              rintro ee W11 ⟨xf2, he, hc11, hb11⟩
              injection he with he
              have he := he.symm
              subst he
              have S11 : Below (wH1.heap.size) wH1 W11 := S10.trans (hb11.mono (Nat.le_trans hB0 S10.size))
              have hAR11 := hAR10.next hb11
              have hx0_11 := hx0_10.below hb11
              have hx1_11 := hx1_10.below hb11
              have hx2_11 := hc11.lower (Nat.zero_le _)
              refine ⟨S11, ?_⟩
              refine held_one (i := 6) (by kernel_rfl) ?_
              · refine op_enter (i := 6) (some 122) (f := 9) (args := #[.agg #[.int .i64 p0, xdv0, xmv0], .agg #[.int .i64 p1, xdv1, xmv1], xf2]) rfl rfl rfl (by kernel_rfl) (coneOf_any p0 p1 _ _ _ _ _ ds0 ms0 ds1 ms1 fs2 _ (hx0_11) (hx1_11) (hx2_11) hds0 HMS0.out hds1 HMS1.out HMS2.out (HQG.out _ S11)) ?_ (fun c w' h => by obtain ⟨_, _, _, he, _⟩ := h; cases he) (fun w' h => by obtain ⟨_, _, _, he, _⟩ := h; cases he)
                rintro ee W12 ⟨u12, o12, k12, he, hr12, hb12, ho12⟩
                injection he with he
                subst he
                obtain ⟨rfl, rfl⟩ := RsOut.unique (fun _ a b ha hb => ha.trans hb.symm) HOS.out ho12
                obtain ⟨aJd, cJd, aJm, cJm, hu, hr12⟩ := hr12
                have hu : u12 = .agg #[.int .i64 oSp, .slice aJd oSd.length cJd, .slice aJm oSm.length cJm] := hu
                subst hu
                have S12 : Below (wH1.heap.size) wH1 W12 := S11.trans (hb12.mono (Nat.le_trans hB0 S11.size))
                have hAR12 := hAR11.next hb12
                refine ⟨S12, ?_⟩
                refine held_take (i := 7) (v := .tuple #[.agg #[.int .i64 oSp, .slice aJd oSd.length cJd, .slice aJm oSm.length cJm], .int .i64 kS]) (some 115) rfl rfl (by kernel_rfl) (by kernel_rfl) (by kernel_rfl) (fun _ _ _ h => h) (yieldsIf_move (by kernel_rfl) rfl (by kernel_rfl)) S12 ?_
                refine held_take (i := 8) (v := .agg #[.int .i64 oSp, .slice aJd oSd.length cJd, .slice aJm oSm.length cJm]) (some 123) rfl rfl (by kernel_rfl) (by kernel_rfl) (by kernel_rfl) (fun _ _ _ h => h) (yieldsIf_run (by kernel_rfl) (fun W _ => by kernel_rfl)) S12 ?_
                refine held_take (i := 9) (v := .int .i64 kS) (some 124) rfl rfl (by kernel_rfl) (by kernel_rfl) (by kernel_rfl) (fun _ _ _ h => h) (yieldsIf_run (by kernel_rfl) (fun W _ => by kernel_rfl)) S12 ?_
                have hAR := hAR12
                have S13 : Below (wH1.heap.size) wH1 (W12.setRow (W2.heap.size) #[.int .i64 oSp, .slice aJd oSd.length cJd, .slice aJm oSm.length cJm]) := below_setRow S12 hGR _
                refine held_one (i := 11) (by kernel_rfl) ?_
                refine op_row (i := 11) rfl rfl rfl 28 (.tmp 18) (.tmp 123) rfl (W2.heap.size) #[.int .i64 oSp, .slice aJd oSd.length cJd, .slice aJm oSm.length cJm] (by kernel_rfl) (by kernel_rfl) 28 _ hAR12 (infoLawCol _ _ _) (by kernel_rfl) (by kernel_rfl) ?_
                refine ⟨S13, ?_⟩
                have hAR13 := hAR12.set #[.int .i64 oSp, .slice aJd oSd.length cJd, .slice aJm oSm.length cJm]
                refine held_take (i := 12) (v := .int .i64 kS) (some 19) rfl rfl (by kernel_rfl) (by kernel_rfl) (by kernel_rfl) (fun _ _ _ h => h) (yieldsIf_assign (by kernel_rfl) rfl (by kernel_rfl)) S13 ?_
                refine wpAnyH_done (by kernel_rfl) ?_ _
                simp only [Act.put, List.setIfInBounds_toArray, List.set_cons_zero, List.set_cons_succ]
                obtain ⟨WF, hWF⟩ : ∃ WF, WF = (W12.setRow (W2.heap.size) #[.int .i64 oSp, .slice aJd oSd.length cJd, .slice aJm oSm.length cJm]) := ⟨_, rfl⟩
                have hbf : Below wH1.heap.size wH1 WF := by rw [hWF]; exact S13
                have hrf : Rz WF (W2.heap.size) 28 #[.int .i64 oSp, .slice aJd oSd.length cJd, .slice aJm oSm.length cJm] := by rw [hWF]; exact hAR13
                have hGJ := hr12.same (Same.setRow #[.int .i64 oSp, .slice aJd oSd.length cJd, .slice aJm oSm.length cJm] (Or.inl hAR11.lt))
                rw [← hWF] at hGJ
                rw [← hWF]
                clear hWF
                go_wp2
                go_meet
                exact ⟨_, aJd, cJd, aJm, cJm, rfl, rfl, Lib.hid hbf, Lib.hid ⟨hrf.cell rfl, hrf.cell rfl, hrf.cell rfl, hrf.lt, hGJ.cx⟩⟩
        · obtain ⟨W14, hW14⟩ : ∃ W', W' = W1.alloc (.cells #[.int .i64 0, .slice none 0 0, .slice none 0 0] 28) := ⟨_, rfl⟩
          have hb14 : Below W1.heap.size W1 W14 := by rw [hW14]; exact below_alloc1 _ _
          have hAR14 : Rz W14 W1.heap.size 28 #[.int .i64 0, .slice none 0 0, .slice none 0 0] := by rw [hW14]; exact Rz.new _ _ _
          have S14 : Below (wH1.heap.size) wH1 W14 := S1.trans (hb14.mono (Nat.le_trans hB0 S1.size))
          have hGR : wH1.heap.size ≤ W1.heap.size := Nat.le_trans hB0 S1.size
          have hx0_14 := hx0_1.below hb14
          refine op_mem (i := 10) (v := .pointer (some ⟨W1.heap.size, 0, none⟩)) (w' := W14) (some 18) rfl rfl rfl (by rw [hW14]; go_simp) ?_
          refine ⟨S14, ?_⟩
          refine held_one (i := 3) (by kernel_rfl) ?_
          · refine op_enter (i := 3) (some 119) (f := 7) (args := #[.agg #[.int .i64 p1, dv1, mv1]]) rfl rfl rfl (by kernel_rfl) (toComplex_any p1 dv1 mv1 ds1 ms1 _ (HQ1.out _ S14).cx hds1 HMS1.out) ?_ (fun c w' h => by obtain ⟨_, _, he, _⟩ := h; cases he) (fun w' h => by obtain ⟨_, _, he, _⟩ := h; cases he)
            rintro ee W15 ⟨xdv1, xmv1, he, hc15, hb15⟩
            injection he with he
            subst he
            have S15 : Below (wH1.heap.size) wH1 W15 := S14.trans (hb15.mono (Nat.le_trans hB0 S14.size))
            have hAR15 := hAR14.next hb15
            have hx0_15 := hx0_14.below hb15
            have hx1_15 := hc15.zero
            refine ⟨S15, ?_⟩
            refine held_one (i := 5) (by kernel_rfl) ?_
            · refine op_enter (i := 5) (some 121) (f := 8) (args := #[.slice af2 fs2.length cf2]) rfl rfl rfl (by kernel_rfl) (to3_any _ fs2 _ (HQ2.out _ S15) HMS2.out) ?_ (fun c w' h => by obtain ⟨_, he, _⟩ := h; cases he) (fun w' h => by obtain ⟨_, he, _⟩ := h; cases he)
              rintro ee W16 ⟨xf2, he, hc16, hb16⟩
              injection he with he
              have he := he.symm
              subst he
              have S16 : Below (wH1.heap.size) wH1 W16 := S15.trans (hb16.mono (Nat.le_trans hB0 S15.size))
              have hAR16 := hAR15.next hb16
              have hx0_16 := hx0_15.below hb16
              have hx1_16 := hx1_15.below hb16
              have hx2_16 := hc16.lower (Nat.zero_le _)
              refine ⟨S16, ?_⟩
              refine held_one (i := 6) (by kernel_rfl) ?_
              · refine op_enter (i := 6) (some 122) (f := 9) (args := #[.agg #[.int .i64 p0, xdv0, xmv0], .agg #[.int .i64 p1, xdv1, xmv1], xf2]) rfl rfl rfl (by kernel_rfl) (coneOf_any p0 p1 _ _ _ _ _ ds0 ms0 ds1 ms1 fs2 _ (hx0_16) (hx1_16) (hx2_16) hds0 HMS0.out hds1 HMS1.out HMS2.out (HQG.out _ S16)) ?_ (fun c w' h => by obtain ⟨_, _, _, he, _⟩ := h; cases he) (fun w' h => by obtain ⟨_, _, _, he, _⟩ := h; cases he)
                rintro ee W17 ⟨u17, o17, k17, he, hr17, hb17, ho17⟩
                injection he with he
                subst he
                obtain ⟨rfl, rfl⟩ := RsOut.unique (fun _ a b ha hb => ha.trans hb.symm) HOS.out ho17
                obtain ⟨aJd, cJd, aJm, cJm, hu, hr17⟩ := hr17
                have hu : u17 = .agg #[.int .i64 oSp, .slice aJd oSd.length cJd, .slice aJm oSm.length cJm] := hu
                subst hu
                have S17 : Below (wH1.heap.size) wH1 W17 := S16.trans (hb17.mono (Nat.le_trans hB0 S16.size))
                have hAR17 := hAR16.next hb17
                refine ⟨S17, ?_⟩
                refine held_take (i := 7) (v := .tuple #[.agg #[.int .i64 oSp, .slice aJd oSd.length cJd, .slice aJm oSm.length cJm], .int .i64 kS]) (some 115) rfl rfl (by kernel_rfl) (by kernel_rfl) (by kernel_rfl) (fun _ _ _ h => h) (yieldsIf_move (by kernel_rfl) rfl (by kernel_rfl)) S17 ?_
                refine held_take (i := 8) (v := .agg #[.int .i64 oSp, .slice aJd oSd.length cJd, .slice aJm oSm.length cJm]) (some 123) rfl rfl (by kernel_rfl) (by kernel_rfl) (by kernel_rfl) (fun _ _ _ h => h) (yieldsIf_run (by kernel_rfl) (fun W _ => by kernel_rfl)) S17 ?_
                refine held_take (i := 9) (v := .int .i64 kS) (some 124) rfl rfl (by kernel_rfl) (by kernel_rfl) (by kernel_rfl) (fun _ _ _ h => h) (yieldsIf_run (by kernel_rfl) (fun W _ => by kernel_rfl)) S17 ?_
                have hAR := hAR17
                have S18 : Below (wH1.heap.size) wH1 (W17.setRow (W1.heap.size) #[.int .i64 oSp, .slice aJd oSd.length cJd, .slice aJm oSm.length cJm]) := below_setRow S17 hGR _
                refine held_one (i := 11) (by kernel_rfl) ?_
                refine op_row (i := 11) rfl rfl rfl 28 (.tmp 18) (.tmp 123) rfl (W1.heap.size) #[.int .i64 oSp, .slice aJd oSd.length cJd, .slice aJm oSm.length cJm] (by kernel_rfl) (by kernel_rfl) 28 _ hAR17 (infoLawCol _ _ _) (by kernel_rfl) (by kernel_rfl) ?_
                refine ⟨S18, ?_⟩
                have hAR18 := hAR17.set #[.int .i64 oSp, .slice aJd oSd.length cJd, .slice aJm oSm.length cJm]
                refine held_take (i := 12) (v := .int .i64 kS) (some 19) rfl rfl (by kernel_rfl) (by kernel_rfl) (by kernel_rfl) (fun _ _ _ h => h) (yieldsIf_assign (by kernel_rfl) rfl (by kernel_rfl)) S18 ?_
                refine wpAnyH_done (by kernel_rfl) ?_ _
                simp only [Act.put, List.setIfInBounds_toArray, List.set_cons_zero, List.set_cons_succ]
                obtain ⟨WF, hWF⟩ : ∃ WF, WF = (W17.setRow (W1.heap.size) #[.int .i64 oSp, .slice aJd oSd.length cJd, .slice aJm oSm.length cJm]) := ⟨_, rfl⟩
                have hbf : Below wH1.heap.size wH1 WF := by rw [hWF]; exact S18
                have hrf : Rz WF (W1.heap.size) 28 #[.int .i64 oSp, .slice aJd oSd.length cJd, .slice aJm oSm.length cJm] := by rw [hWF]; exact hAR18
                have hGJ := hr17.same (Same.setRow #[.int .i64 oSp, .slice aJd oSd.length cJd, .slice aJm oSm.length cJm] (Or.inl hAR16.lt))
                rw [← hWF] at hGJ
                rw [← hWF]
                clear hWF
                go_wp2
                go_meet
                exact ⟨_, aJd, cJd, aJm, cJm, rfl, rfl, Lib.hid hbf, Lib.hid ⟨hrf.cell rfl, hrf.cell rfl, hrf.cell rfl, hrf.lt, hGJ.cx⟩⟩
      · obtain ⟨W19, hW19⟩ : ∃ W', W' = wd.alloc (.cells #[.int .i64 0, .slice none 0 0, .slice none 0 0] 28) := ⟨_, rfl⟩
        have hb19 : Below wd.heap.size wd W19 := by rw [hW19]; exact below_alloc1 _ _
        have hAR19 : Rz W19 wd.heap.size 28 #[.int .i64 0, .slice none 0 0, .slice none 0 0] := by rw [hW19]; exact Rz.new _ _ _
        have S19 : Below (wH1.heap.size) wH1 W19 := S0.trans (hb19.mono (Nat.le_trans hB0 S0.size))
        have hGR : wH1.heap.size ≤ wd.heap.size := Nat.le_trans hB0 S0.size
        refine op_mem (i := 10) (v := .pointer (some ⟨wd.heap.size, 0, none⟩)) (w' := W19) (some 18) rfl rfl rfl (by rw [hW19]; go_simp) ?_
        refine ⟨S19, ?_⟩
        refine held_one (i := 1) (by kernel_rfl) ?_
        · refine op_enter (i := 1) (some 117) (f := 7) (args := #[.agg #[.int .i64 p0, dv0, mv0]]) rfl rfl rfl (by kernel_rfl) (toComplex_any p0 dv0 mv0 ds0 ms0 _ (HQ0.out _ S19).cx hds0 HMS0.out) ?_ (fun c w' h => by obtain ⟨_, _, he, _⟩ := h; cases he) (fun w' h => by obtain ⟨_, _, he, _⟩ := h; cases he)
          rintro ee W20 ⟨xdv0, xmv0, he, hc20, hb20⟩
          injection he with he
          subst he
          have S20 : Below (wH1.heap.size) wH1 W20 := S19.trans (hb20.mono (Nat.le_trans hB0 S19.size))
          have hAR20 := hAR19.next hb20
          have hx0_20 := hc20.zero
          refine ⟨S20, ?_⟩
          refine held_one (i := 3) (by kernel_rfl) ?_
          · refine op_enter (i := 3) (some 119) (f := 7) (args := #[.agg #[.int .i64 p1, dv1, mv1]]) rfl rfl rfl (by kernel_rfl) (toComplex_any p1 dv1 mv1 ds1 ms1 _ (HQ1.out _ S20).cx hds1 HMS1.out) ?_ (fun c w' h => by obtain ⟨_, _, he, _⟩ := h; cases he) (fun w' h => by obtain ⟨_, _, he, _⟩ := h; cases he)
            rintro ee W21 ⟨xdv1, xmv1, he, hc21, hb21⟩
            injection he with he
            subst he
            have S21 : Below (wH1.heap.size) wH1 W21 := S20.trans (hb21.mono (Nat.le_trans hB0 S20.size))
            have hAR21 := hAR20.next hb21
            have hx0_21 := hx0_20.below hb21
            have hx1_21 := hc21.zero
            refine ⟨S21, ?_⟩
            refine held_one (i := 5) (by kernel_rfl) ?_
            · refine op_enter (i := 5) (some 121) (f := 8) (args := #[.slice af2 fs2.length cf2]) rfl rfl rfl (by kernel_rfl) (to3_any _ fs2 _ (HQ2.out _ S21) HMS2.out) ?_ (fun c w' h => by obtain ⟨_, he, _⟩ := h; cases he) (fun w' h => by obtain ⟨_, he, _⟩ := h; cases he)
              rintro ee W22 ⟨xf2, he, hc22, hb22⟩
              injection he with he
              have he := he.symm
              subst he
              have S22 : Below (wH1.heap.size) wH1 W22 := S21.trans (hb22.mono (Nat.le_trans hB0 S21.size))
              have hAR22 := hAR21.next hb22
              have hx0_22 := hx0_21.below hb22
              have hx1_22 := hx1_21.below hb22
              have hx2_22 := hc22.lower (Nat.zero_le _)
              refine ⟨S22, ?_⟩
              refine held_one (i := 6) (by kernel_rfl) ?_
              · refine op_enter (i := 6) (some 122) (f := 9) (args := #[.agg #[.int .i64 p0, xdv0, xmv0], .agg #[.int .i64 p1, xdv1, xmv1], xf2]) rfl rfl rfl (by kernel_rfl) (coneOf_any p0 p1 _ _ _ _ _ ds0 ms0 ds1 ms1 fs2 _ (hx0_22) (hx1_22) (hx2_22) hds0 HMS0.out hds1 HMS1.out HMS2.out (HQG.out _ S22)) ?_ (fun c w' h => by obtain ⟨_, _, _, he, _⟩ := h; cases he) (fun w' h => by obtain ⟨_, _, _, he, _⟩ := h; cases he)
                rintro ee W23 ⟨u23, o23, k23, he, hr23, hb23, ho23⟩
                injection he with he
                subst he
                obtain ⟨rfl, rfl⟩ := RsOut.unique (fun _ a b ha hb => ha.trans hb.symm) HOS.out ho23
                obtain ⟨aJd, cJd, aJm, cJm, hu, hr23⟩ := hr23
                have hu : u23 = .agg #[.int .i64 oSp, .slice aJd oSd.length cJd, .slice aJm oSm.length cJm] := hu
                subst hu
                have S23 : Below (wH1.heap.size) wH1 W23 := S22.trans (hb23.mono (Nat.le_trans hB0 S22.size))
                have hAR23 := hAR22.next hb23
                refine ⟨S23, ?_⟩
                refine held_take (i := 7) (v := .tuple #[.agg #[.int .i64 oSp, .slice aJd oSd.length cJd, .slice aJm oSm.length cJm], .int .i64 kS]) (some 115) rfl rfl (by kernel_rfl) (by kernel_rfl) (by kernel_rfl) (fun _ _ _ h => h) (yieldsIf_move (by kernel_rfl) rfl (by kernel_rfl)) S23 ?_
                refine held_take (i := 8) (v := .agg #[.int .i64 oSp, .slice aJd oSd.length cJd, .slice aJm oSm.length cJm]) (some 123) rfl rfl (by kernel_rfl) (by kernel_rfl) (by kernel_rfl) (fun _ _ _ h => h) (yieldsIf_run (by kernel_rfl) (fun W _ => by kernel_rfl)) S23 ?_
                refine held_take (i := 9) (v := .int .i64 kS) (some 124) rfl rfl (by kernel_rfl) (by kernel_rfl) (by kernel_rfl) (fun _ _ _ h => h) (yieldsIf_run (by kernel_rfl) (fun W _ => by kernel_rfl)) S23 ?_
                have hAR := hAR23
                have S24 : Below (wH1.heap.size) wH1 (W23.setRow (wd.heap.size) #[.int .i64 oSp, .slice aJd oSd.length cJd, .slice aJm oSm.length cJm]) := below_setRow S23 hGR _
                refine held_one (i := 11) (by kernel_rfl) ?_
                refine op_row (i := 11) rfl rfl rfl 28 (.tmp 18) (.tmp 123) rfl (wd.heap.size) #[.int .i64 oSp, .slice aJd oSd.length cJd, .slice aJm oSm.length cJm] (by kernel_rfl) (by kernel_rfl) 28 _ hAR23 (infoLawCol _ _ _) (by kernel_rfl) (by kernel_rfl) ?_
                refine ⟨S24, ?_⟩
                have hAR24 := hAR23.set #[.int .i64 oSp, .slice aJd oSd.length cJd, .slice aJm oSm.length cJm]
                refine held_take (i := 12) (v := .int .i64 kS) (some 19) rfl rfl (by kernel_rfl) (by kernel_rfl) (by kernel_rfl) (fun _ _ _ h => h) (yieldsIf_assign (by kernel_rfl) rfl (by kernel_rfl)) S24 ?_
                refine wpAnyH_done (by kernel_rfl) ?_ _
                simp only [Act.put, List.setIfInBounds_toArray, List.set_cons_zero, List.set_cons_succ]
                obtain ⟨WF, hWF⟩ : ∃ WF, WF = (W23.setRow (wd.heap.size) #[.int .i64 oSp, .slice aJd oSd.length cJd, .slice aJm oSm.length cJm]) := ⟨_, rfl⟩
                have hbf : Below wH1.heap.size wH1 WF := by rw [hWF]; exact S24
                have hrf : Rz WF (wd.heap.size) 28 #[.int .i64 oSp, .slice aJd oSd.length cJd, .slice aJm oSm.length cJm] := by rw [hWF]; exact hAR24
                have hGJ := hr23.same (Same.setRow #[.int .i64 oSp, .slice aJd oSd.length cJd, .slice aJm oSm.length cJm] (Or.inl hAR22.lt))
                rw [← hWF] at hGJ
                rw [← hWF]
                clear hWF
                go_wp2
                go_meet
                exact ⟨_, aJd, cJd, aJm, cJm, rfl, rfl, Lib.hid hbf, Lib.hid ⟨hrf.cell rfl, hrf.cell rfl, hrf.cell rfl, hrf.lt, hGJ.cx⟩⟩
    case rest =>
      obtain ⟨gJ, aJd, cJd, aJm, cJm, rfl, rfl, HBz, HYJ⟩ := hcut
      obtain ⟨wJ, hwJ⟩ : ∃ wJ : World, wJ = wc := ⟨_, rfl⟩
      subst hwJ
      have hsJ : wH1.heap.size ≤ wJ.heap.size := HBz.out.size
      have hb := HBz.out
      clear HBz HQ0 HQ1 HQ2 HQG
      have HB' := Lib.hid (HB.out.trans (hb.mono (by omega)))
      have HK' := Lib.hid (HK.out.trans (hb.mono (by omega)))
      have HG' := Lib.hid (HG.out.same (Same.of_below hb (by omega)))
      have HCG' := Lib.hid (HCG.out.next hb)
      clear hb HB HK HG HCG
      have HB := HB'
      have HK := HK'
      have HG := HG'
      have HCG := HCG'
      clear HB' HK' HG' HCG'
      have s0 := (HYS.out.next HK.out).c0
      have s1 := (HYS.out.next HK.out).c1
      have s2 := (HYS.out.next HK.out).c2
      have j0 := HYJ.out.c0
      have j1 := HYJ.out.c1
      have j2 := HYJ.out.c2
      go_wp2_with fail
      refine (eqComplex_true oSp _ _ _ _ oSd oSm _ HYJ.out.cx (HYS.out.next HK.out).cx hbd1 HBD.out.2).mono ?_
      rintro ee wK ⟨rfl, hb⟩
      have hsK : wJ.heap.size ≤ wK.heap.size := hb.size
      clear s0 s1 s2 j0 j1 j2
      clear HYJ
      have HB' := Lib.hid (HB.out.trans (hb.mono (by omega)))
      have HK' := Lib.hid (HK.out.trans (hb.mono (by omega)))
      have HG' := Lib.hid (HG.out.same (Same.of_below hb (by omega)))
      have HCG' := Lib.hid (HCG.out.next hb)
      clear hb HB HK HG HCG
      have HB := HB'
      have HK := HK'
      have HG := HG'
      have HCG := HCG'
      clear HB' HK' HG' HCG'
      have g0 := HCG.out.c0
      have g1 := HCG.out.c1
      have g2 := HCG.out.c2
      go_wp2_with fail
      refine (heldRC_any oSp _ _ mm _ HG.out (by omega)).mono ?_
      rintro ee wH2 ⟨rfl, hb⟩
      have hsH2 : wK.heap.size ≤ wH2.heap.size := hb.size
      clear g0 g1 g2
      have HB' := Lib.hid (HB.out.trans (hb.mono (by omega)))
      have HK' := Lib.hid (HK.out.trans (hb.mono (by omega)))
      have HG' := Lib.hid (HG.out.same (Same.of_below hb (by omega)))
      have HCG' := Lib.hid (HCG.out.next hb)
      clear hb HB HK HG HCG
      have HB := HB'
      have HK := HK'
      have HG := HG'
      have HCG := HCG'
      clear HB' HK' HG' HCG'
      go_wp2
      go_ret
      exact ⟨rfl, HNW.out _ HB.out⟩
end Go.Proofs.YtpdkfidmmjlmnabDoor


namespace Go.Proofs.YtpdkfidmmjlmnabDoor
open Go.ChangeShapes Go.WideShapes Go.ChangeAt Go.RowKit

theorem dor_g : Tryd.prog.globalNamed "loop.example/g01273/impl.errNoChainMap" = some 0 := by kernel_rfl
theorem dor_gt : (Tryd.prog.globals[0]?).map (·.type) = some 66 := by kernel_rfl
theorem dor_star : "*" ++ "errors.errorString" = "*errors.errorString" := by decide
theorem dor_row (u : TypeId) (h : Tryd.prog.typeName? 3 u = some "*errors.errorString") : u = 99 :=
  typeName_ptr_named (nm := "errors.errorString") (by rw [dor_star]; kernel_rfl) (by kernel_rfl) (by decide) u (by rw [dor_star]; exact h)
theorem dor_ce : Tryd.prog.cellsOf 117 = 1 := by kernel_rfl
theorem dor_cs : Tryd.prog.cellsOf 9 = 1 := by kernel_rfl
abbrev dorLaid : List (String × DataW Unit) := [("loop.example/g01273/impl.errNoChainMap", .iface "*errors.errorString" (.ptr (.agg [.lit (.string [97, 32, 102, 97, 109, 105, 108, 121, 32, 105, 115, 32, 110, 111, 32, 99, 104, 97, 105, 110, 32, 109, 97, 112])])))]
theorem dor_open {W : World} (h : laidMet Tryd.prog dorLaid W) : ∃ a : Addr, W.var? Tryd.prog "loop.example/g01273/impl.errNoChainMap" = some #[.iface 99 (.pointer (some a))] := by
  obtain ⟨a, s, hv, _⟩ := laid_sentinel h dor_g dor_gt Tryd.underlying66 dor_row Tryd.underlying99 Tryd.underlying117 rfl rfl Tryd.underlying9 dor_ce dor_cs
  exact ⟨a, hv⟩
theorem dor_cell {W : World} {x : Value} (h : W.var? Tryd.prog "loop.example/g01273/impl.errNoChainMap" = some #[x]) : W.cell? ⟨0, 0, none⟩ = some x := by simpa using World.var?_cell dor_g h 0
theorem dor_below {W W' : World} {n : String} {cs : Array Value} (hb : Below W.heap.size W W') (h : W.var? Tryd.prog n = some cs) : W'.var? Tryd.prog n = some cs := by
  unfold World.var? at h ⊢
  cases hg : Tryd.prog.globalNamed n with
  | none => simp [hg] at h
  | some g =>
    simp only [hg, Option.bind_some] at h ⊢
    have hlt : g < W.heap.size := by
      rcases Nat.lt_or_ge g W.heap.size with h' | h'
      · exact h'
      · simp [Array.getElem?_eq_none h'] at h
    rw [hb.block g hlt]
    exact h
theorem dor_vars {H : Type} (enc : TypeId × Value → H) {W : World} {x : Value} (h : W.var? Tryd.prog "loop.example/g01273/impl.errNoChainMap" = some #[x]) (ix : IsIface x) (sp : Nat → Bool) :
    DataW.TrodVars enc Tryd.prog W sp ["loop.example/g01273/impl.errNoChainMap"] [tok enc x] [.cell 0 0] :=
  vars_read1 enc dor_g dor_gt Tryd.underlying66 h ix sp

abbrev dorText : ByteArray := { data := #[97, 32, 102, 97, 109, 105, 108, 121, 32, 105, 115, 32, 110, 111, 32, 99, 104, 97, 105, 110, 32, 109, 97, 112] }
noncomputable def dorLow : Nat := (World.holding Tryd.prog default ⟨#[], #[], []⟩).heap.size
noncomputable def dorWorld (os : Os) : World :=
  let w0 := World.holding Tryd.prog os ⟨#[.cells #[.string dorText] 117], #[], []⟩
  { w0 with heap := w0.heap.modify 0 fun
      | .cells _ t frozen => .cells #[.iface 99 (.pointer (some ⟨dorLow, 0, none⟩))] t frozen
      | o => o }
theorem dor_met (os : Os) (args : Array Value) : laidMet Tryd.prog dorLaid ((dorWorld os).forCall (fun _ _ => 0) ⟨#[], args, []⟩).memory :=
  laidMet_of_run (ps := [.cell 0 0, .cell dorLow 0]) 8 (by kernel_rfl) (by kernel_rfl) (by kernel_rfl)
end Go.Proofs.YtpdkfidmmjlmnabDoor

