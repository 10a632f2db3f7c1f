/-
  Texts that ProofCol needs, part 4.
-/
import Derived.Test.YtpdkfidmmjlmnabDoorZi3
import Derived.Deep.AppendLies
import Derived.Laws.EntriesVeiled
import Derived.Deep.QuietTactic
import Derived.Deep.RegionHeld3
import Derived.BigRegion
import Derived.Deep.Cut
import Derived.Deep.CutRange
import Derived.StillTailTactics
namespace Go.Proofs.YtpdkfidmmjlmnabDoor
open Go.RowKit

section
variable {w w' : World} {base size n k : Nat} {e t : TypeId} {u v : Value} {xs : List Value} {g : Nat} {f : Nat → Value}
theorem own_ne_row (ho : w.ownsRow base e size v n xs) (hr : w.rowIs g t k f) (h : t ≠ e) : some g ≠ v.ownBlock := by
  intro e2
  obtain ⟨c, hc, _⟩ := hr
  rcases ho.2 with ⟨rfl, _⟩ | ⟨g2, cap2, cur2, rfl, _, hh2, _⟩
  · simp [Value.ownBlock] at e2
  · simp [Value.ownBlock] at e2
    subst e2
    rw [hc] at hh2
    simp at hh2
    exact h hh2.2
theorem row_grown (hr : w.rowIs g t k f) (ho : w.ownsRow base e size v n xs) (h : t ≠ e) (hg : w.grownBy w' v.ownBlock) : w'.rowIs g t k f := hr.of_block (hg.block g hr.lt (own_ne_row ho hr h))
theorem owns_off (ho : w.ownsRow base e size u n xs) (hr : w.rowIs g t k f) (h : t ≠ e) (i : Nat) (x : Value) : (w.setCell ⟨g, i, none⟩ x).ownsRow base e size u n xs := by
  obtain ⟨c, hc, _⟩ := hr
  refine ⟨ho.1, ?_⟩
  rcases ho.2 with h2 | ⟨g2, cap, cur, hu, hb, hh, r⟩
  · exact Or.inl h2
  · refine Or.inr ⟨g2, cap, cur, hu, hb, ?_, r⟩
    rw [Below.heap_setCell w _ x g2 (by
      intro e2
      have e3 : g2 = g := e2
      subst e3
      rw [hc] at hh
      simp at hh
      exact h hh.2)]
    exact hh
end
theorem G1.off {w : World} {g k : Nat} {t : TypeId} {f : Nat → Value} {u : Value} {xs : List Int} (h : G1 w u xs) (hr : w.rowIs g t k f) (ht : t ≠ 2) (i : Nat) (x : Value) : G1 (w.setCell ⟨g, i, none⟩ x) u xs := owns_off h hr ht i x
theorem Gb.off {base : Nat} {w : World} {g k : Nat} {t : TypeId} {f : Nat → Value} {u : Value} {xs : List Int} (h : Gb base w u xs) (hr : w.rowIs g t k f) (ht : t ≠ 2) (i : Nat) (x : Value) : Gb base (w.setCell ⟨g, i, none⟩ x) u xs := owns_off h hr ht i x
theorem Gs.off {base : Nat} {w : World} {g k : Nat} {t : TypeId} {f : Nat → Value} {u : Value} {xs : List (List Int)} (h : Gs base w u xs) (hr : w.rowIs g t k f) (ht : t ≠ 2 ∧ t ≠ 22) (i : Nat) (x : Value) : Gs base (w.setCell ⟨g, i, none⟩ x) u xs := by
  obtain ⟨vs, ho, h1⟩ := h
  exact ⟨vs, owns_off ho hr ht.2 i x, fun k a b => (h1 k a b).off hr ht.1 i x⟩
theorem Gt.off {base : Nat} {w : World} {g k : Nat} {t : TypeId} {f : Nat → Value} {u : Value} {xs : List (List (List Int))} (h : Gt base w u xs) (hr : w.rowIs g t k f) (ht : t ≠ 2 ∧ t ≠ 22 ∧ t ≠ 39) (i : Nat) (x : Value) : Gt base (w.setCell ⟨g, i, none⟩ x) u xs := by
  obtain ⟨vs, ho, h1⟩ := h
  exact ⟨vs, owns_off ho hr ht.2.2 i x, fun k a b => (h1 k a b).off hr ⟨ht.1, ht.2.1⟩ i x⟩
theorem coT : 28 ≠ 2 ∧ 28 ≠ 22 ∧ 28 ≠ 39 := by decide

section
variable {o : Oper} {a : Act} {w : World} {K : Act → World → Prop} {Q : Exit → Act → World → Prop}
theorem wp_appendB1 (dst : Option Tmp) (hdst : o.dst = dst) (s x : Operand) (ho : o.op = .call { callee := .builtin .append, args := #[s, x], argTypes := #[22, 22] }) (base : Nat) (v : Value) (xs : List Int) (hs : a.eval s = v) (hown : Gb base w v xs)
    (b : Nat) (hx : a.eval x = .slice (some ⟨b, 0, none⟩) 1 1) (z : Int) (hc : w.cell? ⟨b, 0, none⟩ = some (.int .i64 z)) (hl : xs.length ≤ 2097151) (hb : base ≤ w.heap.size)
    (h : ∀ g cap w', Gb base w' (.slice (some ⟨g, 0, none⟩) (xs.length + 1) cap) (xs ++ [z]) → w.grownBy w' v.ownBlock → K (a.put dst (.slice (some ⟨g, 0, none⟩) (xs.length + 1) cap)) w') : o.wp Tryd.prog a w K Q := by
  obtain ⟨i, hi, hz, hs1, hb1⟩ := info_parts Tryd.infoI
  subst hdst
  refine wp_append_lies w s x 22 ho base 2 i _ 1 8 Tryd.underlying22 hi hz hs1 hb1 rfl (by decide) v xs.length (xs.map (Value.int .i64)) hs hown ⟨b, 0, none⟩ 1 1 [.int .i64 z] hx rfl ?_ ?_ (by omega) (by unfold maxLen; omega) (by omega) hb _ rfl (fun g cap w' h1 h2 _ _ => h g cap w' (by simpa [Gb] using h1) h2)
  · intro j u hj
    match j, hj with
    | 0, hj =>
      simp at hj
      subst hj
      exact hc
  · intro u hu
    simp at hu
    subst hu
    rfl
theorem wp_appendT1 (dst : Option Tmp) (hdst : o.dst = dst) (s x : Operand) (ho : o.op = .call { callee := .builtin .append, args := #[s, x], argTypes := #[23, 23] }) (base : Nat) (v : Value) (ts : List (List (List Int))) (hs : a.eval s = v) (hown : Gt base w v ts)
    (b : Nat) (hx : a.eval x = .slice (some ⟨b, 0, none⟩) 1 1) (ar : Option Addr) (nr cr : Nat) (hc : w.cell? ⟨b, 0, none⟩ = some (.slice ar nr cr)) (y : List (List Int)) (hy : Gs 0 w (.slice ar nr cr) y) (hl : ts.length ≤ 2097151) (hb : base ≤ w.heap.size)
    (h : ∀ g cap w', Gt base w' (.slice (some ⟨g, 0, none⟩) (ts.length + 1) cap) (ts ++ [y]) → w.grownBy w' v.ownBlock → K (a.put dst (.slice (some ⟨g, 0, none⟩) (ts.length + 1) cap)) w') : o.wp Tryd.prog a w K Q := by
  obtain ⟨i, hi, hz, hs1, hb1⟩ := info_parts Tryd.infoSS
  obtain ⟨vs, hvo, hvr⟩ := hown
  subst hdst
  refine wp_append_lies w s x 23 ho base 39 i _ 1 24 Tryd.underlying23 hi hz hs1 hb1 rfl (by decide) v ts.length vs hs hvo ⟨b, 0, none⟩ 1 1 [.slice ar nr cr] hx rfl ?_ ?_ (by omega) (by unfold maxLen; omega) (by omega) hb _ rfl (fun g cap w' h1 h2 _ _ => h g cap w' (Gt.push hvo hvr hy h1 h2) h2)
  · intro j u hj
    match j, hj with
    | 0, hj =>
      simp at hj
      subst hj
      exact hc
  · intro u hu
    simp at hu
    subst hu
    rfl
end
section
variable {P : Program} {ops : Array Oper} {Q : Exit → Act → World → Prop} {md : Region.Mode} {S : World → Prop}
/-- An operation that makes memory, alone to come up. -/
theorem held_mem {i : Nat} {oi : Oper} {fuel : Nat} {listed : Array Bool} {a : Act} {w w' : World} {v : Value} (d : Option Tmp) (hr : Region.ready md ops listed = [i]) (hi : ops[i]? = some oi) (hg : oi.guard = none) (hd : oi.dst = d)
    (h : (execOp a.eval oi).run P w = .ok (.value v) w') (hS : S w') (hh : wpAnyH P md ops Q S fuel (listed.setIfInBounds i true) (a.put d v) w') : wpAnyH P md ops Q S (fuel + 1) listed a w := by
  subst hd
  refine held_call hr hi hg ?_
  unfold Oper.wp
  rw [h]
  exact ⟨hS, hh⟩
end

/-- A complex that the model gathers: its box at block g, its two lists. -/
structure Sd (w1 wr : World) (g : Nat) (p : Int) (v vm : Value) (xs : List Int) (ts : List (List (List Int))) : Prop where
  below : Below w1.heap.size w1 wr
  lo : w1.heap.size ≤ g
  box : wr.rowIs g 28 3 (sel3 (.int .i64 p) v vm)
  dims : Gb w1.heap.size wr v xs
  maps : Gt w1.heap.size wr vm ts
theorem Sd.next {w1 wr wa : World} {g : Nat} {p : Int} {v vm : Value} {xs : List Int} {ts : List (List (List Int))} (h : Sd w1 wr g p v vm xs ts) (hb : Below wr.heap.size wr wa) : Sd w1 wa g p v vm xs ts :=
  ⟨h.below.trans (hb.mono h.below.size), h.lo, h.box.of_block (hb.block _ h.box.lt), h.dims.below hb, h.maps.below hb⟩
theorem Sd.stepD {w1 wa w' : World} {g : Nat} {p : Int} {v vm v' : Value} {xs xs' : List Int} (h : Sd w1 wa g p v vm xs []) (hg : wa.grownBy w' v.ownBlock) (hn : Gb w1.heap.size w' v' xs') : Sd w1 (w'.setCell ⟨g, 1, none⟩ v') g p v' vm xs' [] := by
  have hr := row_grown h.box h.dims coT.1 hg
  have hb := h.below.grown hg h.below.size (fun g hg => (h.dims.lt g hg).1)
  obtain ⟨vs, ho, _⟩ := h.maps
  have hm : Gt w1.heap.size w' vm [] := ⟨vs, owns_grown ho h.dims (by decide) hg, fun k _ h2 => absurd h2 (Nat.not_lt_zero _)⟩
  refine ⟨hb.setCell h.lo _, h.lo, (hr.set 1 v').congr (fun j hj => ?_), hn.off hr coT.1 _ _, hm.off hr coT _ _⟩
  match j, hj with
  | 0, _ => rfl
  | 1, _ => rfl
  | 2, _ => rfl
theorem Sd.stepM {w1 wa w' : World} {g : Nat} {p : Int} {v vm v' : Value} {xs : List Int} {ts ts' : List (List (List Int))} (h : Sd w1 wa g p v vm xs ts) (hg : wa.grownBy w' vm.ownBlock) (hn : Gt w1.heap.size w' v' ts') : Sd w1 (w'.setCell ⟨g, 2, none⟩ v') g p v v' xs ts' := by
  obtain ⟨vs, ho, _⟩ := h.maps
  have hr := row_grown h.box ho coT.2.2 hg
  have hb := h.below.grown hg h.below.size (fun g hg => (h.maps.lt g hg).1)
  have hd : Gb w1.heap.size w' v xs := owns_grown h.dims ho (by decide) hg
  refine ⟨hb.setCell h.lo _, h.lo, (hr.set 2 v').congr (fun j hj => ?_), hd.off hr coT.1 _ _, hn.off hr coT _ _⟩
  match j, hj with
  | 0, _ => rfl
  | 1, _ => rfl
  | 2, _ => rfl
end Go.Proofs.YtpdkfidmmjlmnabDoor


namespace Go.Proofs.YtpdkfidmmjlmnabDoor
open Go.RowKit

section
variable {P : Program} {ops : Array Oper} {Q : Exit → Act → World → Prop} {md : Region.Mode} {S : World → Prop}
theorem held_one {i : Nat} {fuel : Nat} {listed : Array Bool} {a : Act} {w : World} (hr : Region.ready md ops listed = [i])
    (h1 : wpOp P ops Q i (fun a' w' => S w' ∧ wpAnyH P md ops Q S fuel (listed.setIfInBounds i true) a' w') a w) : wpAnyH P md ops Q S (fuel + 1) listed a w :=
  wpAnyH_all hr (by simp) (fun k hk => by obtain rfl := List.mem_singleton.1 hk; exact h1)
theorem held_two {i j : Nat} {fuel : Nat} {listed : Array Bool} {a : Act} {w : World} (hr : Region.ready md ops listed = [i, j])
    (h1 : wpOp P ops Q i (fun a' w' => S w' ∧ wpAnyH P md ops Q S fuel (listed.setIfInBounds i true) a' w') a w)
    (h2 : wpOp P ops Q j (fun a' w' => S w' ∧ wpAnyH P md ops Q S fuel (listed.setIfInBounds j true) a' w') a w) : wpAnyH P md ops Q S (fuel + 1) listed a w :=
  wpAnyH_all hr (by simp) (fun k hk => by
    rcases List.mem_cons.1 hk with rfl | hk
    · exact h1
    · obtain rfl := List.mem_singleton.1 hk; exact h2)
theorem held_three {i j l : Nat} {fuel : Nat} {listed : Array Bool} {a : Act} {w : World} (hr : Region.ready md ops listed = [i, j, l])
    (h1 : wpOp P ops Q i (fun a' w' => S w' ∧ wpAnyH P md ops Q S fuel (listed.setIfInBounds i true) a' w') a w)
    (h2 : wpOp P ops Q j (fun a' w' => S w' ∧ wpAnyH P md ops Q S fuel (listed.setIfInBounds j true) a' w') a w)
    (h3 : wpOp P ops Q l (fun a' w' => S w' ∧ wpAnyH P md ops Q S fuel (listed.setIfInBounds l true) a' w') a w) : wpAnyH P md ops Q S (fuel + 1) listed a w :=
  wpAnyH_all hr (by simp) (fun k hk => by
    rcases List.mem_cons.1 hk with rfl | hk
    · exact h1
    · rcases List.mem_cons.1 hk with rfl | hk
      · exact h2
      · obtain rfl := List.mem_singleton.1 hk; exact h3)
theorem op_plain {i : Nat} {oi : Oper} {K : Act → World → Prop} {a : Act} {w : World} (hi : ops[i]? = some oi) (hg : oi.guard = none) (h : oi.wp P a w K Q) : wpOp P ops Q i K a w := by
  unfold wpOp
  rw [hi]
  have hw : Region.wanted oi (yielded ops a.tmps) = true := by unfold Region.wanted; rw [hg]
  simp only [hw, if_true]
  exact Or.inl h
theorem op_enter {i : Nat} {oi : Oper} {K : Act → World → Prop} {a : Act} {w : World} (d : Option Tmp) {f : FuncId} {args : Array Value} (hi : ops[i]? = some oi) (hg : oi.guard = none) (hd : oi.dst = d)
    (h : (execOp a.eval oi).run P w = .ok (.enter f args) w) {R : Ending → World → Prop} (hc : Calls P f args w R) (hR : ∀ v w', R (.returned v) w' → K (a.put d v) w') (h2 : ∀ c w', ¬ R (.panicked c) w') (h3 : ∀ w', ¬ R .outgrown w') : wpOp P ops Q i K a w :=
  op_plain hi hg (wp_enter h hc (fun v w' hv => by rw [hd]; exact hR v w' hv) h2 h3)
theorem op_mem {i : Nat} {oi : Oper} {K : Act → World → Prop} {a : Act} {w w' : World} {v : Value} (d : Option Tmp) (hi : ops[i]? = some oi) (hg : oi.guard = none) (hd : oi.dst = d)
    (h : (execOp a.eval oi).run P w = .ok (.value v) w') (hK : K (a.put d v) w') : wpOp P ops Q i K a w := by
  subst hd
  refine op_plain hi hg ?_
  unfold Oper.wp
  rw [h]
  exact hK
theorem op_row {i : Nat} {oi : Oper} {K : Act → World → Prop} {a : Act} {w : World} (hi : ops[i]? = some oi) (hgd : oi.guard = none) (hd : oi.dst = none) (ty : TypeId) (x y : Operand) (ho : oi.op = .store ty x y)
    (g : Nat) (cells : Array Value) (hx : a.eval x = .pointer (some ⟨g, 0, none⟩)) (hy : a.eval y = .agg cells) (t : TypeId) (old : Array Value) (hg : w.heap[g]? = some (.cells old t (0, 0))) (hs : (P.info? ty).map (·.size) = some cells.size)
    (hold : old.size = cells.size) (h1 : cells.all (·.oneCell') = true) (hK : K a (w.setRow g cells)) : wpOp P ops Q i K a w :=
  op_plain hi hgd (wp_store_row ty x y ho g cells hx hy t old hg hs hold h1 (by rw [hd]; exact hK))
end
/-- A block of cells that may be written. -/
def Rz (W : World) (g : Nat) (t : TypeId) (cs : Array Value) : Prop := W.heap[g]? = some (.cells cs t (0, 0))
theorem Rz.lt {W : World} {g : Nat} {t : TypeId} {cs : Array Value} (h : Rz W g t cs) : g < W.heap.size := (Array.getElem?_eq_some_iff.1 h).1
theorem Rz.next {W W' : World} {g : Nat} {t : TypeId} {cs : Array Value} (h : Rz W g t cs) (hb : Below W.heap.size W W') : Rz W' g t cs := (hb.block g h.lt).trans h
theorem Rz.new (W : World) (t : TypeId) (cs : Array Value) : Rz (W.alloc (.cells cs t)) W.heap.size t cs := by simpa [Rz] using heap_alloc_new W (.cells cs t)
theorem Rz.set {W : World} {g : Nat} {t : TypeId} {cs : Array Value} (h : Rz W g t cs) (x : Array Value) : Rz (W.setRow g x) g t x := setRow_heap W g cs x t _ h
theorem Rz.off {W : World} {g g' : Nat} {t : TypeId} {cs : Array Value} (h : Rz W g t cs) (hne : g ≠ g') (x : Array Value) : Rz (W.setRow g' x) g t cs := (setRow_other W g' g x hne).trans h
theorem Rz.cell {W : World} {g : Nat} {t : TypeId} {cs : Array Value} (h : Rz W g t cs) {i : Nat} {v : Value} (hv : cs[i]? = some v) : W.cell? ⟨g, i, none⟩ = some v := by
  have h' : W.heap[g]? = some (.cells cs t (0, 0)) := h
  simp [World.cell?, h', hv]
end Go.Proofs.YtpdkfidmmjlmnabDoor


namespace Go.Proofs.YtpdkfidmmjlmnabDoor
open Go.RowKit
theorem hload3 (w : World) {b : Nat} {x y z : Value} (c0 : w.cell? ⟨b, 0, none⟩ = some x) (c1 : w.cell? ⟨b, 1, none⟩ = some y) (c2 : w.cell? ⟨b, 2, none⟩ = some z) : (Instr.loadAt 28 (.pointer (some ⟨b, 0, none⟩))).run Tryd.prog w = .ok (.agg #[x, y, z]) w := by go_simp
theorem hload3x {w0 w : World} {b : Nat} {p : Int} {dv mv : Value} {ds : List Int} {ms : List (List (List Int))} (h : Bx w0 w b p dv mv ds ms) : (Instr.loadAt 28 (.pointer (some ⟨b, 0, none⟩))).run Tryd.prog w = .ok (.agg #[.int .i64 p, dv, mv]) w := hload3 w h.c0 h.c1 h.c2
theorem haddA {a b s : Int} (h : IntKind.i64.wrap (a + b) = s) (w : World) : (binOp .add 2 (.int .i64 a) (.int .i64 b)).run Tryd.prog w = .ok (.int .i64 s) w := by go_simp
theorem hloadD (w : World) {b o : Nat} {x : Value} (h : w.cell? ⟨b, o, none⟩ = some x) : (Instr.loadAt 22 (.pointer (some ⟨b, o, none⟩))).run Tryd.prog w = .ok x w := by go_simp
theorem hloadM (w : World) {b o : Nat} {x : Value} (h : w.cell? ⟨b, o, none⟩ = some x) : (Instr.loadAt 23 (.pointer (some ⟨b, o, none⟩))).run Tryd.prog w = .ok x w := by go_simp
theorem hsubA {a b s : Int} (h : IntKind.i64.wrap (a - b) = s) (w : World) : (binOp .sub 2 (.int .i64 a) (.int .i64 b)).run Tryd.prog w = .ok (.int .i64 s) w := by go_simp
theorem hmulA {a b s : Int} (h : IntKind.i64.wrap (a * b) = s) (w : World) : (binOp .mul 2 (.int .i64 a) (.int .i64 b)).run Tryd.prog w = .ok (.int .i64 s) w := by go_simp
section
variable {P : Program} {ops : Array Oper} {Q : Exit → Act → World → Prop} {md : Region.Mode} {S : World → Prop}
theorem op_make {i : Nat} {oi : Oper} {K : Act → World → Prop} {a : Act} {w w' : World} {v x y : Value} (d : Option Tmp) (t : TypeId) (l c : Operand) (hi : ops[i]? = some oi) (hg : oi.guard = none) (hd : oi.dst = d) (ho : oi.op = .makeSlice t l c) (hl : a.eval l = x) (hc : a.eval c = y)
    (h : (Instr.makeSlice t x y).run P w = .ok v w') (hK : K (a.put d v) w') : wpOp P ops Q i K a w :=
  op_mem d hi hg hd (by simp [execOp, ho, hl, hc, h, Result.andThen]) hK
end
theorem infoCo (y0 y1 y2 : Value) : (Tryd.prog.info? 28).map (·.size) = some (#[y0, y1, y2] : Array Value).size := by kernel_rfl
end Go.Proofs.YtpdkfidmmjlmnabDoor


namespace Go.Proofs.YtpdkfidmmjlmnabDoor
open Go.RowKit

/-- A pair of basis vectors, its key's datum. -/
def pv (i a j c : Int) : Value := .agg #[.int .i64 i, .int .i64 a, .int .i64 j, .int .i64 c]
end Go.Proofs.YtpdkfidmmjlmnabDoor


namespace Go.Proofs.YtpdkfidmmjlmnabDoor
open Go.RowKit

set_option maxHeartbeats 1600000 in
theorem identityTable_any (n : Nat) (w : World) (hn : n ≤ 1048576) : Calls Tryd.prog 75 #[.int .i64 n] w (MatR n n (fun j i => if i = j then 1 else 0) w) := by
  go_enter Tryd.func75, Tryd.ntmps75
  go_wp2_with fail
  refine (zeroTable_any n n _ hn hn).mono ?_
  rintro e w1 ⟨rfl, hm⟩
  have HM : Hid (Mat w w1 n n (fun j i => if j < 0 ∧ i = j then 1 else 0)) := Lib.hid (hm.congr (fun j _ i _ => by simp))
  clear hm
  go_wp2
  go_loopw [10] (fun i wr => ∃ (k : Nat), k ≤ n ∧ i = .int .i64 k ∧ Hid (Mat w wr n n (fun j i => if j < k ∧ i = j then 1 else 0))) (fun i _ => n - (intOf i).toNat)
  case atStart => exact ⟨0, Nat.zero_le _, rfl, HM⟩
  case round =>
    clear HM
    obtain ⟨k, hk, rfl, HM⟩ := hrel
    by_cases hlt : k < n
    · have htop := HM.out.top.cell hlt
      have hcel := (HM.out.rows k hlt).cell hlt
      have hfz := (HM.out.rows k hlt).frozen k
      have HS : Hid (Mat w (wr.setCell ⟨w.heap.size + 1 + k, k, none⟩ (.int .i64 1)) n n (fun j i => if j < k + 1 ∧ i = j then 1 else 0)) := Lib.hid ((HM.out.set hlt 1).congr (fun j _ i _ => by
        by_cases e : j = k ∧ i = k
        · rw [if_pos e, if_pos (by omega)]
        · rw [if_neg e]
          by_cases e2 : j < k ∧ i = j
          · rw [if_pos e2, if_pos (by omega)]
          · rw [if_neg e2, if_neg (by omega)]))
      clear HM
      go_wp2
      go_roundw
      case rel => exact ⟨k + 1, by omega, by go_num, HS⟩
      case measure => simp [intOf]; omega
    · have HS : Hid (Mat w wr n n (fun j i => if i = j then 1 else 0)) := Lib.hid (HM.out.congr (fun j hj i _ => by
        by_cases e : i = j
        · rw [if_pos ⟨by omega, e⟩, if_pos e]
        · rw [if_neg (fun h => e h.2), if_neg e]))
      clear HM
      go_wp2
      go_ret
      exact ⟨rfl, HS.out⟩

/-- Row i of the identity. -/
def unitRow (n i : Nat) : List Int := (List.range n).map fun j => if j = i then 1 else 0
theorem unitRow_length (n i : Nat) : (unitRow n i).length = n := by simp [unitRow]
set_option maxHeartbeats 800000 in
theorem l04Unit_any (n i : Nat) (w : World) (hn : n ≤ 1048576) (hi : i < n) : Calls Tryd.prog 34 #[.int .i64 n, .int .i64 i] w (GbR (unitRow n i) w) := by
  have hmk := run_make_row' (P := Tryd.prog) 22 2 (.int .i64 0) 8 Tryd.underlying22 Tryd.infoI rfl .i64 .i64 n (by omega) (by omega)
  have hc : (madeCells #[Value.int .i64 0] n)[i]? = some (.int .i64 0) := by simp [madeCells, hi, Nat.mod_one]
  go_enter Tryd.func34, Tryd.ntmps34
  go_wp2
  go_ret
  refine ⟨_, rfl, gb_row (unit_row w hi) (unitRow_length n i) (fun j hj => ?_) (by unfold maxLen; omega) (Nat.le_refl _), below_alloc1 _ _⟩
  simp only [unitRow, List.getElem_map, List.getElem_range, unitV]

end Go.Proofs.YtpdkfidmmjlmnabDoor


namespace Go.Proofs.YtpdkfidmmjlmnabDoor
open Go.RowKit

theorem Ap.doneW {w wr : World} {ty : TypeId} {p : Int} {c : Nat} {v : List Int} {t : List (List Int)} (ok : ApOk p c v t) (h : Ap w wr ty p c v t v.length 0) : W1 w.heap.size wr.heap.size wr (.slice (some ⟨w.heap.size, 0, none⟩) c c) (apT p c v t) := by
  have hl := apTo_length ok (Nat.le_refl _)
  by_cases h0 : c = 0
  · subst h0
    exact Or.inl ⟨List.eq_nil_of_length_eq_zero hl, _, _, rfl⟩
  · refine Or.inr ⟨w.heap.size, 0, c, by rw [apT, hl], Nat.le_refl _, h.row.lt, by rw [apT, hl]; omega, fun j hj => ⟨_, h.row.cell (by rw [apT, hl] at hj; omega), ?_⟩, fun j _ => h.row.frozen _⟩
    have hj' : j < (apTo p c v t v.length).length := hj
    simp only [apCell, IsI, Nat.not_lt_zero, if_false, apT, Nat.zero_add]
    rw [getD_of_lt _ hj']

def ApW (p : Int) (c : Nat) (v : List Int) (t : List (List Int)) (w : World) (e : Ending) (w' : World) : Prop := ∃ u, e = .returned u ∧ W1 w.heap.size w'.heap.size w' u (apT p c v t) ∧ Below w.heap.size w w'

set_option maxHeartbeats 1600000 in
theorem applyTablew_any (p : Int) (c : Nat) (va vt : Value) (v : List Int) (t : List (List Int)) (w : World) (ok : ApOk p c v t) (ha : L1 0 w va v) (ht : L2 0 w vt t) (hv : v.length ≤ 1048576) (hc : c ≤ 1048576) :
    Calls Tryd.prog 77 #[.int .i64 p, va, vt, .int .i64 c] w (ApW p c v t w) := by
  have hmk := run_make_row' (P := Tryd.prog) 22 2 (.int .i64 0) 8 Tryd.underlying22 Tryd.infoI rfl .i64 .i64 c (by omega) (by omega)
  have hp0 := ok.prime.lo
  have hp1 := ok.prime.hi
  have OK := Lib.hid ok
  clear ok
  refine Sl.cases ha (fun ad cap hx hv' => ?_) (fun b o cap hv' _ hpos hcl => ?_)
  · subst hx hv'
    clear ha ht
    go_enter Tryd.func77, Tryd.ntmps77
    go_wp2
    refine wp_loop_rounds 1 ?_
    rw [rounds_succ]
    go_wp2
    go_ret
    exact ⟨_, rfl, Ap.doneW OK.out (Ap.start _ _ _ _ _ _), (Below.refl _ _).alloc (Nat.le_refl _) _⟩
  · refine Sl.cases ht (fun ad2 cap2 hx2 hv2 => absurd OK.out.len (by subst hx2; simp only [List.length_nil]; omega)) (fun b2 o2 cap2 hv2 _ hpos2 hcl2 => ?_)
    subst hv' hv2
    clear ha ht
    have hlen := OK.out.len
    have HC := Lib.hid hcl
    have HC2 := Lib.hid hcl2
    clear hcl hcl2
    go_enter Tryd.func77, Tryd.ntmps77
    go_wp2
    clear hmk
    go_loopw [18] (fun i wr => ∃ (k : Nat), k ≤ v.length ∧ i = .int .i64 k ∧ Ap w wr 2 p c v t k 0) (fun i _ => v.length - (intOf i).toNat)
    case atStart => exact ⟨0, Nat.zero_le _, rfl, Ap.start _ _ _ _ _ _⟩
    case round =>
      obtain ⟨k, hk, rfl, HA⟩ := hrel
      by_cases hlt2 : k < v.length
      · have hlt3 : k < t.length := by omega
        obtain ⟨u, hu, hr⟩ := HC.out k hlt2
        obtain ⟨u2, hu2, hr2⟩ := HC2.out k hlt3
        have hnum := OK.out.num hlt2
        have hrow := OK.out.row hlt2
        rw [getD_of_lt _ hlt2] at hnum
        rw [getD_of_lt _ hlt3] at hrow
        obtain ⟨f, hf⟩ : ∃ f, f = v[k] := ⟨_, rfl⟩
        obtain ⟨ys, hy⟩ : ∃ ys, ys = t[k] := ⟨_, rfl⟩
        rw [← hf] at hnum
        rw [← hy] at hrow hr2
        obtain ⟨hf0, hf1⟩ := hnum
        have hu' : wr.cell? ⟨b, o + k, none⟩ = some (.int .i64 f) := by rw [HA.below.cell (p := ⟨b, o + k, none⟩) (cell_lt hu), hu, hr, hf]
        have hu2' : wr.cell? ⟨b2, o2 + k, none⟩ = some u2 := by rw [HA.below.cell (p := ⟨b2, o2 + k, none⟩) (cell_lt hu2), hu2]
        have HF := Lib.hid hf
        have HY := Lib.hid hy
        have HROW := Lib.hid hrow
        have HA' := Lib.hid HA
        clear hf hy hrow HA hu hr hu2
        refine Sl.cases hr2 (fun ad3 cap3 hx3 hv3 => ?_) (fun b3 o3 cap3 hv3 _ hpos3 hcl3 => ?_)
        · subst hv3
          have hc0 : Hid (c = 0) := Lib.hid (by have := HROW.out.1; rw [hx3] at this; simpa using this.symm)
          clear hx3 hr2
          go_wp2
          refine wp_loop_rounds 1 ?_
          rw [rounds_succ]
          go_wp2
          go_roundw
          case rel => exact ⟨k + 1, by omega, by go_num, Ap.next (by rw [hc0.out]; have := HA'.out; rwa [hc0.out] at this)⟩
          case measure => simp [intOf]; omega
        · subst hv3
          have hyc : ys.length = c := by have := HROW.out.1; omega
          have HYC := Lib.hid hyc
          have HC3 := Lib.hid hcl3
          clear hyc hr2 hcl3
          obtain ⟨wo, hwo⟩ : ∃ wo : World, wo = wr := ⟨_, rfl⟩
          have HWO := Lib.hid hwo
          clear hwo
          go_wp2
          go_loopw [28] (fun i wr => ∃ (q : Nat), q ≤ ys.length ∧ i = .int .i64 q ∧ Ap w wr 2 p c v t k q) (fun i _ => ys.length - (intOf i).toNat)
          case atStart => exact ⟨0, Nat.zero_le _, rfl, HA'.out⟩
          case round =>
            obtain ⟨q, hq, rfl, HB⟩ := hrel
            by_cases hlt4 : q < ys.length
            · have hqc : q < c := by have := HYC.out; omega
              obtain ⟨u3, hu3, hr3⟩ := HC3.out q hlt4
              have hx := HROW.out.2 _ (List.getElem_mem hlt4)
              obtain ⟨x, hxx⟩ : ∃ x, x = ys[q] := ⟨_, rfl⟩
              obtain ⟨a, haa⟩ : ∃ a, a = (apTo p c v t k).getD q 0 := ⟨_, rfl⟩
              have hab := apTo_mod OK.out (Nat.le_of_lt hlt2) q
              have hac := HB.cell hqc
              have hfz := HB.row.frozen q
              rw [← haa] at hab hac
              rw [← hxx] at hx
              obtain ⟨hx0, hx1⟩ := hx
              obtain ⟨ha0, ha1⟩ := hab
              have hu3' : wr.cell? ⟨b3, o3 + q, none⟩ = some (.int .i64 x) := by rw [HB.below.cell (p := ⟨b3, o3 + q, none⟩) (cell_lt hu3), hu3, hr3, hxx]
              have m0 : 0 ≤ f * x := Int.mul_nonneg hf0 hx0
              have m1 : f * x ≤ 36 := Int.le_trans (Int.mul_le_mul (show f ≤ 6 by omega) (show x ≤ 6 by omega) hx0 (by omega)) (by omega)
              have HS := Lib.hid (HB.step OK.out hlt2 hqc (x := (a + f * x) % p) (by rw [haa, HF.out, hxx, getD_of_lt _ hlt2, getD_of_lt _ hlt3, ← HY.out, getD_of_lt _ hlt4]))
              clear HB hu3 hr3 haa hxx
              go_wp2
              go_roundw
              case rel => exact ⟨q + 1, by omega, by go_num, HS.out⟩
              case measure => simp [intOf]; omega
            · have HB' := Lib.hid HB
              have hqc : Hid (q = c) := Lib.hid (by have := HYC.out; omega)
              clear HB
              go_wp2
              go_roundw
              case rel => exact ⟨k + 1, by omega, by go_num, Ap.next (by have := HB'.out; rwa [hqc.out] at this)⟩
              case measure => simp [intOf]; omega
      · have hkk : k = v.length := by omega
        subst hkk
        have HA' := Lib.hid HA
        clear HA
        go_wp2
        go_ret
        exact ⟨_, rfl, Ap.doneW OK.out HA'.out, HA'.out.below⟩

/-- The differential of a vector of the degree n. -/
def difOf (p : Int) (ds : List Int) (ms : List (List (List Int))) (n : Int) (vs : List Int) : List Int := if n = 0 then [] else apT p (ds.getD (n.toNat - 1) 0).toNat vs (ms.getD (n.toNat - 1) [])
def InDeg (ds : List Int) (n : Int) : Prop := 0 ≤ n ∧ n ≤ (ds.length : Int) - 1
/-- What DifferentialOf answers: a list and a code. -/
structure DifOut (p : Int) (ds : List Int) (ms : List (List (List Int))) (n : Int) (vs out : List Int) (c : Int) : Prop where
  bad : ¬ IsCx p ds ms → out = [] ∧ c = 1
  far : IsCx p ds ms → ¬ InDeg ds n → out = [] ∧ c = 2
  row : IsCx p ds ms → InDeg ds n → ¬ RowOk p (ds.getD n.toNat 0) vs → out = [] ∧ c = 2
  good : IsCx p ds ms → InDeg ds n → RowOk p (ds.getD n.toNat 0) vs → out = difOf p ds ms n vs ∧ c = 0
theorem DifOut.unique {p : Int} {ds : List Int} {ms : List (List (List Int))} {n : Int} {vs o1 o2 : List Int} {c1 c2 : Int} (h1 : DifOut p ds ms n vs o1 c1) (h2 : DifOut p ds ms n vs o2 c2) : o1 = o2 ∧ c1 = c2 := by
  by_cases a : IsCx p ds ms
  · by_cases b : InDeg ds n
    · by_cases c : RowOk p (ds.getD n.toNat 0) vs
      · have x := h1.good a b c
        have y := h2.good a b c
        exact ⟨x.1.trans y.1.symm, x.2.trans y.2.symm⟩
      · have x := h1.row a b c
        have y := h2.row a b c
        exact ⟨x.1.trans y.1.symm, x.2.trans y.2.symm⟩
    · have x := h1.far a b
      have y := h2.far a b
      exact ⟨x.1.trans y.1.symm, x.2.trans y.2.symm⟩
  · have x := h1.bad a
    have y := h2.bad a
    exact ⟨x.1.trans y.1.symm, x.2.trans y.2.symm⟩
theorem apT_length' {p : Int} {c : Nat} {v : List Int} {t : List (List Int)} (ok : ApOk p c v t) : (apT p c v t).length = c := apTo_length ok (Nat.le_refl _)
end Go.Proofs.YtpdkfidmmjlmnabDoor


namespace Go.Proofs.YtpdkfidmmjlmnabDoor
open Go.RowKit

theorem endCode_of_pr {p p2 : Int} {ds : List Int} {ms : List (List (List Int))} {ds2 : List Int} {ms2 : List (List (List Int))} (h : prCode p p2 ds ms ds2 ms2 ≠ 0) : endCode p p2 ds ms ds2 ms2 = prCode p p2 ds ms ds2 ms2 := by
  unfold prCode at h ⊢
  unfold endCode
  by_cases h1 : IsCx p ds ms ∧ IsCx p2 ds2 ms2
  · have h1' : ¬ ¬ (IsCx p ds ms ∧ IsCx p2 ds2 ms2) := fun k => k h1
    simp only [if_neg h1'] at h ⊢
    by_cases h2 : p = p2
    · exact absurd (if_pos h2) h
    · rw [if_neg (fun k => h2 k.1), if_neg h2]
  · rw [if_pos h1, if_pos h1]

set_option maxHeartbeats 6400000 in
set_option maxRecDepth 100000 in
theorem checkEnds2_any (p p2 : Int) (b : Nat) (dv mv dv2 mv2 : Value) (ds : List Int) (ms : List (List (List Int))) (ds2 : List Int) (ms2 : List (List (List Int))) (w : World) (hr : Row2 w b p p2 dv mv dv2 mv2) (h : Cx 0 w dv mv ds ms) (h2 : Cx 0 w dv2 mv2 ds2 ms2) (hd : ds.length ≤ 1048576) (hm : Bd3 1048576 ms) (hd2 : ds2.length ≤ 1048576) (hm2 : Bd3 1048576 ms2) :
    Calls Tryd.prog 51 #[.slice (some ⟨b, 0, none⟩) 2 2] w (BR (.int .i64 (endCode p p2 ds ms ds2 ms2)) w) := by
  obtain ⟨ad, cap, rfl⟩ := Sl.shape h.dims
  obtain ⟨am, capm, rfl⟩ := Sl.shape h.maps
  obtain ⟨ad2, cap2, rfl⟩ := Sl.shape h2.dims
  obtain ⟨am2, capm2, rfl⟩ := Sl.shape h2.maps
  have HROW := Lib.hid hr
  have HCK := Lib.hid (checkPrimes2_any p p2 b _ _ _ _ ds ms ds2 ms2 w hr h h2 hd hm hd2 hm2)
  obtain ⟨ec, hec⟩ : ∃ ec, ec = prCode p p2 ds ms ds2 ms2 := ⟨_, rfl⟩
  rw [← hec] at HCK
  have HEC := Lib.hid hec
  clear h h2 hm hm2 hr hec
  by_cases h0 : ec = 0
  · subst h0
    have HE := Lib.hid (prCode_zero HEC.out.symm)
    go_enter Tryd.func51, Tryd.ntmps51
    go_wp2_with fail
    refine HCK.out.mono ?_
    rintro e w2 ⟨rfl, hb2⟩
    have HB2 := Lib.hid hb2
    have HR2 := Lib.hid (HROW.out.next hb2)
    have hs2 : w.heap.size ≤ w2.heap.size := HB2.out.size
    have hbl : b < w.heap.size := cell_lt HROW.out.c0
    have hbn : b ≠ w2.heap.size := by omega
    clear hb2 HCK
    have c0 := HR2.out.c0
    have c1 := HR2.out.c1
    have c2 := HR2.out.c2
    have d0 := HR2.out.d0
    have d1 := HR2.out.d1
    have d2 := HR2.out.d2
    have hl0 : (((ds.length : Nat) : Int) != ((ds.length : Nat) : Int)) = false := by simp
    go_wp2
    refine wp_loop_rounds 3 ?_
    rw [rounds_succ]
    go_wp2
    obtain ⟨w3, hw3⟩ : ∃ w3, w3 = w2.alloc (.cells #[.int .i64 p, .slice ad ds.length cap, .slice am ms.length capm] 28) := ⟨_, rfl⟩
    have hb3 : Below w2.heap.size w2 w3 := by rw [hw3]; exact below_alloc1 _ _
    have e1 : w3.cell? ⟨w2.heap.size, 1, none⟩ = some (.slice ad ds.length cap) := by rw [hw3]; simp
    have HR3 := Lib.hid (HR2.out.next hb3)
    have HB3 := Lib.hid (HB2.out.trans (hb3.mono hs2))
    rw [← hw3]
    clear hw3 hb3 c0 c1 c2 d0 d1 d2 hbn hbl
    have c1 := HR3.out.c1
    go_quiet (fail)
    go_wp2
    rw [rounds_succ]
    have HB4 := Lib.hid (HB3.out.trans ((drewN_below w3 nq).mono HB3.out.size))
    have HR4 := Lib.hid (HR3.out.next (drewN_below w3 nq))
    generalize w3.drewN nq = w4 at *
    clear c1 e1 hs2 HR3 HB3
    have d0 := HR4.out.d0
    have d1 := HR4.out.d1
    have d2 := HR4.out.d2
    obtain ⟨w5, hw5⟩ : ∃ w5, w5 = w4.alloc (.cells #[.int .i64 p2, .slice ad2 ds2.length cap2, .slice am2 ms2.length capm2] 28) := ⟨_, rfl⟩
    have hb5 : Below w4.heap.size w4 w5 := by rw [hw5]; exact below_alloc1 _ _
    have e1 : w5.cell? ⟨w4.heap.size, 1, none⟩ = some (.slice ad2 ds2.length cap2) := by rw [hw5]; simp
    have HR5 := Lib.hid (HR4.out.next hb5)
    have HB5 := Lib.hid (HB4.out.trans (hb5.mono HB4.out.size))
    clear hb5
    go_wp2
    rw [← hw5]
    clear hw5 d0 d1 d2
    have c1 := HR5.out.c1
    by_cases hll : ds.length = ds2.length
    · have HL := Lib.hid hll
      have hl1 : (((ds2.length : Nat) : Int) != ((ds.length : Nat) : Int)) = false := by simp [hll]
      clear hll
      go_quiet (fail)
      go_wp2
      rw [rounds_succ]
      go_wp2
      go_ret
      refine ⟨ret_int (EndOk.code ⟨HE.out.x, HE.out.y, HE.out.prime, HL.out⟩).symm, ?_⟩
      exact HB5.out.trans ((drewN_below w5 nq).mono HB5.out.size)
    · have HL := Lib.hid hll
      have hl1 : (((ds2.length : Nat) : Int) != ((ds.length : Nat) : Int)) = true := by
        have : ¬ ((ds2.length : Int) = (ds.length : Int)) := by omega
        simpa using this
      clear hll
      go_quiet (fail)
      go_wp2
      go_ret
      refine ⟨ret_int ?_, ?_⟩
      · unfold endCode
        rw [if_neg (fun k => k ⟨HE.out.x, HE.out.y⟩), if_neg (fun k => HL.out k.2)]
      · exact HB5.out.trans ((drewN_below w5 nq).mono HB5.out.size)
  · have hne2 : (ec != 0) = true := by simp [h0]
    have hne3 : (ec == 0) = false := by simp [h0]
    have HNE := Lib.hid h0
    clear h0
    go_enter Tryd.func51, Tryd.ntmps51
    go_wp2_with fail
    refine HCK.out.mono ?_
    rintro e w2 ⟨rfl, hb2⟩
    have HB2 := Lib.hid hb2
    clear hb2 HCK
    go_wp2
    go_ret
    refine ⟨ret_int ?_, HB2.out⟩
    have hn := HNE.out
    rw [HEC.out] at hn ⊢
    exact (endCode_of_pr hn).symm
end Go.Proofs.YtpdkfidmmjlmnabDoor


namespace Go.Proofs.YtpdkfidmmjlmnabDoor
open Go.RowKit

/-- Tables are a family of the shift s. -/
def FamOk (p : Int) (ds ds2 : List Int) (s : Int) (fs : List (List (List Int))) : Prop := fs.length = ds.length ∧ ∀ n, n < fs.length → TabOk p (ds.getD n 0) (dimZ ds2 ((n : Int) + s)) (fs.getD n [])

set_option maxHeartbeats 3200000 in
set_option maxRecDepth 100000 in
theorem isFamily_any (p p2 s : Int) (dv mv dv2 mv2 fv : Value) (ds : List Int) (ms : List (List (List Int))) (ds2 : List Int) (ms2 : List (List (List Int))) (fs : List (List (List Int))) (w : World) (h : Cx 0 w dv mv ds ms) (h2 : Cx 0 w dv2 mv2 ds2 ms2) (hf : L3 0 w fv fs) (hcx : IsCx p ds ms) (hcy : IsCx p2 ds2 ms2) (hs : -1 ≤ s ∧ s ≤ 1) (hm : Bd3 1048576 fs) :
    Calls Tryd.prog 52 #[.agg #[.int .i64 p, dv, mv], .agg #[.int .i64 p2, dv2, mv2], .int .i64 s, fv] w (BB (FamOk p ds ds2 s fs) w) := by
  obtain ⟨ad, cap, rfl⟩ := Sl.shape h.dims
  obtain ⟨am, capm, rfl⟩ := Sl.shape h.maps
  obtain ⟨ad2, cap2, rfl⟩ := Sl.shape h2.dims
  obtain ⟨am2, capm2, rfl⟩ := Sl.shape h2.maps
  obtain ⟨af, cf, rfl⟩ := Sl.shape hf
  obtain ⟨k1, k2⟩ := bx_two (p := p) (p2 := p2) 28 h h2
  have HX0 := Lib.hid k1
  have HY0 := Lib.hid k2
  obtain ⟨w1, hw1⟩ : ∃ w1, w1 = ((w.alloc (.cells #[.int .i64 p, .slice ad ds.length cap, .slice am ms.length capm] 28)).alloc (.cells #[.int .i64 p2, .slice ad2 ds2.length cap2, .slice am2 ms2.length capm2] 28)) := ⟨_, rfl⟩
  rw [← hw1] at HX0 HY0
  have hb01 : Below w.heap.size w w1 := HX0.out.below
  have HF0 := Lib.hid (hf.below hb01)
  have HNX : Hid (∀ W, Below w1.heap.size w1 W → Bx w W w.heap.size p (.slice ad ds.length cap) (.slice am ms.length capm) ds ms) := Lib.hid (fun W h => HX0.out.next h)
  have HNY : Hid (∀ W, Below w1.heap.size w1 W → Bx w W (w.heap.size + 1) p2 (.slice ad2 ds2.length cap2) (.slice am2 ms2.length capm2) ds2 ms2) := Lib.hid (fun W h => HY0.out.next h)
  have HCX := Lib.hid hcx
  have HCY := Lib.hid hcy
  have HM := Lib.hid hm
  have hl6 := hcx.1.len1
  have hl7 := hcy.1.len1
  have hml : fs.length ≤ 1048576 := hm.1
  obtain ⟨hs0, hs1⟩ := hs
  have c1 := HX0.out.c1
  clear h h2 hf k1 k2 hcx hcy hm hb01
  go_enter Tryd.func52, Tryd.ntmps52
  go_upto_region 1 with fail
  rw [← hw1]
  clear hw1
  by_cases hll : fs.length = ds.length
  · have HLL := Lib.hid hll
    have hl1 : (((fs.length : Nat) : Int) != ((ds.length : Nat) : Int)) = false := by simp [hll]
    have hfd : fs.length ≤ 6 := by omega
    clear hll
    go_wp2
    clear c1 hl1
    go_loopw [19] (fun i wr => ∃ (k : Nat), k ≤ fs.length ∧ i = .int .i64 k ∧ Hid (Below w1.heap.size w1 wr) ∧ Hid (∀ j, j < k → TabOk p (ds.getD j 0) (dimZ ds2 ((j : Int) + s)) (fs.getD j []))) (fun i _ => fs.length - (intOf i).toNat)
    case atStart => exact ⟨0, Nat.zero_le _, rfl, Lib.hid (Below.refl _ _), Lib.hid (fun j hj => absurd hj (Nat.not_lt_zero _))⟩
    case round =>
      obtain ⟨k, hk, rfl, HB, HD⟩ := hrel
      obtain ⟨wx, hwx⟩ : ∃ wx : World, wx = wr := ⟨_, rfl⟩
      subst hwx
      by_cases hlt : k < fs.length
      · have hkd : k < ds.length := by have := HLL.out; omega
        have hX := HNX.out _ HB.out
        have hY := HNY.out _ HB.out
        have hdim := HCX.out.1.dim k
        obtain ⟨c, hc⟩ := Int.eq_ofNat_of_zero_le hdim.1
        have hz := dimZ_b HCY.out ((k : Int) + s)
        obtain ⟨c2, hc2⟩ := Int.eq_ofNat_of_zero_le hz.1
        refine Sl.cases hX.cx.dims (fun _ _ hx _ => absurd hkd (by simp [hx])) (fun bd od capd hvd _ _ hcl => ?_)
        injection hvd with e1 e2 e3
        clear e2
        subst e1 e3
        obtain ⟨u, hu, hru⟩ := hcl k hkd
        have hu2 : wx.cell? ⟨bd, od + k, none⟩ = some (.int .i64 (c : Int)) := by rw [hu, hru, ← hc, getD_of_lt _ hkd]
        refine Sl.cases (HF0.out.below HB.out) (fun _ _ hx _ => absurd hlt (by simp [hx])) (fun bf of cf2 hvf _ _ hcf => ?_)
        injection hvf with e1 e2 e3
        clear e2
        subst e1 e3
        obtain ⟨ut, hut, hrt⟩ := hcf k hlt
        obtain ⟨t, ht⟩ : ∃ t, t = fs[k] := ⟨_, rfl⟩
        rw [← ht] at hrt
        have HTE : Hid (fs.getD k [] = t) := Lib.hid (by rw [getD_of_lt _ hlt, ht])
        have HTM : Hid (Bd2 1048576 t) := Lib.hid (by rw [ht]; exact HM.out.2 _ (List.getElem_mem hlt))
        have HRT := Lib.hid hrt
        have HDA : Hid (∀ W, Below wx.heap.size wx W → Calls Tryd.prog 40 #[.agg #[.int .i64 p2, .slice ad2 ds2.length cap2, .slice am2 ms2.length capm2], .int .i64 ((k : Int) + s)] W (BR (.int .i64 (c2 : Int)) W)) := Lib.hid (fun W h => by
          have := dimAt_any p2 ((k : Int) + s) _ _ ds2 ms2 W (hY.next h).cx (by omega)
          rwa [hc2] at this)
        have HTC : Hid (dimZ ds2 ((k : Int) + s) = (c2 : Int)) := Lib.hid hc2
        have HDC : Hid (ds.getD k 0 = (c : Int)) := Lib.hid hc
        have c0 := hX.c0
        have c1 := hX.c1
        have d0 := hY.c0
        have d1 := hY.c1
        have d2 := hY.c2
        have HSP : Hid (∀ W, Below wx.heap.size wx W → W.cell? ⟨w.heap.size, 0, none⟩ = some (.int .i64 p) ∧ W.cell? ⟨w.heap.size, 1, none⟩ = some (.slice (some ⟨bd, od, none⟩) ds.length cap) ∧ W.cell? ⟨bd, od + k, none⟩ = some (.int .i64 (c : Int)) ∧ W.cell? ⟨w.heap.size + 1, 0, none⟩ = some (.int .i64 p2) ∧ W.cell? ⟨w.heap.size + 1, 1, none⟩ = some (.slice ad2 ds2.length cap2) ∧ W.cell? ⟨w.heap.size + 1, 2, none⟩ = some (.slice am2 ms2.length capm2) ∧ Hid (Below wx.heap.size wx W)) := Lib.hid (fun W h => ⟨later h (Nat.le_refl _) c0, later h (Nat.le_refl _) c1, later h (Nat.le_refl _) hu2, later h (Nat.le_refl _) d0, later h (Nat.le_refl _) d1, later h (Nat.le_refl _) d2, Lib.hid h⟩)
        have HDD : Hid (Below wx.heap.size wx wx.drew) := Lib.hid (Below.refl _ _).drew
        have hwk : IntKind.i64.wrap ((k : Int) + s) = (k : Int) + s := IntWalk.i64_in _ (by omega)
        have hk0 : (0 : Int) ≤ (k : Int) := by omega
        have hk1 : (k : Int) < (ds.length : Int) := by omega
        by_cases hT : TabOk p (c : Int) (c2 : Int) t
        · have HTB : Hid (∀ W, Below wx.heap.size wx W → Calls Tryd.prog 62 #[.int .i64 p, ut, .int .i64 (c : Int), .int .i64 (c2 : Int)] W (QW (.bool true) W)) := Lib.hid (fun W h => bw_yes (isTable_any p c c2 ut t W HCX.out.1.prime (HRT.out.below h) HTM.out) hT)
          have HT := Lib.hid hT
          clear hu hru hcl hX hY hdim hc hz hc2 hcf ht hrt hT
          go_wp2
          go_region_held3 (fun w' => w'.cell? ⟨w.heap.size, 0, none⟩ = some (.int .i64 p) ∧ w'.cell? ⟨w.heap.size, 1, none⟩ = some (.slice (some ⟨bd, od, none⟩) ds.length cap) ∧ w'.cell? ⟨bd, od + k, none⟩ = some (.int .i64 (c : Int)) ∧ w'.cell? ⟨w.heap.size + 1, 0, none⟩ = some (.int .i64 p2) ∧ w'.cell? ⟨w.heap.size + 1, 1, none⟩ = some (.slice ad2 ds2.length cap2) ∧ w'.cell? ⟨w.heap.size + 1, 2, none⟩ = some (.slice am2 ms2.length capm2) ∧ Hid (Below wx.heap.size wx w'))
            (first | exact HSP.out _ (Below.refl _ _) | exact HSP.out _ HDD.out | exact HSP.out _ HB4.out | go_keep)
            (first
              | (go_at_call 40; (with_reducible refine (HDA.out _ HDD.out).mono ?_); rintro e w4 ⟨rfl, hb4⟩; have HB4 : Hid (Below wx.heap.size wx w4) := Lib.hid (HDD.out.trans hb4); clear hb4)
              | (go_at_call 62; (with_reducible refine (HTB.out _ HB4.out).mono ?_); rintro e w5 ⟨rfl, rfl⟩))
          have HB5 := Lib.hid (HB.out.trans (HB4.out.mono HB.out.size))
          have HD5 : Hid (∀ j, j < k + 1 → TabOk p (ds.getD j 0) (dimZ ds2 ((j : Int) + s)) (fs.getD j [])) := Lib.hid (fun j hj => by
            by_cases e : j = k
            · subst e; rw [HDC.out, HTC.out, HTE.out]; exact HT.out
            · exact HD.out j (by omega))
          clear hwk hk0 hk1 c0 c1 d0 d1 d2 hu2 HSP HDA HTB hut HD
          go_wp2
          go_roundw
          case rel => exact ⟨k + 1, by omega, by go_num, HB5, HD5⟩
          case measure => simp [intOf]; omega
        · have HTB : Hid (∀ W, Below wx.heap.size wx W → Calls Tryd.prog 62 #[.int .i64 p, ut, .int .i64 (c : Int), .int .i64 (c2 : Int)] W (QW (.bool false) W)) := Lib.hid (fun W h => bw_no (isTable_any p c c2 ut t W HCX.out.1.prime (HRT.out.below h) HTM.out) hT)
          have HT := Lib.hid hT
          clear hu hru hcl hX hY hdim hc hz hc2 hcf ht hrt hT
          go_wp2
          go_region_held3 (fun w' => w'.cell? ⟨w.heap.size, 0, none⟩ = some (.int .i64 p) ∧ w'.cell? ⟨w.heap.size, 1, none⟩ = some (.slice (some ⟨bd, od, none⟩) ds.length cap) ∧ w'.cell? ⟨bd, od + k, none⟩ = some (.int .i64 (c : Int)) ∧ w'.cell? ⟨w.heap.size + 1, 0, none⟩ = some (.int .i64 p2) ∧ w'.cell? ⟨w.heap.size + 1, 1, none⟩ = some (.slice ad2 ds2.length cap2) ∧ w'.cell? ⟨w.heap.size + 1, 2, none⟩ = some (.slice am2 ms2.length capm2) ∧ Hid (Below wx.heap.size wx w'))
            (first | exact HSP.out _ (Below.refl _ _) | exact HSP.out _ HDD.out | exact HSP.out _ HB4.out | go_keep)
            (first
              | (go_at_call 40; (with_reducible refine (HDA.out _ HDD.out).mono ?_); rintro e w4 ⟨rfl, hb4⟩; have HB4 : Hid (Below wx.heap.size wx w4) := Lib.hid (HDD.out.trans hb4); clear hb4)
              | (go_at_call 62; (with_reducible refine (HTB.out _ HB4.out).mono ?_); rintro e w5 ⟨rfl, rfl⟩))
          have HB5 := Lib.hid (HNX.out _ (HB.out.trans (HB4.out.mono HB.out.size))).below
          clear hwk hk0 hk1 c0 c1 d0 d1 d2 hu2 HSP HDA HTB hut HD
          go_wp2
          go_ret
          exact bb_false HB5.out (fun hh => HT.out (by have := hh.2 k hlt; rwa [HDC.out, HTC.out, HTE.out] at this))
      · have HXX := Lib.hid (HNX.out _ HB.out).below
        go_wp2
        go_ret
        exact bb_true HXX.out ⟨HLL.out, fun n hn => HD.out n (by omega)⟩
  · have HLL := Lib.hid hll
    have hl1 : (((fs.length : Nat) : Int) != ((ds.length : Nat) : Int)) = true := by
      have : ¬ ((fs.length : Int) = (ds.length : Int)) := by omega
      simpa using this
    clear hll
    go_wp2
    go_ret
    exact bb_false HX0.out.below (fun hh => HLL.out hh.1)

open Classical in
/-- The code of two complexes and one family of the shift s. -/
noncomputable def famCode (p p2 s : Int) (ds : List Int) (ms : List (List (List Int))) (ds2 : List Int) (ms2 : List (List (List Int))) (fs : List (List (List Int))) : Int :=
  if endCode p p2 ds ms ds2 ms2 = 0 then (if FamOk p ds ds2 s fs then 0 else 2) else endCode p p2 ds ms ds2 ms2
theorem famCode_zero {p p2 s : Int} {ds : List Int} {ms : List (List (List Int))} {ds2 : List Int} {ms2 : List (List (List Int))} {fs : List (List (List Int))} (h : famCode p p2 s ds ms ds2 ms2 fs = 0) : EndOk p p2 ds ms ds2 ms2 ∧ FamOk p ds ds2 s fs := by
  unfold famCode at h
  by_cases h0 : endCode p p2 ds ms ds2 ms2 = 0
  · rw [if_pos h0] at h
    by_cases h1 : FamOk p ds ds2 s fs
    · exact ⟨endCode_zero h0, h1⟩
    · rw [if_neg h1] at h
      cases h
  · rw [if_neg h0] at h
    exact absurd h h0

set_option maxHeartbeats 3200000 in
set_option maxRecDepth 100000 in
theorem checkFamilies1_any (p p2 s : Int) (b : Nat) (dv mv dv2 mv2 fv : Value) (ds : List Int) (ms : List (List (List Int))) (ds2 : List Int) (ms2 : List (List (List Int))) (fs : List (List (List Int))) (w : World) (h : Cx 0 w dv mv ds ms) (h2 : Cx 0 w dv2 mv2 ds2 ms2) (hf : L3 0 w fv fs) (hr : w.cell? ⟨b, 0, none⟩ = some fv) (hs : -1 ≤ s ∧ s ≤ 1) (hd : ds.length ≤ 1048576) (hm : Bd3 1048576 ms) (hd2 : ds2.length ≤ 1048576) (hm2 : Bd3 1048576 ms2) (hmf : Bd3 1048576 fs) :
    Calls Tryd.prog 37 #[.agg #[.int .i64 p, dv, mv], .agg #[.int .i64 p2, dv2, mv2], .int .i64 s, .slice (some ⟨b, 0, none⟩) 1 1] w (BR (.int .i64 (famCode p p2 s ds ms ds2 ms2 fs)) w) := by
  obtain ⟨ad, cap, rfl⟩ := Sl.shape h.dims
  obtain ⟨am, capm, rfl⟩ := Sl.shape h.maps
  obtain ⟨ad2, cap2, rfl⟩ := Sl.shape h2.dims
  obtain ⟨am2, capm2, rfl⟩ := Sl.shape h2.maps
  obtain ⟨af, cf, rfl⟩ := Sl.shape hf
  obtain ⟨k1, k2⟩ := bx_two (p := p) (p2 := p2) 28 h h2
  have HX0 := Lib.hid k1
  have HY0 := Lib.hid k2
  obtain ⟨w1, hw1⟩ : ∃ w1, w1 = ((w.alloc (.cells #[.int .i64 p, .slice ad ds.length cap, .slice am ms.length capm] 28)).alloc (.cells #[.int .i64 p2, .slice ad2 ds2.length cap2, .slice am2 ms2.length capm2] 28)) := ⟨_, rfl⟩
  rw [← hw1] at HX0 HY0
  have hb01 : Below w.heap.size w w1 := HX0.out.below
  have HF0 := Lib.hid (hf.below hb01)
  have HNX : Hid (∀ W, Below w1.heap.size w1 W → Bx w W w.heap.size p (.slice ad ds.length cap) (.slice am ms.length capm) ds ms) := Lib.hid (fun W h => HX0.out.next h)
  have HNY : Hid (∀ W, Below w1.heap.size w1 W → Bx w W (w.heap.size + 1) p2 (.slice ad2 ds2.length cap2) (.slice am2 ms2.length capm2) ds2 ms2) := Lib.hid (fun W h => HY0.out.next h)
  have HMF := Lib.hid hmf
  have HS := Lib.hid hs
  have HR1 := Lib.hid (later hb01 (Nat.le_refl _) hr)
  have c0 := HX0.out.c0
  have c1 := HX0.out.c1
  have c2 := HX0.out.c2
  have d0 := HY0.out.c0
  have d1 := HY0.out.c1
  have d2 := HY0.out.c2
  obtain ⟨w2, hw2⟩ : ∃ w2, w2 = w1.alloc (.cells #[.int .i64 p, .slice ad ds.length cap, .slice am ms.length capm, .int .i64 p2, .slice ad2 ds2.length cap2, .slice am2 ms2.length capm2] 28) := ⟨_, rfl⟩
  have hr2 : Row2 w2 w1.heap.size p p2 (.slice ad ds.length cap) (.slice am ms.length capm) (.slice ad2 ds2.length cap2) (.slice am2 ms2.length capm2) := by
    rw [hw2]
    exact ⟨by simp, by simp, by simp, by simp, by simp, by simp⟩
  have hb2 : Below w1.heap.size w1 w2 := by rw [hw2]; exact below_alloc1 _ _
  have HB2 := Lib.hid hb2
  have HCK := Lib.hid (checkEnds2_any p p2 w1.heap.size _ _ _ _ ds ms ds2 ms2 w2 hr2 (HNX.out _ hb2).cx (HNY.out _ hb2).cx hd hm hd2 hm2)
  obtain ⟨ec, hec⟩ : ∃ ec, ec = endCode p p2 ds ms ds2 ms2 := ⟨_, rfl⟩
  rw [← hec] at HCK
  have HEC := Lib.hid hec
  clear h h2 hf hm hm2 hmf k1 k2 hr hr2 hb2 hb01 hec hs
  go_enter Tryd.func37, Tryd.ntmps37
  go_upto_region 1 with fail
  rw [← hw1]
  clear hw1
  go_wp2_with fail
  rw [← hw2]
  clear hw2
  refine HCK.out.mono ?_
  rintro e w3 ⟨rfl, hb3⟩
  have HB3 := Lib.hid (HB2.out.trans (hb3.mono HB2.out.size))
  have HX3 := Lib.hid (HNX.out _ HB3.out)
  have HY3 := Lib.hid (HNY.out _ HB3.out)
  clear hb3 c0 c1 c2 d0 d1 d2 HX0 HY0 HCK HB2
  by_cases h0 : ec = 0
  · subst h0
    have hE := endCode_zero HEC.out.symm
    have hIF := isFamily_any p p2 s _ _ _ _ _ ds ms ds2 ms2 fs w3 HX3.out.cx HY3.out.cx (HF0.out.below HB3.out) hE.x hE.y HS.out HMF.out
    have HIF := Lib.hid hIF
    have c0 := HX3.out.c0
    have c1 := HX3.out.c1
    have c2 := HX3.out.c2
    have d0 := HY3.out.c0
    have d1 := HY3.out.c1
    have d2 := HY3.out.c2
    have hr3 := later HB3.out (Nat.le_refl _) HR1.out
    clear hE hIF
    go_wp2
    refine wp_loop_rounds 2 ?_
    rw [rounds_succ]
    go_wp2_with fail
    refine HIF.out.mono ?_
    rintro e w4 ⟨bb, rfl, hb4, hbb⟩
    have HB4 := Lib.hid (HX3.out.next hb4).below
    clear hb4 c0 c1 c2 d0 d1 d2 hr3 HIF
    by_cases hT : FamOk p ds ds2 s fs
    · obtain rfl : bb = true := hbb.2 hT
      have HT := Lib.hid hT
      clear hT hbb
      go_wp2
      rw [rounds_succ]
      go_wp2
      go_ret
      exact ⟨ret_int (by unfold famCode; rw [if_pos HEC.out.symm, if_pos HT.out]), HB4.out⟩
    · obtain rfl : bb = false := bb_no hbb hT
      have HT := Lib.hid hT
      clear hT hbb
      go_wp2
      go_ret
      exact ⟨ret_int (by unfold famCode; rw [if_pos HEC.out.symm, if_neg HT.out]), HB4.out⟩
  · have hne2 : (ec != 0) = true := by simp [h0]
    have hne3 : (ec == 0) = false := by simp [h0]
    have HNE := Lib.hid h0
    clear h0
    go_wp2
    go_ret
    exact ⟨ret_int (by unfold famCode; rw [← HEC.out, if_neg HNE.out]), HX3.out.below⟩
end Go.Proofs.YtpdkfidmmjlmnabDoor


namespace Go.Proofs.YtpdkfidmmjlmnabDoor
open Go.RowKit

/-! ### The combination of the first rows of a list with the numbers of a vector. -/
def img (p : Int) (a : Nat) (rows : Nat → Lin.V) (x : Lin.V) : Lin.V := fun j => Lin.dot a (Lin.col rows j) x % p
def rowsV (E : List Lin.V) : Nat → Lin.V := fun i => E.getD i Lin.zv
/-! ### A reduced list for every list. -/
end Go.Proofs.YtpdkfidmmjlmnabDoor


namespace Go.Proofs.YtpdkfidmmjlmnabDoor
open Go.RowKit

theorem owns_of_row {W : World} {g n : Nat} {X : Nat → Int} (h : W.rowIs g 2 n (fun i => .int .i64 (X i))) (hn : n ≤ maxLen) : W.ownsRow 0 2 1 (.slice (some ⟨g, 0, none⟩) n n) n (((List.range n).map X).map (Value.int .i64)) := by
  obtain ⟨C, hb, hs, hc⟩ := h
  refine ⟨by simp, Or.inr ⟨g, n, C, rfl, Nat.zero_le _, hb, Nat.le_refl _, hn, by omega, ?_⟩⟩
  rw [Nat.mul_one, List.take_of_length_le (by simp [hs])]
  refine List.ext_getElem (by simp [hs]) fun i h1 h2 => ?_
  have hi : i < n := by simpa [hs] using h1
  have := hc i hi
  rw [Array.getElem?_eq_getElem (by omega)] at this
  injection this with this
  simp [this]
def ApG (p : Int) (c : Nat) (v : List Int) (t : List (List Int)) (w : World) (e : Ending) (w' : World) : Prop := ∃ u, e = .returned u ∧ G1 w' u (apT p c v t) ∧ Below w.heap.size w w'
theorem Ap.doneG {w wr : World} {p : Int} {c : Nat} {v : List Int} {t : List (List Int)} (hc : c ≤ 1048576) (ok : ApOk p c v t) (h : Ap w wr 2 p c v t v.length 0) : G1 wr (.slice (some ⟨w.heap.size, 0, none⟩) c c) (apT p c v t) := by
  have hl := apTo_length ok (Nat.le_refl _)
  have h1 : wr.rowIs w.heap.size 2 c (fun i => .int .i64 ((apT p c v t).getD i 0)) := h.row.congr (fun j _ => by simp [apCell, apT])
  have h2 := owns_of_row h1 (by unfold maxLen; omega)
  have hlen : (apT p c v t).length = c := hl
  have e : (List.range c).map (fun i => (apT p c v t).getD i 0) = apT p c v t := List.ext_getElem (by simp [hlen]) fun i a b => by
    simp only [List.getElem_map, List.getElem_range]
    exact getD_of_lt _ b
  rw [e] at h2
  unfold G1
  rw [hlen]
  exact h2

set_option maxHeartbeats 3200000 in
theorem l01ApplyG_any (p : Int) (c : Nat) (va vt : Value) (v : List Int) (t : List (List Int)) (w : World) (ok : ApOk p c v t) (ha : L1 0 w va v) (ht : L2 0 w vt t) (hv : v.length ≤ 1048576) (hc : c ≤ 1048576) :
    Calls Tryd.prog 49 #[.int .i64 p, vt, va, .int .i64 c] w (ApG p c v t w) := by
  have hmk := run_make_row' (P := Tryd.prog) 22 2 (.int .i64 0) 8 Tryd.underlying22 Tryd.infoI rfl .i64 .i64 c (by omega) (by omega)
  have hp0 := ok.prime.lo
  have hp1 := ok.prime.hi
  have OK := Lib.hid ok
  clear ok
  refine Sl.cases ha (fun ad cap hx hv' => ?_) (fun b o cap hv' _ hpos hcl => ?_)
  · subst hx hv'
    clear ha ht
    go_enter Tryd.func49, Tryd.ntmps49
    go_wp2
    refine wp_loop_rounds 1 ?_
    rw [rounds_succ]
    go_wp2
    go_ret
    exact ⟨_, rfl, Ap.doneG (by omega) OK.out (Ap.start _ _ _ _ _ _), (Below.refl _ _).alloc (Nat.le_refl _) _⟩
  · refine Sl.cases ht (fun ad2 cap2 hx2 hv2 => absurd OK.out.len (by subst hx2; simp only [List.length_nil]; omega)) (fun b2 o2 cap2 hv2 _ hpos2 hcl2 => ?_)
    subst hv' hv2
    clear ha ht
    have hlen := OK.out.len
    have HC := Lib.hid hcl
    have HC2 := Lib.hid hcl2
    clear hcl hcl2
    go_enter Tryd.func49, Tryd.ntmps49
    go_wp2
    clear hmk
    go_loopw [10, 11] (fun i _ wr => ∃ (k : Nat), k ≤ v.length ∧ i = .int .i64 k ∧ Ap w wr 2 p c v t k 0) (fun i _ _ => v.length - (intOf i).toNat)
    case atStart => exact ⟨0, Nat.zero_le _, rfl, Ap.start _ _ _ _ _ _⟩
    case round =>
      obtain ⟨k, hk, rfl, HA⟩ := hrel
      by_cases hlt2 : k < v.length
      · have hlt3 : k < t.length := by omega
        obtain ⟨u, hu, hr⟩ := HC.out k hlt2
        obtain ⟨u2, hu2, hr2⟩ := HC2.out k hlt3
        have hnum := OK.out.num hlt2
        have hrow := OK.out.row hlt2
        rw [getD_of_lt _ hlt2] at hnum
        rw [getD_of_lt _ hlt3] at hrow
        obtain ⟨f, hf⟩ : ∃ f, f = v[k] := ⟨_, rfl⟩
        obtain ⟨ys, hy⟩ : ∃ ys, ys = t[k] := ⟨_, rfl⟩
        rw [← hf] at hnum
        rw [← hy] at hrow hr2
        obtain ⟨hf0, hf1⟩ := hnum
        have HU : Hid (w.cell? ⟨b, o + k, none⟩ = some (.int .i64 f)) := Lib.hid (by rw [hu, hr, hf])
        have HU2 := Lib.hid hu2
        have HF := Lib.hid hf
        have HY := Lib.hid hy
        have HROW := Lib.hid hrow
        have HR2 := Lib.hid hr2
        have HA' := Lib.hid HA
        clear hf hy hrow HA hu hr hu2 hr2
        obtain ⟨wo, hwo⟩ : ∃ wo : World, wo = wr := ⟨_, rfl⟩
        have HWO := Lib.hid hwo
        clear hwo
        go_wp2
        go_loopw [11] (fun i wr => ∃ (q : Nat), q ≤ c ∧ i = .int .i64 q ∧ Ap w wr 2 p c v t k q) (fun i _ => c - (intOf i).toNat)
        case atStart => exact ⟨0, Nat.zero_le _, rfl, HA'.out⟩
        case round =>
          obtain ⟨q, hq, rfl, HB⟩ := hrel
          by_cases hlt4 : q < c
          · have hl5 : q < ys.length := by have := HROW.out.1; omega
            refine Sl.cases HR2.out (fun ad3 cap3 hx3 hv3 => absurd hl5 (by subst hx3; simp)) (fun b3 o3 cap3 hv3 _ hpos3 hcl3 => ?_)
            obtain ⟨u3, hu3, hr3⟩ := hcl3 q hl5
            have hx := HROW.out.2 _ (List.getElem_mem hl5)
            obtain ⟨x, hxx⟩ : ∃ x, x = ys[q] := ⟨_, rfl⟩
            obtain ⟨a, haa⟩ : ∃ a, a = (apTo p c v t k).getD q 0 := ⟨_, rfl⟩
            have hab := apTo_mod OK.out (Nat.le_of_lt hlt2) q
            have hac := HB.cell hlt4
            have hfz := HB.row.frozen q
            rw [← haa] at hab hac
            rw [← hxx] at hx
            obtain ⟨hx0, hx1⟩ := hx
            obtain ⟨ha0, ha1⟩ := hab
            have hu' : wr.cell? ⟨b, o + k, none⟩ = some (.int .i64 f) := by rw [HB.below.cell (p := ⟨b, o + k, none⟩) (cell_lt HU.out)]; exact HU.out
            have hu2' : wr.cell? ⟨b2, o2 + k, none⟩ = some (.slice (some ⟨b3, o3, none⟩) ys.length cap3) := by rw [HB.below.cell (p := ⟨b2, o2 + k, none⟩) (cell_lt HU2.out)]; rw [HU2.out, hv3]
            have hu3' : wr.cell? ⟨b3, o3 + q, none⟩ = some (.int .i64 x) := by rw [HB.below.cell (p := ⟨b3, o3 + q, none⟩) (cell_lt hu3), hu3, hr3, hxx]
            have m0 : 0 ≤ f * x := Int.mul_nonneg hf0 hx0
            have m1 : f * x ≤ 36 := Int.le_trans (Int.mul_le_mul (show f ≤ 6 by omega) (show x ≤ 6 by omega) hx0 (by omega)) (by omega)
            have HS := Lib.hid (HB.step OK.out hlt2 hlt4 (x := (a + f * x) % p) (by rw [haa, HF.out, hxx, getD_of_lt _ hlt2, getD_of_lt _ hlt3, ← HY.out, getD_of_lt _ hl5]))
            clear HB hu3 hr3 haa hxx hv3 hcl3
            go_wp2
            go_region
            all_goals go_wp2
            all_goals go_roundw
            case rel => exact ⟨q + 1, by omega, by go_num, HS.out.drew⟩
            case measure => simp [intOf]; omega
          · have HB' := Lib.hid HB
            have hqc : Hid (q = c) := Lib.hid (by omega)
            clear HB
            go_wp2
            go_roundw
            case rel => exact ⟨k + 1, by omega, by go_num, Ap.next (by have := HB'.out; rwa [hqc.out] at this)⟩
            case measure => simp [intOf]; omega
      · have hkk : k = v.length := by omega
        subst hkk
        have HA' := Lib.hid HA
        clear HA
        go_wp2
        go_ret
        exact ⟨_, rfl, Ap.doneG (by omega) OK.out HA'.out, HA'.out.below⟩

end Go.Proofs.YtpdkfidmmjlmnabDoor


namespace Go.Proofs.YtpdkfidmmjlmnabDoor
open Go.RowKit

set_option maxHeartbeats 6400000 in
set_option maxRecDepth 100000 in
theorem l04Family_any (p p2 s : Int) (dv mv dv2 mv2 fv : Value) (ds : List Int) (ms : List (List (List Int))) (ds2 : List Int) (ms2 : List (List (List Int))) (fs : List (List (List Int))) (w : World) (h : Cx 0 w dv mv ds ms) (h2 : Cx 0 w dv2 mv2 ds2 ms2) (hf : L3 0 w fv fs) (hcx : IsCx p ds ms) (hcy : IsCx p2 ds2 ms2) (hs : -1 ≤ s ∧ s ≤ 1) (hm : Bd3 1048576 fs) :
    Calls Tryd.prog 45 #[.agg #[.int .i64 p, dv, mv], .agg #[.int .i64 p2, dv2, mv2], fv, .int .i64 s] w (BB (FamOk p ds ds2 s fs) w) := by
  obtain ⟨ad, cap, rfl⟩ := Sl.shape h.dims
  obtain ⟨am, capm, rfl⟩ := Sl.shape h.maps
  obtain ⟨ad2, cap2, rfl⟩ := Sl.shape h2.dims
  obtain ⟨am2, capm2, rfl⟩ := Sl.shape h2.maps
  obtain ⟨af, cf, rfl⟩ := Sl.shape hf
  obtain ⟨k1, k2⟩ := bx_two (p := p) (p2 := p2) 28 h h2
  have HX0 := Lib.hid k1
  have HY0 := Lib.hid k2
  obtain ⟨w1, hw1⟩ : ∃ w1, w1 = ((w.alloc (.cells #[.int .i64 p, .slice ad ds.length cap, .slice am ms.length capm] 28)).alloc (.cells #[.int .i64 p2, .slice ad2 ds2.length cap2, .slice am2 ms2.length capm2] 28)) := ⟨_, rfl⟩
  rw [← hw1] at HX0 HY0
  have hb01 : Below w.heap.size w w1 := HX0.out.below
  have HF0 := Lib.hid (hf.below hb01)
  have HNX : Hid (∀ W, Below w1.heap.size w1 W → Bx w W w.heap.size p (.slice ad ds.length cap) (.slice am ms.length capm) ds ms) := Lib.hid (fun W h => HX0.out.next h)
  have HNY : Hid (∀ W, Below w1.heap.size w1 W → Bx w W (w.heap.size + 1) p2 (.slice ad2 ds2.length cap2) (.slice am2 ms2.length capm2) ds2 ms2) := Lib.hid (fun W h => HY0.out.next h)
  have HCX := Lib.hid hcx
  have HCY := Lib.hid hcy
  have HM := Lib.hid hm
  have hl6 := hcx.1.len1
  have hl7 := hcy.1.len1
  have hp1 := hcx.1.prime.lo1
  have hp7 := hcx.1.prime.hi7
  have hml : fs.length ≤ 1048576 := hm.1
  obtain ⟨hs0, hs1⟩ := hs
  have c1 := HX0.out.c1
  clear h h2 hf k1 k2 hcx hcy hm hb01
  go_enter Tryd.func45, Tryd.ntmps45
  go_upto_region 1 with fail
  rw [← hw1]
  clear hw1
  by_cases hll : fs.length = ds.length
  · have HLL := Lib.hid hll
    have hl1 : (((fs.length : Nat) : Int) != ((ds.length : Nat) : Int)) = false := by simp [hll]
    have hfd : fs.length ≤ 6 := by omega
    clear hll
    go_wp2
    clear c1 hl1
    go_loopw [9, 10, 11] (fun i _ _ wr => ∃ (k : Nat), k ≤ fs.length ∧ i = .int .i64 k ∧ Hid (Below w1.heap.size w1 wr) ∧ Hid (∀ j, j < k → TabOk p (ds.getD j 0) (dimZ ds2 ((j : Int) + s)) (fs.getD j []))) (fun i _ _ _ => fs.length - (intOf i).toNat)
    case atStart => exact ⟨0, Nat.zero_le _, rfl, Lib.hid (Below.refl _ _), Lib.hid (fun j hj => absurd hj (Nat.not_lt_zero _))⟩
    case round =>
      obtain ⟨k, hk, rfl, HB, HD⟩ := hrel
      obtain ⟨wx, hwx⟩ : ∃ wx : World, wx = wr := ⟨_, rfl⟩
      subst hwx
      by_cases hlt : k < fs.length
      · have hkd : k < ds.length := by have := HLL.out; omega
        have hX := HNX.out _ HB.out
        have hdim := HCX.out.1.dim k
        obtain ⟨c, hc⟩ := Int.eq_ofNat_of_zero_le hdim.1
        have hc8 : c ≤ 8 := by omega
        have hz := dimZ_b HCY.out ((k : Int) + s)
        obtain ⟨c2, hc2⟩ := Int.eq_ofNat_of_zero_le hz.1
        have hc28 : c2 ≤ 8 := by omega
        refine Sl.cases hX.cx.dims (fun _ _ hx _ => absurd hkd (by simp [hx])) (fun bd od capd hvd _ _ hcl => ?_)
        injection hvd with e1 e2 e3
        clear e2
        subst e1 e3
        obtain ⟨u, hu, hru⟩ := hcl k hkd
        have hu2 : wx.cell? ⟨bd, od + k, none⟩ = some (.int .i64 (c : Int)) := by rw [hu, hru, ← hc, getD_of_lt _ hkd]
        refine Sl.cases HF0.out (fun _ _ hx _ => absurd hlt (by simp [hx])) (fun bf of cf2 hvf _ _ hcf => ?_)
        injection hvf with e1 e2 e3
        clear e2
        subst e1 e3
        obtain ⟨ut, hut, hrt⟩ := hcf k hlt
        obtain ⟨t, ht⟩ : ∃ t, t = fs[k] := ⟨_, rfl⟩
        rw [← ht] at hrt
        obtain ⟨att, ct, hus⟩ := Sl.shape hrt
        subst hus
        have HTE : Hid (fs.getD k [] = t) := Lib.hid (by rw [getD_of_lt _ hlt, ht])
        have HTM : Hid (Bd2 1048576 t) := Lib.hid (by rw [ht]; exact HM.out.2 _ (List.getElem_mem hlt))
        have htl : t.length ≤ 1048576 := HTM.out.1
        have HRT := Lib.hid hrt
        have HUT : Hid (∀ W, Below w1.heap.size w1 W → W.cell? ⟨bf, of + k, none⟩ = some (.slice att t.length ct)) := Lib.hid (fun W h => later h (Nat.le_refl _) hut)
        have HTC : Hid (dimZ ds2 ((k : Int) + s) = (c2 : Int)) := Lib.hid hc2
        have HDC : Hid (ds.getD k 0 = (c : Int)) := Lib.hid hc
        have c1 := hX.c1
        have hut2 := HUT.out _ HB.out
        have hk0 : (0 : Int) ≤ (k : Int) := by omega
        have hk1 : (k : Int) < (ds.length : Int) := by omega
        have hk2 : (k : Int) < (fs.length : Int) := by omega
        clear hu hru hcl hX hdim hc hz hc2 hcf ht hrt hut
        by_cases hrl : t.length = c
        · have HRL := Lib.hid hrl
          have hq1 : (((t.length : Nat) : Int) != ((c : Nat) : Int)) = false := by simp [hrl]
          clear hrl
          go_wp2
          go_quiet (fail)
          have HB4 := Lib.hid (HB.out.trans ((drewN_below wx nq).mono HB.out.size))
          generalize wx.drewN nq = w4 at *
          clear c1 hut2 hu2 hq1 HB
          go_wp2
          go_loopw [10, 11] (fun i _ wr => ∃ (j : Nat), j ≤ t.length ∧ i = .int .i64 j ∧ Hid (Below w1.heap.size w1 wr) ∧ Hid (∀ q (h : q < t.length), q < j → RowOk p (c2 : Int) t[q])) (fun i _ _ => t.length - (intOf i).toNat)
          case atStart => exact ⟨0, Nat.zero_le _, rfl, HB4, Lib.hid (fun _ _ hj => absurd hj (Nat.not_lt_zero _))⟩
          case round =>
            clear HB4
            obtain ⟨i, hi, rfl, HBY, HQ⟩ := hrel
            obtain ⟨wy, hwy⟩ : ∃ wy : World, wy = wr := ⟨_, rfl⟩
            subst hwy
            have hut3 := HUT.out _ HBY.out
            by_cases hli : i < t.length
            · have hY := HNY.out _ HBY.out
              refine Sl.cases HRT.out (fun _ _ hx _ => absurd hli (by simp [hx])) (fun bt ot ct2 hvt _ _ hct => ?_)
              injection hvt with e1 e2 e3
              clear e2
              subst e1 e3
              obtain ⟨ur, hur, hrr⟩ := hct i hli
              obtain ⟨r, hr⟩ : ∃ r, r = t[i] := ⟨_, rfl⟩
              rw [← hr] at hrr
              obtain ⟨ar, cr, hus⟩ := Sl.shape hrr
              subst hus
              have HRE := Lib.hid hr
              have hrlen : r.length ≤ 1048576 := by rw [hr]; exact HTM.out.2 _ (List.getElem_mem hli)
              have HRR := Lib.hid hrr
              have HUR : Hid (∀ W, Below w1.heap.size w1 W → W.cell? ⟨bt, ot + i, none⟩ = some (.slice ar r.length cr)) := Lib.hid (fun W h => later h (Nat.le_refl _) hur)
              have hur2 := HUR.out _ HBY.out
              have HDA : Hid (∀ W, Below wy.heap.size wy W → Calls Tryd.prog 32 #[.agg #[.int .i64 p2, .slice ad2 ds2.length cap2, .slice am2 ms2.length capm2], .int .i64 ((k : Int) + s)] W (BR (.int .i64 (c2 : Int)) W)) := Lib.hid (fun W h => by
                have := l01Dim_any p2 ((k : Int) + s) _ _ ds2 ms2 W (hY.next h).cx (by omega)
                rwa [HTC.out] at this)
              have d0 := hY.c0
              have d1 := hY.c1
              have d2 := hY.c2
              have HSP : Hid (∀ W, Below wy.heap.size wy W → W.cell? ⟨bf, of + k, none⟩ = some (.slice (some ⟨bt, ot, none⟩) t.length ct) ∧ W.cell? ⟨bt, ot + i, none⟩ = some (.slice ar r.length cr) ∧ W.cell? ⟨w.heap.size + 1, 0, none⟩ = some (.int .i64 p2) ∧ W.cell? ⟨w.heap.size + 1, 1, none⟩ = some (.slice ad2 ds2.length cap2) ∧ W.cell? ⟨w.heap.size + 1, 2, none⟩ = some (.slice am2 ms2.length capm2) ∧ Hid (Below wy.heap.size wy W)) := Lib.hid (fun W h => ⟨later h (Nat.le_refl _) hut3, later h (Nat.le_refl _) hur2, later h (Nat.le_refl _) d0, later h (Nat.le_refl _) d1, later h (Nat.le_refl _) d2, Lib.hid h⟩)
              have HDD : Hid (Below wy.heap.size wy wy.drew) := Lib.hid (Below.refl _ _).drew
              have hwk : IntKind.i64.wrap ((k : Int) + s) = (k : Int) + s := IntWalk.i64_in _ (by omega)
              have hi0 : (0 : Int) ≤ (i : Int) := by omega
              have hi1 : (i : Int) < (t.length : Int) := by omega
              clear hct hY hr hrr hur
              by_cases hrc : r.length = c2
              · have HRC := Lib.hid hrc
                have hq1 : (((r.length : Nat) : Int) != ((c2 : Nat) : Int)) = false := by simp [hrc]
                clear hrc
                go_wp2
                go_region_held3 (fun w' => w'.cell? ⟨bf, of + k, none⟩ = some (.slice (some ⟨bt, ot, none⟩) t.length ct) ∧ w'.cell? ⟨bt, ot + i, none⟩ = some (.slice ar r.length cr) ∧ w'.cell? ⟨w.heap.size + 1, 0, none⟩ = some (.int .i64 p2) ∧ w'.cell? ⟨w.heap.size + 1, 1, none⟩ = some (.slice ad2 ds2.length cap2) ∧ w'.cell? ⟨w.heap.size + 1, 2, none⟩ = some (.slice am2 ms2.length capm2) ∧ Hid (Below wy.heap.size wy w'))
                  (first | exact HSP.out _ (Below.refl _ _) | exact HSP.out _ HDD.out | exact HSP.out _ HB4.out | go_keep)
                  (first
                    | (go_at_call 32; (with_reducible refine (HDA.out _ HDD.out).mono ?_); rintro e w4 ⟨rfl, hb4⟩; have HB4 : Hid (Below wy.heap.size wy w4) := Lib.hid (HDD.out.trans hb4); clear hb4))
                have HB5 := Lib.hid (HBY.out.trans (HB4.out.mono HBY.out.size))
                clear hwk d0 d1 d2 HSP HDA hut3 hq1 hur2 HDD HBY HB4
                go_wp2
                go_loopw [11] (fun z wr => ∃ (q : Nat), q ≤ r.length ∧ z = .int .i64 q ∧ Hid (Below w1.heap.size w1 wr) ∧ Hid (∀ q2 (h : q2 < r.length), q2 < q → 0 ≤ r[q2] ∧ r[q2] ≤ p - 1)) (fun z _ => r.length - (intOf z).toNat)
                case atStart => exact ⟨0, Nat.zero_le _, rfl, HB5, Lib.hid (fun _ _ hj => absurd hj (Nat.not_lt_zero _))⟩
                case round =>
                  clear HB5
                  obtain ⟨q, hq, rfl, HBZ, HV⟩ := hrel
                  obtain ⟨wz, hwz⟩ : ∃ wz : World, wz = wr := ⟨_, rfl⟩
                  subst hwz
                  have hut3 := HUT.out _ HBZ.out
                  have hur3 := HUR.out _ HBZ.out
                  by_cases hlq : q < r.length
                  · refine Sl.cases HRR.out (fun _ _ hx _ => absurd hlq (by simp [hx])) (fun bn on cn hvn _ _ hcn => ?_)
                    injection hvn with e1 e2 e3
                    clear e2
                    subst e1 e3
                    obtain ⟨un, hun, hrn⟩ := hcn q hlq
                    obtain ⟨x, hx⟩ : ∃ x, x = r[q] := ⟨_, rfl⟩
                    rw [hrn, ← hx] at hun
                    have hun2 := later HBZ.out (Nat.le_refl _) hun
                    have HXE := Lib.hid hx
                    have c0 := (HNX.out _ HBZ.out).c0
                    have HSP : Hid (∀ W, Below wz.heap.size wz W → W.cell? ⟨bf, of + k, none⟩ = some (.slice (some ⟨bt, ot, none⟩) t.length ct) ∧ W.cell? ⟨bt, ot + i, none⟩ = some (.slice (some ⟨bn, on, none⟩) r.length cr) ∧ W.cell? ⟨bn, on + q, none⟩ = some (.int .i64 x) ∧ W.cell? ⟨w.heap.size, 0, none⟩ = some (.int .i64 p) ∧ Hid (Below wz.heap.size wz W)) := Lib.hid (fun W h => ⟨later h (Nat.le_refl _) hut3, later h (Nat.le_refl _) hur3, later h (Nat.le_refl _) hun2, later h (Nat.le_refl _) c0, Lib.hid h⟩)
                    have HDD : Hid (Below wz.heap.size wz wz.drew) := Lib.hid (Below.refl _ _).drew
                    have hwp : IntKind.i64.wrap (p - 1) = p - 1 := IntWalk.i64_in _ (by omega)
                    have hq0 : (0 : Int) ≤ (q : Int) := by omega
                    have hq2 : (q : Int) < (r.length : Int) := by omega
                    clear hcn hun hrn hx
                    by_cases hxp : 0 ≤ x ∧ x ≤ p - 1
                    · have HIN : Hid (∀ W, Calls Tryd.prog 48 #[.int .i64 x, .int .i64 0, .int .i64 (p - 1)] W (QW (.bool true) W)) := Lib.hid (fun W => spin_yes hxp W)
                      have HXP := Lib.hid hxp
                      clear hxp
                      go_wp2
                      go_region_held3 (fun w' => w'.cell? ⟨bf, of + k, none⟩ = some (.slice (some ⟨bt, ot, none⟩) t.length ct) ∧ w'.cell? ⟨bt, ot + i, none⟩ = some (.slice (some ⟨bn, on, none⟩) r.length cr) ∧ w'.cell? ⟨bn, on + q, none⟩ = some (.int .i64 x) ∧ w'.cell? ⟨w.heap.size, 0, none⟩ = some (.int .i64 p) ∧ Hid (Below wz.heap.size wz w'))
                        (first | exact HSP.out _ (Below.refl _ _) | exact HSP.out _ HDD.out | go_keep)
                        ((go_at_call 48; (with_reducible refine (HIN.out _).mono ?_); rintro e w5 ⟨rfl, rfl⟩))
                      have HB6 := Lib.hid (HBZ.out.trans (HDD.out.mono HBZ.out.size))
                      have HV6 : Hid (∀ q2 (h : q2 < r.length), q2 < q + 1 → 0 ≤ r[q2] ∧ r[q2] ≤ p - 1) := Lib.hid (fun q2 h hj => by
                        by_cases e : q2 = q
                        · subst e; rw [← HXE.out]; exact HXP.out
                        · exact HV.out q2 h (by omega))
                      clear hwp hq0 hq2 c0 hun2 hur3 hut3 HSP HIN HDD HV HBZ
                      go_wp2
                      go_roundw
                      case rel => exact ⟨q + 1, by omega, by go_num, HB6, HV6⟩
                      case measure => simp [intOf]; omega
                    · have HIN : Hid (∀ W, Calls Tryd.prog 48 #[.int .i64 x, .int .i64 0, .int .i64 (p - 1)] W (QW (.bool false) W)) := Lib.hid (fun W => spin_no hxp W)
                      have HXP := Lib.hid hxp
                      clear hxp
                      go_wp2
                      go_region_held3 (fun w' => w'.cell? ⟨bf, of + k, none⟩ = some (.slice (some ⟨bt, ot, none⟩) t.length ct) ∧ w'.cell? ⟨bt, ot + i, none⟩ = some (.slice (some ⟨bn, on, none⟩) r.length cr) ∧ w'.cell? ⟨bn, on + q, none⟩ = some (.int .i64 x) ∧ w'.cell? ⟨w.heap.size, 0, none⟩ = some (.int .i64 p) ∧ Hid (Below wz.heap.size wz w'))
                        (first | exact HSP.out _ (Below.refl _ _) | exact HSP.out _ HDD.out | go_keep)
                        ((go_at_call 48; (with_reducible refine (HIN.out _).mono ?_); rintro e w5 ⟨rfl, rfl⟩))
                      have HB6 := Lib.hid (HNX.out _ (HBZ.out.trans (HDD.out.mono HBZ.out.size))).below
                      clear hwp hq0 hq2 c0 hun2 hur3 hut3 HSP HIN HDD HV HBZ
                      go_wp2
                      go_ret
                      exact bb_false HB6.out (fun hh => HXP.out (by
                        have h1 := hh.2 k hlt
                        rw [HTE.out] at h1
                        have h2 := (h1.2 _ (List.getElem_mem hli)).2
                        rw [← HRE.out] at h2
                        rw [HXE.out]
                        exact h2 _ (List.getElem_mem hlq)))
                  · have HB6 := Lib.hid HBZ.out
                    have HQ6 : Hid (∀ q2 (h : q2 < t.length), q2 < i + 1 → RowOk p (c2 : Int) t[q2]) := Lib.hid (fun q2 h hj => by
                      by_cases e : q2 = i
                      · subst e
                        rw [← HRE.out]
                        exact ⟨by rw [HRC.out], all_of_lt (fun z hz => HV.out z hz (by omega))⟩
                      · exact HQ.out q2 h (by omega))
                    clear HBZ HV HQ
                    go_wp2
                    go_roundw
                    case rel => exact ⟨i + 1, by omega, by go_num, HB6, HQ6⟩
                    case measure => simp [intOf]; omega
              · have HRC := Lib.hid hrc
                have hq1 : (((r.length : Nat) : Int) != ((c2 : Nat) : Int)) = true := by
                  have : ¬ ((r.length : Int) = (c2 : Int)) := by omega
                  simpa using this
                clear hrc
                go_wp2
                go_region_held3 (fun w' => w'.cell? ⟨bf, of + k, none⟩ = some (.slice (some ⟨bt, ot, none⟩) t.length ct) ∧ w'.cell? ⟨bt, ot + i, none⟩ = some (.slice ar r.length cr) ∧ w'.cell? ⟨w.heap.size + 1, 0, none⟩ = some (.int .i64 p2) ∧ w'.cell? ⟨w.heap.size + 1, 1, none⟩ = some (.slice ad2 ds2.length cap2) ∧ w'.cell? ⟨w.heap.size + 1, 2, none⟩ = some (.slice am2 ms2.length capm2) ∧ Hid (Below wy.heap.size wy w'))
                  (first | exact HSP.out _ (Below.refl _ _) | exact HSP.out _ HDD.out | exact HSP.out _ HB4.out | go_keep)
                  (first
                    | (go_at_call 32; (with_reducible refine (HDA.out _ HDD.out).mono ?_); rintro e w4 ⟨rfl, hb4⟩; have HB4 : Hid (Below wy.heap.size wy w4) := Lib.hid (HDD.out.trans hb4); clear hb4))
                have HB5 := Lib.hid (HNX.out _ (HBY.out.trans (HB4.out.mono HBY.out.size))).below
                clear hwk d0 d1 d2 HSP HDA hut3 hur2 HDD HBY HB4
                go_wp2
                go_ret
                exact bb_false HB5.out (fun hh => HRC.out (by
                  have h1 := hh.2 k hlt
                  rw [HTE.out, HTC.out] at h1
                  have h2 := (h1.2 _ (List.getElem_mem hli)).1
                  rw [← HRE.out] at h2
                  omega))
            · have HD5 : Hid (∀ j, j < k + 1 → TabOk p (ds.getD j 0) (dimZ ds2 ((j : Int) + s)) (fs.getD j [])) := Lib.hid (fun j hj => by
                by_cases e : j = k
                · subst e
                  rw [HDC.out, HTC.out, HTE.out]
                  exact ⟨by rw [HRL.out], all_of_lt (fun z hz => HQ.out z hz (by omega))⟩
                · exact HD.out j (by omega))
              clear HQ HD
              go_wp2
              go_roundw
              case rel => exact ⟨k + 1, by omega, by go_num, HBY, HD5⟩
              case measure => simp [intOf]; omega
        · have HRL := Lib.hid hrl
          have hq1 : (((t.length : Nat) : Int) != ((c : Nat) : Int)) = true := by
            have : ¬ ((t.length : Int) = (c : Int)) := by omega
            simpa using this
          clear hrl
          go_wp2
          go_quiet (fail)
          have HB4 := Lib.hid (HNX.out _ (HB.out.trans ((drewN_below wx nq).mono HB.out.size))).below
          generalize wx.drewN nq = w4 at *
          clear c1 hut2 hu2
          go_wp2
          go_ret
          exact bb_false HB4.out (fun hh => HRL.out (by
            have h1 := (hh.2 k hlt).1
            rw [HTE.out, HDC.out] at h1
            omega))
      · have HXX := Lib.hid (HNX.out _ HB.out).below
        go_wp2
        go_ret
        exact bb_true HXX.out ⟨HLL.out, fun n hn => HD.out n (by omega)⟩
  · have HLL := Lib.hid hll
    have hl1 : (((fs.length : Nat) : Int) != ((ds.length : Nat) : Int)) = true := by
      have : ¬ ((fs.length : Int) = (ds.length : Int)) := by omega
      simpa using this
    clear hll
    go_wp2
    go_ret
    exact bb_false HX0.out.below (fun hh => HLL.out hh.1)
end Go.Proofs.YtpdkfidmmjlmnabDoor


namespace Go.Proofs.YtpdkfidmmjlmnabDoor
open Go.RowKit

theorem fam_ap {p s : Int} {ds ds2 : List Int} {fs : List (List (List Int))} {vs : List Int} {n c2 : Nat} (hp : IsP p) (hF : FamOk p ds ds2 s fs) (hn : n < ds.length) (hv : RowOk p (ds.getD n 0) vs) (hc2 : dimZ ds2 ((n : Int) + s) = (c2 : Int)) : ApOk p c2 vs (fs.getD n []) ∧ n < fs.length := by
  have hnf : n < fs.length := by rw [hF.1]; exact hn
  have ht := hF.2 n hnf
  rw [hc2] at ht
  refine ⟨⟨hp, ?_, hv.2, ht.2⟩, hnf⟩
  have h1 := ht.1
  have h2 := hv.1
  omega

set_option maxHeartbeats 1600000 in
set_option maxRecDepth 100000 in
theorem l04Code1_any (p p2 : Int) (b : Nat) (dv mv dv2 mv2 fv : Value) (ds : List Int) (ms : List (List (List Int))) (ds2 : List Int) (ms2 : List (List (List Int))) (fs : List (List (List Int))) (w : World) (h : Cx 0 w dv mv ds ms) (h2 : Cx 0 w dv2 mv2 ds2 ms2) (hf : L3 0 w fv fs) (hr : w.cell? ⟨b, 0, none⟩ = some fv) (hd : ds.length ≤ 1048576) (hm : Bd3 1048576 ms) (hd2 : ds2.length ≤ 1048576) (hm2 : Bd3 1048576 ms2) (hmf : Bd3 1048576 fs) :
    Calls Tryd.prog 30 #[.agg #[.int .i64 p, dv, mv], .agg #[.int .i64 p2, dv2, mv2], .slice (some ⟨b, 0, none⟩) 1 1] w (BR (.int .i64 (famCode p p2 0 ds ms ds2 ms2 fs)) w) := by
  obtain ⟨ad, cap, rfl⟩ := Sl.shape h.dims
  obtain ⟨am, capm, rfl⟩ := Sl.shape h.maps
  obtain ⟨ad2, cap2, rfl⟩ := Sl.shape h2.dims
  obtain ⟨am2, capm2, rfl⟩ := Sl.shape h2.maps
  obtain ⟨af, cf, rfl⟩ := Sl.shape hf
  obtain ⟨k1, k2⟩ := bx_two (p := p) (p2 := p2) 28 h h2
  have HX0 := Lib.hid k1
  have HY0 := Lib.hid k2
  obtain ⟨w1, hw1⟩ : ∃ w1, w1 = ((w.alloc (.cells #[.int .i64 p, .slice ad ds.length cap, .slice am ms.length capm] 28)).alloc (.cells #[.int .i64 p2, .slice ad2 ds2.length cap2, .slice am2 ms2.length capm2] 28)) := ⟨_, rfl⟩
  rw [← hw1] at HX0 HY0
  have hb01 : Below w.heap.size w w1 := HX0.out.below
  have HF0 := Lib.hid (hf.below hb01)
  have HNX : Hid (∀ W, Below w1.heap.size w1 W → Bx w W w.heap.size p (.slice ad ds.length cap) (.slice am ms.length capm) ds ms) := Lib.hid (fun W h => HX0.out.next h)
  have HNY : Hid (∀ W, Below w1.heap.size w1 W → Bx w W (w.heap.size + 1) p2 (.slice ad2 ds2.length cap2) (.slice am2 ms2.length capm2) ds2 ms2) := Lib.hid (fun W h => HY0.out.next h)
  have HMF := Lib.hid hmf
  have HR1 := Lib.hid (later hb01 (Nat.le_refl _) hr)
  have c0 := HX0.out.c0
  have c1 := HX0.out.c1
  have c2 := HX0.out.c2
  have d0 := HY0.out.c0
  have d1 := HY0.out.c1
  have d2 := HY0.out.c2
  have HCK := Lib.hid (l04Two_any p p2 _ _ _ _ ds ms ds2 ms2 w1 HX0.out.cx HY0.out.cx hd hm hd2 hm2)
  obtain ⟨ec, hec⟩ : ∃ ec, ec = endCode p p2 ds ms ds2 ms2 := ⟨_, rfl⟩
  rw [← hec] at HCK
  have HEC := Lib.hid hec
  clear h h2 hf hm hm2 hmf k1 k2 hr hb01 hec
  go_enter Tryd.func30, Tryd.ntmps30
  go_upto_region 1 with fail
  rw [← hw1]
  clear hw1
  go_wp2_with fail
  refine HCK.out.mono ?_
  rintro e w3 ⟨rfl, hb3⟩
  have HB3 := Lib.hid hb3
  have HX3 := Lib.hid (HNX.out _ HB3.out)
  have HY3 := Lib.hid (HNY.out _ HB3.out)
  clear hb3 c0 c1 c2 d0 d1 d2 HX0 HY0 HCK
  by_cases h0 : ec = 0
  · subst h0
    have hE := endCode_zero HEC.out.symm
    have HE := Lib.hid hE
    have c0 := HX3.out.c0
    have c1 := HX3.out.c1
    have c2 := HX3.out.c2
    have d0 := HY3.out.c0
    have d1 := HY3.out.c1
    have d2 := HY3.out.c2
    have hr3 := later HB3.out (Nat.le_refl _) HR1.out
    have HSP : Hid (∀ W, Below w3.heap.size w3 W → W.cell? ⟨b, 0, none⟩ = some (.slice af fs.length cf) ∧ W.cell? ⟨w.heap.size, 0, none⟩ = some (.int .i64 p) ∧ W.cell? ⟨w.heap.size, 1, none⟩ = some (.slice ad ds.length cap) ∧ W.cell? ⟨w.heap.size, 2, none⟩ = some (.slice am ms.length capm) ∧ W.cell? ⟨w.heap.size + 1, 0, none⟩ = some (.int .i64 p2) ∧ W.cell? ⟨w.heap.size + 1, 1, none⟩ = some (.slice ad2 ds2.length cap2) ∧ W.cell? ⟨w.heap.size + 1, 2, none⟩ = some (.slice am2 ms2.length capm2)) := Lib.hid (fun W h => ⟨later h (Nat.le_refl _) hr3, later h (Nat.le_refl _) c0, later h (Nat.le_refl _) c1, later h (Nat.le_refl _) c2, later h (Nat.le_refl _) d0, later h (Nat.le_refl _) d1, later h (Nat.le_refl _) d2⟩)
    have HDD : Hid (Below w3.heap.size w3 w3.drew) := Lib.hid (Below.refl _ _).drew
    have HIF : Hid (∀ W, Below w3.heap.size w3 W → Calls Tryd.prog 45 #[.agg #[.int .i64 p, .slice ad ds.length cap, .slice am ms.length capm], .agg #[.int .i64 p2, .slice ad2 ds2.length cap2, .slice am2 ms2.length capm2], .slice af fs.length cf, .int .i64 0] W (BB (FamOk p ds ds2 0 fs) W)) := Lib.hid (fun W h => l04Family_any p p2 0 _ _ _ _ _ ds ms ds2 ms2 fs W (HX3.out.next h).cx (HY3.out.next h).cx (HF0.out.below (HB3.out.trans (h.mono HB3.out.size))) HE.out.x HE.out.y ⟨by omega, by omega⟩ HMF.out)
    clear hE
    go_wp2
    refine wp_loop_rounds 2 ?_
    rw [rounds_succ]
    go_wp2
    go_region_held3 (fun W => W.cell? ⟨b, 0, none⟩ = some (.slice af fs.length cf) ∧ W.cell? ⟨w.heap.size, 0, none⟩ = some (.int .i64 p) ∧ W.cell? ⟨w.heap.size, 1, none⟩ = some (.slice ad ds.length cap) ∧ W.cell? ⟨w.heap.size, 2, none⟩ = some (.slice am ms.length capm) ∧ W.cell? ⟨w.heap.size + 1, 0, none⟩ = some (.int .i64 p2) ∧ W.cell? ⟨w.heap.size + 1, 1, none⟩ = some (.slice ad2 ds2.length cap2) ∧ W.cell? ⟨w.heap.size + 1, 2, none⟩ = some (.slice am2 ms2.length capm2))
      (first | exact HSP.out _ (Below.refl _ _) | exact HSP.out _ HDD.out | exact HSP.out _ HB4.out | go_keep)
      ((go_at_call 45; (with_reducible refine (HIF.out _ HDD.out).mono ?_); rintro e w4 ⟨bb, rfl, hb4, hbb⟩; have HB4 : Hid (Below w3.heap.size w3 w4) := Lib.hid (HDD.out.trans hb4); have HBB := Lib.hid hbb; clear hb4 hbb))
    have HBZ := Lib.hid (HX3.out.next HB4.out).below
    clear c0 c1 c2 d0 d1 d2 hr3 HIF HSP HB4
    have hbb := HBB.out
    by_cases hT : FamOk p ds ds2 0 fs
    · obtain rfl : bb = true := hbb.2 hT
      have HT := Lib.hid hT
      clear hT hbb
      go_wp2
      rw [rounds_succ]
      go_wp2
      go_ret
      exact ⟨ret_int (by unfold famCode; rw [if_pos HEC.out.symm, if_pos HT.out]), HBZ.out⟩
    · obtain rfl : bb = false := bb_no hbb hT
      have HT := Lib.hid hT
      clear hT hbb
      go_wp2
      go_ret
      exact ⟨ret_int (by unfold famCode; rw [if_pos HEC.out.symm, if_neg HT.out]), HBZ.out⟩
  · have hne2 : (ec != 0) = true := by simp [h0]
    have hne3 : (ec == 0) = false := by simp [h0]
    have HNE := Lib.hid h0
    clear h0
    go_wp2
    go_ret
    exact ⟨ret_int (by unfold famCode; rw [← HEC.out, if_neg HNE.out]), HX3.out.below⟩

set_option maxHeartbeats 1600000 in
set_option maxRecDepth 100000 in
theorem l04Image_any (p p2 s : Int) (n c2 : Nat) (dv mv dv2 mv2 fv vv : Value) (ds : List Int) (ms : List (List (List Int))) (ds2 : List Int) (ms2 : List (List (List Int))) (fs : List (List (List Int))) (vs : List Int) (w : World) (h : Cx 0 w dv mv ds ms) (h2 : Cx 0 w dv2 mv2 ds2 ms2) (hf : L3 0 w fv fs) (hv : L1 0 w vv vs) (hcy : IsCx p2 ds2 ms2) (hn : n < fs.length) (hnb : n ≤ 100) (hs : -1 ≤ s ∧ s ≤ 1) (hc2 : dimZ ds2 ((n : Int) + s) = (c2 : Int)) (ok : ApOk p c2 vs (fs.getD n [])) (hmv : vs.length ≤ 1048576) :
    Calls Tryd.prog 47 #[.agg #[.int .i64 p, dv, mv], .agg #[.int .i64 p2, dv2, mv2], fv, .int .i64 (n : Int), .int .i64 s, vv] w (ApG p c2 vs (fs.getD n []) w) := by
  obtain ⟨ad, cap, rfl⟩ := Sl.shape h.dims
  obtain ⟨am, capm, rfl⟩ := Sl.shape h.maps
  obtain ⟨ad2, cap2, rfl⟩ := Sl.shape h2.dims
  obtain ⟨am2, capm2, rfl⟩ := Sl.shape h2.maps
  obtain ⟨af, cf, rfl⟩ := Sl.shape hf
  obtain ⟨av, cv, rfl⟩ := Sl.shape hv
  obtain ⟨k1, k2⟩ := bx_two (p := p) (p2 := p2) 28 h h2
  have HX0 := Lib.hid k1
  have HY0 := Lib.hid k2
  obtain ⟨w1, hw1⟩ : ∃ w1, w1 = ((w.alloc (.cells #[.int .i64 p, .slice ad ds.length cap, .slice am ms.length capm] 28)).alloc (.cells #[.int .i64 p2, .slice ad2 ds2.length cap2, .slice am2 ms2.length capm2] 28)) := ⟨_, rfl⟩
  rw [← hw1] at HX0 HY0
  have hb01 : Below w.heap.size w w1 := HX0.out.below
  have HF0 := Lib.hid (hf.below hb01)
  have HNX : Hid (∀ W, Below w1.heap.size w1 W → Bx w W w.heap.size p (.slice ad ds.length cap) (.slice am ms.length capm) ds ms) := Lib.hid (fun W h => HX0.out.next h)
  have HNY : Hid (∀ W, Below w1.heap.size w1 W → Bx w W (w.heap.size + 1) p2 (.slice ad2 ds2.length cap2) (.slice am2 ms2.length capm2) ds2 ms2) := Lib.hid (fun W h => HY0.out.next h)
  have HV0 := Lib.hid (hv.below hb01)
  have HCY := Lib.hid hcy
  have HOK := Lib.hid ok
  have hl7 := hcy.1.len1
  have hc28 : c2 ≤ 8 := by have := dimZ_b hcy ((n : Int) + s); omega
  obtain ⟨hs0, hs1⟩ := hs
  refine Sl.cases HF0.out (fun _ _ hx _ => absurd hn (by simp [hx])) (fun bf of cf2 hvf _ _ hcf => ?_)
  injection hvf with e1 e2 e3
  clear e2
  subst e1 e3
  obtain ⟨ut, hut, hrt⟩ := hcf n hn
  rw [← getD_of_lt [] hn] at hrt
  have HRT := Lib.hid hrt
  have HDA : Hid (∀ W, Below w1.heap.size w1 W → Calls Tryd.prog 32 #[.agg #[.int .i64 p2, .slice ad2 ds2.length cap2, .slice am2 ms2.length capm2], .int .i64 ((n : Int) + s)] W (BR (.int .i64 (c2 : Int)) W)) := Lib.hid (fun W h => by
    have := l01Dim_any p2 ((n : Int) + s) _ _ ds2 ms2 W (HNY.out W h).cx (by omega)
    rwa [hc2] at this)
  have c0 := HX0.out.c0
  have d0 := HY0.out.c0
  have d1 := HY0.out.c1
  have d2 := HY0.out.c2
  have HSP : Hid (∀ W, Below w1.heap.size w1 W → W.cell? ⟨bf, of + n, none⟩ = some ut ∧ W.cell? ⟨w.heap.size, 0, none⟩ = some (.int .i64 p) ∧ W.cell? ⟨w.heap.size + 1, 0, none⟩ = some (.int .i64 p2) ∧ W.cell? ⟨w.heap.size + 1, 1, none⟩ = some (.slice ad2 ds2.length cap2) ∧ W.cell? ⟨w.heap.size + 1, 2, none⟩ = some (.slice am2 ms2.length capm2) ∧ Hid (Below w1.heap.size w1 W)) := Lib.hid (fun W h => ⟨later h (Nat.le_refl _) hut, later h (Nat.le_refl _) c0, later h (Nat.le_refl _) d0, later h (Nat.le_refl _) d1, later h (Nat.le_refl _) d2, Lib.hid h⟩)
  have HDD : Hid (Below w1.heap.size w1 w1.drew) := Lib.hid (Below.refl _ _).drew
  have HAP : Hid (∀ W, Below w1.heap.size w1 W → Calls Tryd.prog 49 #[.int .i64 p, ut, .slice av vs.length cv, .int .i64 (c2 : Int)] W (ApG p c2 vs (fs.getD n []) W)) := Lib.hid (fun W h => l01ApplyG_any p c2 _ _ vs _ W HOK.out (HV0.out.below h) (HRT.out.below h) hmv (by omega))
  have hwk : IntKind.i64.wrap ((n : Int) + s) = (n : Int) + s := IntWalk.i64_in _ (by omega)
  have hi0 : (0 : Int) ≤ (n : Int) := by omega
  have hi1 : (n : Int) < (fs.length : Int) := by omega
  clear h h2 hf hv hcy hc2 ok hcf hrt k1 k2 hb01 HX0 HY0
  go_enter Tryd.func47, Tryd.ntmps47
  go_upto_region 1 with fail
  rw [← hw1]
  clear hw1
  go_region_held3 (fun W => W.cell? ⟨bf, of + n, none⟩ = some ut ∧ W.cell? ⟨w.heap.size, 0, none⟩ = some (.int .i64 p) ∧ W.cell? ⟨w.heap.size + 1, 0, none⟩ = some (.int .i64 p2) ∧ W.cell? ⟨w.heap.size + 1, 1, none⟩ = some (.slice ad2 ds2.length cap2) ∧ W.cell? ⟨w.heap.size + 1, 2, none⟩ = some (.slice am2 ms2.length capm2) ∧ Hid (Below w1.heap.size w1 W))
    (first | exact HSP.out _ (Below.refl _ _) | exact HSP.out _ HDD.out | exact HSP.out _ HB4.out | exact HSP.out _ HB5.out | go_keep)
    (first
      | (go_at_call 32; (with_reducible refine (HDA.out _ HDD.out).mono ?_); rintro e w4 ⟨rfl, hb4⟩; have HB4 : Hid (Below w1.heap.size w1 w4) := Lib.hid (HDD.out.trans hb4); clear hb4)
      | (go_at_call 49; (with_reducible refine (HAP.out _ HB4.out).mono ?_); rintro e w5 ⟨u5, rfl, hg5, hb5⟩; have HB5 : Hid (Below w1.heap.size w1 w5) := Lib.hid (HB4.out.trans (hb5.mono HB4.out.size)); have HG5 := Lib.hid hg5; clear hg5 hb5))
  have HBZ := Lib.hid (HNX.out _ HB5.out).below
  clear hwk hi0 hi1 c0 d0 d1 d2 HSP HDA HAP
  go_wp2
  go_ret
  exact ⟨u5, rfl, HG5.out, HBZ.out⟩
end Go.Proofs.YtpdkfidmmjlmnabDoor


namespace Go.Proofs.YtpdkfidmmjlmnabDoor
open Go.RowKit

section
variable {P : Program} {ops : Array Oper} {Q : Exit → Act → World → Prop} {md : Region.Mode} {S : World → Prop}
end
def LeadR (x : Int) (xs : List Int) (w : World) (e : Ending) (w' : World) : Prop := ∃ u, e = .returned (.agg #[.int .i64 x, u]) ∧ W1 w.heap.size w'.heap.size w' u xs ∧ Below w.heap.size w w'

set_option maxHeartbeats 3200000 in
set_option maxRecDepth 100000 in
theorem lead_any (p2 s : Int) (n c2 : Nat) (dv2 mv2 fv vv : Value) (ds2 : List Int) (ms2 fs : List (List (List Int))) (vs : List Int) (w : World) (h2 : Cx 0 w dv2 mv2 ds2 ms2) (hf : L3 0 w fv fs) (hv : L1 0 w vv vs) (hcy : IsCx p2 ds2 ms2) (hn : n < fs.length) (hnb : n ≤ 100) (hs : -1 ≤ s ∧ s ≤ 1) (hc2 : dimZ ds2 ((n : Int) + s) = (c2 : Int)) (ok : ApOk p2 c2 vs (fs.getD n [])) (hmf : fs.length ≤ 1048576) (hmv : vs.length ≤ 1048576) :
    Calls Tryd.prog 66 #[.agg #[.int .i64 p2, dv2, mv2, .int .i64 s, fv], .agg #[.int .i64 (n : Int), vv]] w (LeadR ((n : Int) + s) (apT p2 c2 vs (fs.getD n [])) w) := by
  obtain ⟨ad2, cap2, rfl⟩ := Sl.shape h2.dims
  obtain ⟨am2, capm2, rfl⟩ := Sl.shape h2.maps
  obtain ⟨af, cf, rfl⟩ := Sl.shape hf
  obtain ⟨av, cv, rfl⟩ := Sl.shape hv
  obtain ⟨t, ht⟩ : ∃ t, t = fs.getD n [] := ⟨_, rfl⟩
  rw [← ht] at ok ⊢
  obtain ⟨tn, htn⟩ : ∃ tn, tn = t.length := ⟨_, rfl⟩
  obtain ⟨wa, hwa⟩ : ∃ wa, wa = w.alloc (.cells #[.int .i64 p2, .slice ad2 ds2.length cap2, .slice am2 ms2.length capm2, .int .i64 s, .slice af fs.length cf] 74) := ⟨_, rfl⟩
  have hba : Below w.heap.size w wa := by rw [hwa]; exact below_alloc1 _ _
  have hsa : wa.heap.size = w.heap.size + 1 := by rw [hwa]; simp
  have a0 : wa.cell? ⟨w.heap.size, 0, none⟩ = some (.int .i64 p2) := by rw [hwa]; simp
  have a1 : wa.cell? ⟨w.heap.size, 1, none⟩ = some (.slice ad2 ds2.length cap2) := by rw [hwa]; simp
  have a2 : wa.cell? ⟨w.heap.size, 2, none⟩ = some (.slice am2 ms2.length capm2) := by rw [hwa]; simp
  have a3 : wa.cell? ⟨w.heap.size, 3, none⟩ = some (.int .i64 s) := by rw [hwa]; simp
  have a4 : wa.cell? ⟨w.heap.size, 4, none⟩ = some (.slice af fs.length cf) := by rw [hwa]; simp
  obtain ⟨wb, hwb⟩ : ∃ wb, wb = wa.alloc (.cells #[.int .i64 (n : Int), .slice av vs.length cv] 92) := ⟨_, rfl⟩
  have hbb : Below wa.heap.size wa wb := by rw [hwb]; exact below_alloc1 _ _
  have hsb : wb.heap.size = w.heap.size + 2 := by rw [hwb]; simp [hsa]
  have b0 : wb.cell? ⟨wa.heap.size, 0, none⟩ = some (.int .i64 (n : Int)) := by rw [hwb]; simp
  have b1 : wb.cell? ⟨wa.heap.size, 1, none⟩ = some (.slice av vs.length cv) := by rw [hwb]; simp
  obtain ⟨w1, hw1a⟩ : ∃ w1, w1 = wb.alloc (.cells #[.int .i64 0, .slice none 0 0] 92) := ⟨_, rfl⟩
  have hbc : Below wb.heap.size wb w1 := by rw [hw1a]; exact below_alloc1 _ _
  have hsz : w.heap.size + 3 = w1.heap.size := by rw [hw1a]; simp [hsb]
  have ht1 : w1.there (w.heap.size + 2) 0 2 := by
    rw [← hsb, hw1a]
    exact there_new wb #[.int .i64 0, .slice none 0 0] 92 (n := 2) (by simp)
  have hw1 : w1 = (((w.alloc (.cells #[.int .i64 p2, .slice ad2 ds2.length cap2, .slice am2 ms2.length capm2, .int .i64 s, .slice af fs.length cf] 74)).alloc (.cells #[.int .i64 (n : Int), .slice av vs.length cv] 92)).alloc (.cells #[.int .i64 0, .slice none 0 0] 92)) := by rw [hw1a, hwb, hwa]
  have hb1 : Below w.heap.size w w1 := (hba.trans (hbb.mono (by omega))).trans (hbc.mono (by omega))
  have hab : Below wa.heap.size wa w1 := hbb.trans (hbc.mono (by omega))
  have g0 := later hab (Nat.le_refl _) a0
  have g1 := later hab (Nat.le_refl _) a1
  have g2 := later hab (Nat.le_refl _) a2
  have g3 := later hab (Nat.le_refl _) a3
  have g4 := later hab (Nat.le_refl _) a4
  have e0 := later hbc (Nat.le_refl _) b0
  have e1 := later hbc (Nat.le_refl _) b1
  rw [hsa] at e0 e1
  clear a0 a1 a2 a3 a4 b0 b1 hbb hbc hab hba hsa hsb hwa hwb hw1a
  have HB1 := Lib.hid hb1
  have HY1 := Lib.hid (h2.below hb1)
  have HF1 := Lib.hid (hf.below hb1)
  have HV1 := Lib.hid (hv.below hb1)
  have HOK := Lib.hid ok
  have HT1 := Lib.hid ht1
  have hl7 := hcy.1.len1
  have hc28 : c2 ≤ 8 := by have := dimZ_b hcy ((n : Int) + s); omega
  obtain ⟨hs0, hs1⟩ := hs
  refine Sl.cases HF1.out (fun _ _ hx _ => absurd hn (by simp [hx])) (fun bf of cf2 hvf _ _ hcf => ?_)
  injection hvf with k1 k2 k3
  clear k2
  subst k1 k3
  obtain ⟨ut, hut, hrt⟩ := hcf n hn
  rw [← getD_of_lt [] hn, ← ht] at hrt
  obtain ⟨at', ct, hus⟩ := Sl.shape hrt
  rw [← htn] at hus
  subst hus
  have HRT := Lib.hid hrt
  have HDA : Hid (∀ W, Below w1.heap.size w1 W → Calls Tryd.prog 40 #[.agg #[.int .i64 p2, .slice ad2 ds2.length cap2, .slice am2 ms2.length capm2], .int .i64 ((n : Int) + s)] W (BR (.int .i64 (c2 : Int)) W)) := Lib.hid (fun W h => by
    have := dimAt_any p2 ((n : Int) + s) _ _ ds2 ms2 W (HY1.out.below h) (by omega)
    rwa [hc2] at this)
  have HAP : Hid (∀ W, Below w1.heap.size w1 W → Calls Tryd.prog 77 #[.int .i64 p2, .slice av vs.length cv, .slice at' tn ct, .int .i64 (c2 : Int)] W (ApW p2 c2 vs t W)) := Lib.hid (fun W h => applyTablew_any p2 c2 _ _ vs _ W HOK.out (HV1.out.below h) (HRT.out.below h) hmv (by omega))
  have HIN : Hid (∀ W, Calls Tryd.prog 55 #[.int .i64 (n : Int), .int .i64 0, .int .i64 ((fs.length : Int) - 1)] W (QW (.bool true) W)) := Lib.hid (fun W => in_yes (by omega) W)
  have hwk : IntKind.i64.wrap ((n : Int) + s) = (n : Int) + s := IntWalk.i64_in _ (by omega)
  have HRES : Hid (Tryd.f66.results = #[.cell 4 92]) := Lib.hid (by kernel_rfl)
  have HIE : Hid ((Tryd.prog.info? 92).map (·.size) = some 2) := Lib.hid (by kernel_rfl)
  clear h2 hf hv hcy hc2 ok hcf hrt hb1 ht1 ht htn
  go_enter Tryd.func66, Tryd.ntmps66
  go_upto_region 1 with fail
  rw [← hw1]
  clear hw1
  go_wp2_with fail
  refine (HIN.out _).mono ?_
  rintro e w' ⟨rfl, rfl⟩
  clear HIN
  go_upto_region 5 with fail
  have S0 : Hid (Below w1.heap.size w1 w1.drew) := Lib.hid (Below.refl _ _).drew
  refine wp_region_last (fun W => Hid (Below w1.heap.size w1 W)) 13 (by kernel_rfl) rfl (by kernel_rfl) ?_
  refine held_take (i := 0) (v := .int .i64 ((n : Int) + s)) (some 25) rfl rfl (by kernel_rfl) (by kernel_rfl) (by kernel_rfl) (fun _ _ _ h => h) (yieldsIf_move (by kernel_rfl) rfl (by kernel_rfl)) S0 ?_
  refine held_take (i := 1) (v := .pointer (some ⟨w.heap.size, 0, none⟩)) (some 26) rfl rfl (by kernel_rfl) (by kernel_rfl) (by kernel_rfl) (fun _ _ _ h => h) (yieldsIf_run (by kernel_rfl) (fun W _ => by kernel_rfl)) S0 ?_
  refine held_take (i := 2) (v := .pointer (some ⟨w.heap.size, 0, none⟩)) (some 27) rfl rfl (by kernel_rfl) (by kernel_rfl) (by kernel_rfl) (fun _ _ _ h => h) (yieldsIf_run (by kernel_rfl) (fun W _ => by kernel_rfl)) S0 ?_
  refine held_take (i := 3) (v := .int .i64 p2) (some 28) rfl rfl (by kernel_rfl) (by kernel_rfl) (by kernel_rfl) (fun _ _ _ h => h) (yieldsIf_cell (by kernel_rfl) rfl (by kernel_rfl) (fun W h => hload W (later h.out (Nat.le_refl _) g0))) S0 ?_
  refine held_take (i := 4) (v := .pointer (some ⟨w.heap.size + 1, 1, none⟩)) (some 29) rfl rfl (by kernel_rfl) (by kernel_rfl) (by kernel_rfl) (fun _ _ _ h => h) (yieldsIf_run (by kernel_rfl) (fun W _ => by kernel_rfl)) S0 ?_
  refine held_take (i := 5) (v := .slice av vs.length cv) (some 30) rfl rfl (by kernel_rfl) (by kernel_rfl) (by kernel_rfl) (fun _ _ _ h => h) (yieldsIf_cell (by kernel_rfl) rfl (by kernel_rfl) (fun W h => hloadS W (later h.out (Nat.le_refl _) e1))) S0 ?_
  refine held_take (i := 6) (v := .slice at' tn ct) (some 31) rfl rfl (by kernel_rfl) (by kernel_rfl) (by kernel_rfl) (fun _ _ _ h => h) (yieldsIf_move (by kernel_rfl) rfl (by kernel_rfl)) S0 ?_
  refine held_take (i := 7) (v := .pointer (some ⟨w.heap.size, 0, none⟩)) (some 32) rfl rfl (by kernel_rfl) (by kernel_rfl) (by kernel_rfl) (fun _ _ _ h => h) (yieldsIf_run (by kernel_rfl) (fun W _ => by kernel_rfl)) S0 ?_
  refine held_take (i := 8) (v := .agg #[.int .i64 p2, .slice ad2 ds2.length cap2, .slice am2 ms2.length capm2]) (some 33) rfl rfl (by kernel_rfl) (by kernel_rfl) (by kernel_rfl) (fun _ _ _ h => h) (yieldsIf_cell (by kernel_rfl) rfl (by kernel_rfl) (fun W h => hloadC W (later h.out (Nat.le_refl _) g0) (later h.out (Nat.le_refl _) g1) (later h.out (Nat.le_refl _) g2))) S0 ?_
  refine held_take (i := 9) (v := .int .i64 ((n : Int) + s)) (some 34) rfl rfl (by kernel_rfl) (by kernel_rfl) (by kernel_rfl) (fun _ _ _ h => h) (yieldsIf_move (by kernel_rfl) rfl (by kernel_rfl)) S0 ?_
  refine held_enter (i := 10) (some 35) (f := 40) (args := #[.agg #[.int .i64 p2, .slice ad2 ds2.length cap2, .slice am2 ms2.length capm2], .int .i64 ((n : Int) + s)]) (by kernel_rfl) rfl rfl rfl (by kernel_rfl) (HDA.out _ S0.out) ?_ (fun c w' h => by cases h.1) (fun w' h => by cases h.1)
  rintro e4 W4 ⟨he4, hb4⟩
  injection he4 with he4
  subst he4
  have S1 : Hid (Below w1.heap.size w1 W4) := Lib.hid (S0.out.trans hb4)
  refine ⟨S1, ?_⟩
  clear hb4
  refine held_enter (i := 11) (some 36) (f := 77) (args := #[.int .i64 p2, .slice av vs.length cv, .slice at' tn ct, .int .i64 (c2 : Int)]) (by kernel_rfl) rfl rfl rfl (by kernel_rfl) (HAP.out _ S1.out) ?_ (fun c w' h => by obtain ⟨_, h, _⟩ := h; cases h) (fun w' h => by obtain ⟨_, h, _⟩ := h; cases h)
  rintro e5 W5 ⟨u5, he5, hw5, hb5⟩
  injection he5 with he5
  subst he5
  have S2 : Hid (Below w1.heap.size w1 W5) := Lib.hid (S1.out.trans (hb5.mono S1.out.size))
  have HW5 := Lib.hid hw5
  have hs4 : w1.heap.size ≤ W4.heap.size := S1.out.size
  obtain ⟨au, cu, hus⟩ := Sl.shape hw5.l1
  rw [apT_length' HOK.out] at hus
  subst hus
  refine ⟨S2, ?_⟩
  clear hb5 hw5
  refine held_take (i := 12) (v := .agg #[.int .i64 ((n : Int) + s), .slice au c2 cu]) (some 37) rfl rfl (by kernel_rfl) (by kernel_rfl) (by kernel_rfl) (fun _ _ _ h => h) (yieldsIf_run (by kernel_rfl) (fun W _ => by kernel_rfl)) S2 ?_
  refine held_none (i := 13) (v := .bool false) rfl rfl (by kernel_rfl) (by kernel_rfl) (by kernel_rfl) (fun _ _ _ h => h) (yieldsIf_move (by kernel_rfl) rfl (by kernel_rfl)) S2 ?_
  have hth : W5.there (w.heap.size + 2) 0 (#[.int .i64 ((n : Int) + s), .slice au c2 cu] : Array Value).size := there_below HT1.out S2.out (by omega)
  have x0 := hth 0 (by simp)
  have x1 := hth 1 (by simp)
  refine wpAnyH_done (by kernel_rfl) (lastQ_store rfl (by kernel_rfl) (by kernel_rfl) 92 (.tmp 4) (.tmp 37) (by kernel_rfl) (w.heap.size + 2) 0 #[.int .i64 ((n : Int) + s), .slice au c2 cu] (by kernel_rfl) (by kernel_rfl) hth HIE.out (by kernel_rfl) ?_) _
  simp only [Act.put, List.setIfInBounds_toArray, List.set_cons_zero, List.set_cons_succ]
  obtain ⟨W6, hW6⟩ : ∃ W6, W6 = W5.setCells (w.heap.size + 2) 0 [.int .i64 ((n : Int) + s), .slice au c2 cu] := ⟨_, rfl⟩
  have h6 : W6 = (W5.setCell ⟨w.heap.size + 2, 0, none⟩ (.int .i64 ((n : Int) + s))).setCell ⟨w.heap.size + 2, 1, none⟩ (.slice au c2 cu) := by rw [hW6]; rfl
  have HB6 : Hid (Below w.heap.size w W6) := Lib.hid (by
    rw [h6]
    exact (((HB1.out.trans (S2.out.mono HB1.out.size))).setCell (by show w.heap.size ≤ w.heap.size + 2; omega) _).setCell (by show w.heap.size ≤ w.heap.size + 2; omega) _)
  have HW6 : Hid (W1 w.heap.size W6.heap.size W6 (.slice au c2 cu) (apT p2 c2 vs t)) := Lib.hid (by
    have hs6 : W6.heap.size = W5.heap.size := by rw [h6]; simp
    rw [hs6]
    refine (HW5.out.same ?_).wider (by omega) (Nat.le_refl _)
    rw [h6]
    exact (Same.set _ (Or.inl (by omega))).trans (Same.set _ (Or.inl (by omega))))
  obtain ⟨y0, hy0⟩ := Option.isSome_iff_exists.1 x0.1
  obtain ⟨y1, hy1⟩ := Option.isSome_iff_exists.1 x1.1
  have f0 : W6.cell? ⟨w.heap.size + 2, 0, none⟩ = some (.int .i64 ((n : Int) + s)) := by
    rw [h6, World.cell?_setCell_other _ _ _ _ (by simp)]
    exact World.cell?_setCell_same _ _ _ hy0
  have f1 : W6.cell? ⟨w.heap.size + 2, 1, none⟩ = some (.slice au c2 cu) := by
    rw [h6]
    exact World.cell?_setCell_same _ _ _ (by rw [World.cell?_setCell_other _ _ _ _ (by simp)]; exact hy1)
  rw [← hW6]
  clear hW6 h6 hy0 hy1 x0 x1 hth S0 S1 S2 g0 g1 g2 g3 g4 e0 e1 hwk
  go_wp2
  refine bodyPost_ret (v := .agg #[.int .i64 ((n : Int) + s), .slice au c2 cu]) ?_ rfl ⟨.slice au c2 cu, rfl, HW6.out, HB6.out⟩
  simp only [results, HRES.out]
  go_simp

end Go.Proofs.YtpdkfidmmjlmnabDoor


namespace Go.Proofs.YtpdkfidmmjlmnabDoor
open Go.RowKit

/-- The rests of a list modulo a reduced one. -/
structure RestsOf (p : Int) (n : Nat) (B C tt : List Lin.V) : Prop where
  rest : ∀ i (h : i < tt.length) (h2 : i < C.length), Lin.Rest p B C[i] B.length tt[i]
  wd : ∀ u ∈ tt, Lin.Wd n u
theorem RestsOf.nil (p : Int) (n : Nat) (B C : List Lin.V) : RestsOf p n B C [] := ⟨fun i h => absurd h (Nat.not_lt_zero _), by simp⟩
theorem RestsOf.push {p : Int} {n : Nat} {B C tt : List Lin.V} (h : RestsOf p n B C tt) {r : Lin.V} (hk : tt.length < C.length) (hr : Lin.Rest p B C[tt.length] B.length r) (hw : Lin.Wd n r) : RestsOf p n B C (tt ++ [r]) := by
  refine ⟨fun i h1 h2 => ?_, fun u hu => ?_⟩
  · by_cases e : i < tt.length
    · rw [List.getElem_append_left e]
      exact h.rest i e h2
    · have e2 : i = tt.length := by simp at h1; omega
      subst e2
      rw [List.getElem_append_right (Nat.le_refl _)]
      simpa using hr
  · rcases List.mem_append.1 hu with h1 | h1
    · exact h.wd u h1
    · rw [List.mem_singleton.1 h1]; exact hw
/-- A table that is being gathered: the empty literal yet, or rows of its own. -/
def GsE (base g : Nat) (w : World) (v : Value) (tb : List (List Int)) : Prop := (tb = [] ∧ v = .slice (some ⟨g, 0, none⟩) 0 0) ∨ Gs base w v tb
theorem GsE.below {base g : Nat} {w w' : World} {v : Value} {tb : List (List Int)} (h : GsE base g w v tb) (hb : Below w.heap.size w w') : GsE base g w' v tb := h.imp id (fun h => h.below hb)
theorem GsE.l2 {base g : Nat} {w : World} {v : Value} {tb : List (List Int)} (h : GsE base g w v tb) : L2 0 w v tb := by
  rcases h with ⟨rfl, rfl⟩ | h
  · exact Or.inl ⟨rfl, _, _, rfl⟩
  · exact h.l2
section
variable {md : Region.Mode} {ops : Array Oper} {Q : Exit → Act → World → Prop} {S : World → Prop}
end

end Go.Proofs.YtpdkfidmmjlmnabDoor


namespace Go.Proofs.YtpdkfidmmjlmnabDoor
open Go.RowKit

theorem Gb.put {base g n cap : Nat} {w : World} {xs : List Int} (h : Gb base w (.slice (some ⟨g, 0, none⟩) n cap) xs) {k : Nat} (_hk : k < xs.length) (x : Int) :
    Gb base (w.setCell ⟨g, k, none⟩ (.int .i64 x)) (.slice (some ⟨g, 0, none⟩) n cap) (xs.set k x) ∧ w.frozen? ⟨g, k, none⟩ = false ∧ base ≤ g := by
  obtain ⟨hl, h2⟩ := h
  rcases h2 with ⟨h0, _⟩ | ⟨g', c', cur, hv, hlo, hh, hnc, hcm, hcs, htk⟩
  · cases h0
  · injection hv with e1 e2 e3
    injection e1 with e1
    injection e1 with e1
    subst e1 e2 e3
    refine ⟨⟨by simp, Or.inr ⟨g, cap, cur.setIfInBounds k (.int .i64 x), by simp, hlo, block_setCell' hh _, by simpa using hnc, hcm, by simpa using hcs, ?_⟩⟩, by simp [World.frozen?, hh], hlo⟩
    simp only [List.length_set, Nat.mul_one] at htk ⊢
    rw [Array.toList_setIfInBounds, List.take_set, htk, List.map_set]
theorem Gb.cell {base g n cap : Nat} {w : World} {v : Lin.V} (h : Gb base w (.slice (some ⟨g, 0, none⟩) n cap) (toL n v)) {k : Nat} (hk : k < n) : w.cell? ⟨g, k, none⟩ = some (.int .i64 (v k)) := by
  obtain ⟨b, o, c, hv, hc⟩ := l1_toL h.l1 (show 0 < n by omega)
  injection hv with e1 _ _
  injection e1 with e1
  injection e1 with e1 e2
  subst e1 e2
  have := hc k hk
  rwa [Nat.zero_add] at this
theorem Gb.block {base n cap : Nat} {w : World} {xs : List Int} {ad : Option Addr} (h : Gb base w (.slice ad n cap) xs) (hx : 0 < xs.length) : ∃ g, ad = some ⟨g, 0, none⟩ ∧ base ≤ g := by
  obtain ⟨hl, h2⟩ := h
  rcases h2 with ⟨_, h0⟩ | ⟨g', c', cur, hv, hlo, _⟩
  · omega
  · injection hv with e1 _ _
    exact ⟨g', e1, hlo⟩

theorem add_zero {p : Int} {r t : Lin.V} (h : Lin.Md p r) : Lin.add p r (-0) t = r := funext fun i => by
  unfold Lin.add
  rw [Int.neg_zero, Int.zero_mul, Int.add_zero]
  exact Lin.md_mod (h i).1 (h i).2
section
variable {P : Program} {md : Region.Mode} {ops : Array Oper} {n : Nat} {Q : Exit → Act → World → Prop}
theorem lastQ_storeI {on : Oper} {a : Act} {w : World} (hn : ops[n]? = some on) (hg : on.guard = none) (hd : on.dst = none) (x y : Operand) (ho : on.op = .store 2 x y)
    (b o : Nat) (z : Int) (u : Value) (hx : a.eval x = .pointer (some ⟨b, o, none⟩)) (hy : a.eval y = .int .i64 z) (hc : w.cell? ⟨b, o, none⟩ = some u) (hf : w.frozen? ⟨b, o, none⟩ = false)
    (h : Q .normal a (w.setCell ⟨b, o, none⟩ (.int .i64 z))) : lastQ Tryd.prog ops n Q .normal a w :=
  lastQ_of hn hg (by
    have e : a.put on.dst undef = a := by rw [hd]; rfl
    rw [← e] at h
    unfold Oper.wp execOp
    simp only [ho, hx, hy, Sem.run_bind, Sem.run_pure, hstoreI w z hc hf, Result.andThen_ok]
    exact h)
end

end Go.Proofs.YtpdkfidmmjlmnabDoor


namespace Go.Proofs.YtpdkfidmmjlmnabDoor
open Go.RowKit

/-- Nothing that was there has changed, but the block b. -/
structure But (b : Nat) (w w' : World) : Prop where
  os : w'.os = w.os
  tape : w'.tape = w.tape
  output : w'.output = w.output
  size : w.heap.size ≤ w'.heap.size
  block : ∀ k, k < w.heap.size → k ≠ b → w'.heap[k]? = w.heap[k]?
theorem But.refl (b : Nat) (w : World) : But b w w := ⟨rfl, rfl, rfl, Nat.le_refl _, fun _ _ _ => rfl⟩
theorem But.trans {b : Nat} {x y z : World} (h : But b x y) (k : But b y z) : But b x z :=
  ⟨k.os.trans h.os, k.tape.trans h.tape, k.output.trans h.output, Nat.le_trans h.size k.size, fun i hi hb => (k.block i (Nat.lt_of_lt_of_le hi h.size) hb).trans (h.block i hi hb)⟩
theorem But.of_below {b : Nat} {w w' : World} (h : Below w.heap.size w w') : But b w w' := ⟨h.os, h.tape, h.output, h.size, fun k hk _ => h.block k hk⟩
theorem But.set {b : Nat} (w : World) (i : Nat) (v : Value) : But b w (w.setCell ⟨b, i, none⟩ v) :=
  ⟨rfl, rfl, rfl, by simp, fun k _ hb => Below.heap_setCell w ⟨b, i, none⟩ v k hb⟩
theorem But.drew {b : Nat} {w w' : World} (h : But b w w') : But b w w'.drew := ⟨h.os, (Below.refl 0 w').drew.tape.trans h.tape, h.output, h.size, h.block⟩
theorem But.below {b B : Nat} {w w' : World} (h : But b w w') (hB : B ≤ w.heap.size) (hb : B ≤ b) : Below B w w' := ⟨h.os, h.tape, h.output, h.size, fun k hk => h.block k (by omega) (by omega)⟩

theorem But.cell {b : Nat} {w w' : World} (h : But b w w') {k o : Nat} (hk : k < w.heap.size) (hb : k ≠ b) : w'.cell? ⟨k, o, none⟩ = w.cell? ⟨k, o, none⟩ := World.cell?_of_block (w := w) (h.block k hk hb)

/-- The map with the graded g leads the element (x, us) to (y, vs), in all worlds that hold what w holds. -/
def Led (w : World) (g : Value) (x : Int) (us : List Int) (y : Int) (vs : List Int) : Prop :=
  ∀ W vv, Below w.heap.size w W → L1 0 W vv us → Calls Tryd.prog 66 #[g, .agg #[.int .i64 x, vv]] W (LeadR y vs W)
inductive Chain (w : World) : List Value → Int → List Int → Int → List Int → Prop
  | nil (x : Int) (us : List Int) : Chain w [] x us x us
  | cons {g : Value} {gs : List Value} {x y z : Int} {us vs ts : List Int} : Led w g x us y vs → Chain w gs y vs z ts → Chain w (g :: gs) x us z ts

/-- A path's list of maps, read in w. -/
def MapsAt (w : World) (v : Value) (gs : List Value) : Prop := ∃ b o c, v = .slice (some ⟨b, o, none⟩) gs.length c ∧ ∀ k (h : k < gs.length), w.cell? ⟨b, o + k, none⟩ = some (.func (.func 66) #[gs[k]] #[])

/-- A number of a row with a factor's share of another one. -/
def addMod (p f a x : Int) : Int := (a + f * x) % p

theorem chain_cons {w : World} {gs : List Value} {x z : Int} {us ts : List Int} {k : Nat} (h : Chain w (gs.drop k) x us z ts) (hk : k < gs.length) : ∃ y vs, Led w gs[k] x us y vs ∧ Chain w (gs.drop (k + 1)) y vs z ts := by
  rw [List.drop_eq_getElem_cons hk] at h
  cases h with
  | cons h1 h2 => exact ⟨_, _, h1, h2⟩
theorem chain_end {w : World} {gs : List Value} {x z : Int} {us ts : List Int} {k : Nat} (h : Chain w (gs.drop k) x us z ts) (hk : ¬ k < gs.length) : us = ts := by
  rw [List.drop_eq_nil_of_le (Nat.le_of_not_lt hk)] at h
  cases h with
  | nil => rfl
/-- The path's box at block S, the element's box behind it. -/
structure ElB (W : World) (S : Nat) (f : Int) (mv : Value) (x : Int) (uv : Value) (us : List Int) : Prop where
  a0 : W.cell? ⟨S, 0, none⟩ = some (.int .i64 f)
  a1 : W.cell? ⟨S, 1, none⟩ = some mv
  c0 : W.cell? ⟨S + 1, 0, none⟩ = some (.int .i64 x)
  c1 : W.cell? ⟨S + 1, 1, none⟩ = some uv
  th : W.there (S + 1) 0 2
  l : L1 0 W uv us
theorem ElB.lt {W : World} {S : Nat} {f : Int} {mv : Value} {x : Int} {uv : Value} {us : List Int} (h : ElB W S f mv x uv us) : S + 1 < W.heap.size := cell_lt h.c0
theorem ElB.step {W W' : World} {S : Nat} {f : Int} {mv : Value} {x : Int} {uv : Value} {us : List Int} (h : ElB W S f mv x uv us) (hb : Below W.heap.size W W') {x2 : Int} {u2 : Value} {vs : List Int} (hu : W1 W.heap.size W'.heap.size W' u2 vs) :
    ElB ((W'.setCell ⟨S + 1, 0, none⟩ (.int .i64 x2)).setCell ⟨S + 1, 1, none⟩ u2) S f mv x2 u2 vs := by
  have hl := h.lt
  have d0 := later hb (Nat.le_refl _) h.c0
  have d1 := later hb (Nat.le_refl _) h.c1
  refine ⟨?_, ?_, ?_, ?_, there_set (there_set (there_below h.th hb hl) _ _) _ _, ?_⟩
  · rw [World.cell?_setCell_other _ _ _ _ (by simp), World.cell?_setCell_other _ _ _ _ (by simp)]
    exact later hb (Nat.le_refl _) h.a0
  · rw [World.cell?_setCell_other _ _ _ _ (by simp), World.cell?_setCell_other _ _ _ _ (by simp)]
    exact later hb (Nat.le_refl _) h.a1
  · rw [World.cell?_setCell_other _ _ _ _ (by simp)]
    exact World.cell?_setCell_same _ _ _ d0
  · exact World.cell?_setCell_same _ _ _ (by rw [World.cell?_setCell_other _ _ _ _ (by simp)]; exact d1)
  · exact (stable1 W.heap.size _ _ _ _ ((Keep.set _ hl).trans (Keep.set _ hl)) hu.l1).lower (Nat.zero_le _)
theorem ElB.step1 {W W' : World} {S : Nat} {f : Int} {mv : Value} {x : Int} {uv : Value} {us : List Int} (h : ElB W S f mv x uv us) {x2 : Int} {u2 : Value} {vs : List Int} (hu : W1 W.heap.size W'.heap.size W' u2 vs) :
    L1 S ((W'.setCell ⟨S + 1, 0, none⟩ (.int .i64 x2)).setCell ⟨S + 1, 1, none⟩ u2) u2 vs := by
  have hl := h.lt
  exact (stable1 W.heap.size _ _ _ _ ((Keep.set _ hl).trans (Keep.set _ hl)) hu.l1).lower (by omega)

def AddR (b c : Nat) (Z : Nat → Int) (w : World) (e : Ending) (w' : World) : Prop := e = .returned (.tuple #[]) ∧ But b w w' ∧ w'.rowIs b 2 c (fun i => .int .i64 (Z i))

set_option maxHeartbeats 3200000 in
set_option maxRecDepth 100000 in
theorem addTo_any (p f x z : Int) (b c : Nat) (Z : Nat → Int) (us ts : List Int) (gs : List Value) (mv uv : Value) (w0 w : World) (hB : Below w0.heap.size w0 w) (hr : w.rowIs b 2 c (fun i => .int .i64 (Z i)))
    (hmv : MapsAt w0 mv gs) (hgl : 0 < gs.length ∧ gs.length ≤ 1048576) (hu : L1 0 w uv us) (hch : Chain w0 gs x us z ts) (hp : 0 < p ∧ p ≤ 7) (hf : 0 ≤ f ∧ f ≤ 6) (hZ : ∀ i, i < c → 0 ≤ Z i ∧ Z i ≤ 6) (ht : ts.length = c) (htn : ∀ y ∈ ts, 0 ≤ y ∧ y ≤ 6) (hc : c ≤ 1048576) :
    Calls Tryd.prog 76 #[.agg #[.int .i64 f, mv], .int .i64 p, .slice (some ⟨b, 0, none⟩) c c, .agg #[.int .i64 x, uv]] w (AddR b c (fun i => addMod p f (Z i) (ts.getD i 0)) w) := by
  obtain ⟨bm, om, cm, rfl, hcl⟩ := hmv
  obtain ⟨au, cu, rfl⟩ := Sl.shape hu
  have hbl : b < w.heap.size := hr.lt
  obtain ⟨hgl0, hgl1⟩ := hgl
  obtain ⟨w1, hw1⟩ : ∃ w1, w1 = ((w.alloc (.cells #[.int .i64 f, .slice (some ⟨bm, om, none⟩) gs.length cm] 78)).alloc (.cells #[.int .i64 x, .slice au us.length cu] 92)) := ⟨_, rfl⟩
  have hb01 : Below w.heap.size w w1 := by rw [hw1]; exact ((Below.refl _ _).alloc (Nat.le_refl _) _).alloc (by simp) _
  have hs1 : w1.heap.size = w.heap.size + 2 := by rw [hw1]; simp
  have a0 : w1.cell? ⟨w.heap.size, 0, none⟩ = some (.int .i64 f) := by rw [hw1]; simp
  have a1 : w1.cell? ⟨w.heap.size, 1, none⟩ = some (.slice (some ⟨bm, om, none⟩) gs.length cm) := by rw [hw1]; simp
  have e0 : w1.cell? ⟨w.heap.size + 1, 0, none⟩ = some (.int .i64 x) := by rw [hw1]; simp
  have e1 : w1.cell? ⟨w.heap.size + 1, 1, none⟩ = some (.slice au us.length cu) := by rw [hw1]; simp
  have HB0 := Lib.hid hB
  have HR0 := Lib.hid hr
  have HB1 : Hid (Below w0.heap.size w0 w1) := Lib.hid (hB.trans (hb01.mono hB.size))
  have HR1 : Hid (w1.rowIs b 2 c (fun i => .int .i64 (Z i))) := Lib.hid (hr.of_block (hb01.block _ hbl))
  have HU1 := Lib.hid (hu.below hb01)
  have HTH1 : Hid (w1.there (w.heap.size + 1) 0 2) := Lib.hid (by rw [hw1]; have := there_new (w.alloc (.cells #[.int .i64 f, .slice (some ⟨bm, om, none⟩) gs.length cm] 78)) #[.int .i64 x, .slice au us.length cu] 92 (n := 2) (by simp); simpa using this)
  have HB01 := Lib.hid hb01
  have HBT : Hid (But b w w1) := Lib.hid (But.of_below hb01)
  have hi1 : w0.heap.size ≤ w.heap.size := hB.size
  obtain ⟨hp0, hp1⟩ := hp
  obtain ⟨hf0, hf1⟩ := hf
  have HCL := Lib.hid hcl
  have HCH := Lib.hid hch
  have HTN := Lib.hid htn
  have HZ := Lib.hid hZ
  have HRES : Hid (Tryd.f76.results = #[]) := Lib.hid (by kernel_rfl)
  have HIE : Hid ((Tryd.prog.info? 92).map (·.size) = some 2) := Lib.hid (by kernel_rfl)
  clear hr hu hB hcl hch htn hZ
  go_enter Tryd.func76, Tryd.ntmps76
  go_upto_region 1 with fail
  rw [← hw1]
  clear hw1 hb01
  go_wp2
  have th1 : w1.there (w.heap.size + 1) 0 2 := HTH1.out
  obtain ⟨S, hS⟩ : ∃ S, S = w.heap.size := ⟨_, rfl⟩
  have HBW : Hid (Below S w w1) := Lib.hid (by rw [hS]; exact HB01.out)
  rw [← hS] at a0 a1 e0 e1 th1 hbl hs1 hi1
  have HSE := Lib.hid hS
  rw [← hS]
  clear hS HTH1
  have HST : Hid (ElB w1 S f (.slice (some ⟨bm, om, none⟩) gs.length cm) x (.slice au us.length cu) us) := Lib.hid ⟨a0, a1, e0, e1, th1, HU1.out⟩
  clear a0 a1 e0 e1 th1
  go_loopw [15] (fun i wr => ∃ (k : Nat) (y : Int) (vs : List Int) (uw : Value), k ≤ gs.length ∧ i = .int .i64 k ∧ Hid (Below S w wr) ∧ Hid (w1.heap.size ≤ wr.heap.size) ∧ Hid (ElB wr S f (.slice (some ⟨bm, om, none⟩) gs.length cm) y uw vs) ∧ Hid (Chain w0 (gs.drop k) y vs z ts) ∧ Hid (0 < k → L1 S wr uw vs)) (fun i _ => gs.length - (intOf i).toNat)
  case atStart => exact ⟨0, x, us, _, Nat.zero_le _, rfl, HBW, Lib.hid (Nat.le_refl _), HST, Lib.hid (by rw [List.drop_zero]; exact HCH.out), Lib.hid (fun h => absurd h (Nat.lt_irrefl _))⟩
  case round =>
    obtain ⟨k, y, vs, uw, hk, rfl, HB, HSZ, HE, HC, HLL⟩ := hrel
    obtain ⟨wx, hwx⟩ : ∃ wx : World, wx = wr := ⟨_, rfl⟩
    subst hwx
    have e0 := HE.out.c0
    have e1 := HE.out.c1
    have hsz := HSZ.out
    by_cases hlt : k < gs.length
    · obtain ⟨y2, vs2, hled, hch2⟩ := chain_cons HC.out hlt
      have HCH2 := Lib.hid hch2
      have hcell : wx.cell? ⟨bm, om + k, none⟩ = some (.func (.func 66) #[gs[k]] #[]) := by
        have h0 := HCL.out k hlt
        exact later (HB0.out.trans (HB.out.mono hi1)) (Nat.le_refl _) h0
      have HLD := Lib.hid (hled wx uw (HB0.out.trans (HB.out.mono hi1)) HE.out.l)
      obtain ⟨g, hg⟩ : ∃ g, g = gs[k] := ⟨_, rfl⟩
      rw [← hg] at hcell HLD
      have hkl : (k : Int) < (gs.length : Int) := by omega
      clear hg hled hch2
      go_wp2_with fail
      refine HLD.out.mono ?_
      rintro e w4 ⟨u4, rfl, hw4, hb4⟩
      obtain ⟨au4, cu4, hus4⟩ := Sl.shape hw4.l1
      subst hus4
      have HL4 : Hid (0 < k + 1 → L1 S ((w4.setCell ⟨S + 1, 0, none⟩ (.int .i64 y2)).setCell ⟨S + 1, 1, none⟩ (.slice au4 vs2.length cu4)) (.slice au4 vs2.length cu4) vs2) := Lib.hid (fun _ => HE.out.step1 hw4)
      have HE4 := Lib.hid (HE.out.step hb4 (x2 := y2) hw4)
      have hth : w4.there (S + 1) 0 2 := there_below HE.out.th hb4 HE.out.lt
      have d0 := later hb4 (Nat.le_refl _) e0
      have d1 := later hb4 (Nat.le_refl _) e1
      have x0 := hth 0 (by omega)
      have x1 := hth 1 (by omega)
      have HB4 : Hid (Below S w ((w4.setCell ⟨S + 1, 0, none⟩ (.int .i64 y2)).setCell ⟨S + 1, 1, none⟩ (.slice au4 vs2.length cu4))) := Lib.hid (((HB.out.trans (hb4.mono (Nat.le_trans (by rw [HSE.out]; exact HB.out.size) (Nat.le_refl _)))).setCell (by show S ≤ S + 1; omega) _).setCell (by show S ≤ S + 1; omega) _)
      have HS4 : Hid (w1.heap.size ≤ ((w4.setCell ⟨S + 1, 0, none⟩ (.int .i64 y2)).setCell ⟨S + 1, 1, none⟩ (.slice au4 vs2.length cu4)).heap.size) := Lib.hid (by simpa using Nat.le_trans HSZ.out hb4.size)
      clear e0 e1 hcell hw4 hb4 HLD
      go_wp2
      go_roundw
      case rel => exact ⟨k + 1, y2, vs2, _, by omega, by go_num, HB4, HS4, HE4, HCH2, HL4⟩
      case measure => simp [intOf]; omega
    · have hke : k = gs.length := by omega
      have hts := chain_end HC.out hlt
      subst hts
      have hl := HLL.out (by omega)
      obtain ⟨auw, cuw, hus⟩ := Sl.shape hl
      rw [ht] at hus
      subst hus
      have HL := Lib.hid hl
      have a0 := HE.out.a0
      have HROW : Hid (wx.rowIs b 2 c (fun i => .int .i64 (if i < 0 then addMod p f (Z i) (vs.getD i 0) else Z i))) := Lib.hid ((HR0.out.of_block (HB.out.block _ hbl)).congr (fun i _ => by simp))
      obtain ⟨wo, hwo⟩ : ∃ wo : World, wo = wx := ⟨_, rfl⟩
      rw [← hwo] at HROW HL a0 HB HSZ HE hsz e0 e1
      have HWO := Lib.hid hwo.symm
      have hbS : b ≠ S := by omega
      have hSo : S + 1 < wo.heap.size := HE.out.lt
      have A0 : Hid (∀ W, But b wo W → W.cell? ⟨S, 0, none⟩ = some (.int .i64 f)) := Lib.hid (fun W h => by rw [h.cell (by omega) (by omega)]; exact HE.out.a0)
      subst hwo
      clear hl hlt
      go_wp2
      go_loopw [26] (fun i wr => ∃ (q : Nat), q ≤ c ∧ i = .int .i64 q ∧ Hid (But b wo wr) ∧ Hid (wr.rowIs b 2 c (fun i => .int .i64 (if i < q then addMod p f (Z i) (vs.getD i 0) else Z i)))) (fun i _ => c - (intOf i).toNat)
      case atStart => exact ⟨0, Nat.zero_le _, rfl, Lib.hid (But.refl _ _), HROW⟩
      case round =>
        obtain ⟨q, hq, rfl, HBO, HRW⟩ := hrel
        obtain ⟨wy, hwy⟩ : ∃ wy : World, wy = wr := ⟨_, rfl⟩
        subst hwy
        by_cases hlt : q < c
        · have hltv : q < vs.length := by omega
          refine Sl.cases HL.out (fun _ _ hx _ => absurd hltv (by simp [hx])) (fun bu ou capu hvu hbu _ hcl => ?_)
          injection hvu with k1 k2 k3
          clear k2
          subst k1 k3
          obtain ⟨u, hu, hru⟩ := hcl q hltv
          have hbu2 := cell_lt hu
          obtain ⟨n, hn⟩ : ∃ n, n = vs[q] := ⟨_, rfl⟩
          have hnb := HTN.out _ (List.getElem_mem hltv)
          rw [← hn] at hnb
          obtain ⟨hn0, hn1⟩ := hnb
          have hun : wy.cell? ⟨bu, ou + q, none⟩ = some (.int .i64 n) := by rw [HBO.out.cell hbu2 (by omega), hu, hru, hn]
          have hfa := A0.out _ HBO.out
          obtain ⟨a, ha⟩ : ∃ a, a = Z q := ⟨_, rfl⟩
          have hab := HZ.out q hlt
          rw [← ha] at hab
          obtain ⟨ha0, ha1⟩ := hab
          have HACC : Hid (∀ W : World, W.rowIs b 2 c (fun i => .int .i64 (if i < q then addMod p f (Z i) (vs.getD i 0) else Z i)) → W.cell? ⟨b, 0 + q, none⟩ = some (.int .i64 a)) := Lib.hid (fun W h => by have := h.cell hlt; rw [if_neg (Nat.lt_irrefl _), ← ha] at this; rwa [Nat.zero_add])
          have m0 : 0 ≤ f * n := Int.mul_nonneg hf0 hn0
          have m1 : f * n ≤ 36 := Int.le_trans (Int.mul_le_mul hf1 hn1 hn0 (by omega)) (by omega)
          have HST2 : Hid (∀ W : World, W.rowIs b 2 c (fun i => .int .i64 (if i < q then addMod p f (Z i) (vs.getD i 0) else Z i)) → (W.setCell ⟨b, 0 + q, none⟩ (.int .i64 ((a + f * n) % p))).rowIs b 2 c (fun i => .int .i64 (if i < q + 1 then addMod p f (Z i) (vs.getD i 0) else Z i))) := Lib.hid (fun W h => by
            rw [Nat.zero_add]
            refine (h.set q _).congr (fun i _ => ?_)
            by_cases e : i = q
            · subst e
              rw [if_pos rfl, if_pos (Nat.lt_succ_self _), addMod, ← ha, getD_of_lt _ hltv, ← hn]
            · rw [if_neg e]
              by_cases e2 : i < q
              · rw [if_pos e2, if_pos (by omega)]
              · rw [if_neg e2, if_neg (by omega)])
          clear hu hru hcl ha hn
          go_upto_region 9 with fail
          have S0 : Hid (But b wo wy.drew ∧ wy.drew.rowIs b 2 c (fun i => .int .i64 (if i < q then addMod p f (Z i) (vs.getD i 0) else Z i))) := Lib.hid ⟨HBO.out.drew, HRW.out.drew⟩
          refine wp_region_last (fun W => Hid (But b wo W ∧ W.rowIs b 2 c (fun i => .int .i64 (if i < q then addMod p f (Z i) (vs.getD i 0) else Z i)))) 14 (by kernel_rfl) rfl (by kernel_rfl) ?_
          refine held_take (i := 0) (v := .slice (some ⟨b, 0, none⟩) c c) (some 31) rfl rfl (by kernel_rfl) (by kernel_rfl) (by kernel_rfl) (fun _ _ _ h => h) (yieldsIf_move (by kernel_rfl) rfl (by kernel_rfl)) S0 ?_
          refine held_take (i := 1) (v := .int .i64 (q : Int)) (some 32) rfl rfl (by kernel_rfl) (by kernel_rfl) (by kernel_rfl) (fun _ _ _ h => h) (yieldsIf_move (by kernel_rfl) rfl (by kernel_rfl)) S0 ?_
          refine held_take (i := 2) (v := .slice (some ⟨b, 0, none⟩) c c) (some 33) rfl rfl (by kernel_rfl) (by kernel_rfl) (by kernel_rfl) (fun _ _ _ h => h) (yieldsIf_move (by kernel_rfl) rfl (by kernel_rfl)) S0 ?_
          refine held_take (i := 3) (v := .int .i64 (q : Int)) (some 34) rfl rfl (by kernel_rfl) (by kernel_rfl) (by kernel_rfl) (fun _ _ _ h => h) (yieldsIf_move (by kernel_rfl) rfl (by kernel_rfl)) S0 ?_
          refine held_take (i := 4) (v := .pointer (some ⟨b, 0 + q, none⟩)) (some 35) rfl rfl (by kernel_rfl) (by kernel_rfl) (by kernel_rfl) (fun _ _ _ h => h) (yieldsIf_index (by kernel_rfl) rfl (by kernel_rfl) (by kernel_rfl) (hidxI b 0 c hlt)) S0 ?_
          refine held_take (i := 5) (v := .int .i64 a) (some 36) rfl rfl (by kernel_rfl) (by kernel_rfl) (by kernel_rfl) (fun _ _ _ h => h) (yieldsIf_cell (by kernel_rfl) rfl (by kernel_rfl) (fun W h => hload W (HACC.out W h.out.2))) S0 ?_
          refine held_take (i := 6) (v := .pointer (some ⟨S, 0, none⟩)) (some 37) rfl rfl (by kernel_rfl) (by kernel_rfl) (by kernel_rfl) (fun _ _ _ h => h) (yieldsIf_run (by kernel_rfl) (fun W _ => by kernel_rfl)) S0 ?_
          refine held_take (i := 7) (v := .int .i64 f) (some 38) rfl rfl (by kernel_rfl) (by kernel_rfl) (by kernel_rfl) (fun _ _ _ h => h) (yieldsIf_cell (by kernel_rfl) rfl (by kernel_rfl) (fun W h => hload W (A0.out _ h.out.1))) S0 ?_
          refine held_take (i := 8) (v := .int .i64 n) (some 39) rfl rfl (by kernel_rfl) (by kernel_rfl) (by kernel_rfl) (fun _ _ _ h => h) (yieldsIf_move (by kernel_rfl) rfl (by kernel_rfl)) S0 ?_
          refine held_take (i := 9) (v := .int .i64 (f * n)) (some 40) rfl rfl (by kernel_rfl) (by kernel_rfl) (by kernel_rfl) (fun _ _ _ h => h) (yieldsIf_bin (by kernel_rfl) rfl (by kernel_rfl) (by kernel_rfl) (fun _ => rfl) (hmulA (IntWalk.i64_in _ (by omega)))) S0 ?_
          refine held_take (i := 10) (v := .int .i64 (a + f * n)) (some 41) rfl rfl (by kernel_rfl) (by kernel_rfl) (by kernel_rfl) (fun _ _ _ h => h) (yieldsIf_bin (by kernel_rfl) rfl (by kernel_rfl) (by kernel_rfl) (fun _ => rfl) (haddA (IntWalk.i64_in _ (by omega)))) S0 ?_
          refine held_take (i := 11) (v := .int .i64 p) (some 42) rfl rfl (by kernel_rfl) (by kernel_rfl) (by kernel_rfl) (fun _ _ _ h => h) (yieldsIf_move (by kernel_rfl) rfl (by kernel_rfl)) S0 ?_
          refine held_take (i := 12) (v := .int .i64 ((a + f * n) % p)) (some 43) rfl rfl (by kernel_rfl) (by kernel_rfl) (by kernel_rfl) (fun _ _ _ h => h) (yieldsIf_bin (by kernel_rfl) rfl (by kernel_rfl) (by kernel_rfl) (fun _ => rfl) (hremI (by omega) (by omega) (by omega))) S0 ?_
          refine held_take (i := 13) (v := .pointer (some ⟨b, 0 + q, none⟩)) (some 44) rfl rfl (by kernel_rfl) (by kernel_rfl) (by kernel_rfl) (fun _ _ _ h => h) (yieldsIf_index (by kernel_rfl) rfl (by kernel_rfl) (by kernel_rfl) (hidxI b 0 c hlt)) S0 ?_
          refine held_none (i := 14) (v := .bool false) rfl rfl (by kernel_rfl) (by kernel_rfl) (by kernel_rfl) (fun _ _ _ h => h) (yieldsIf_move (by kernel_rfl) rfl (by kernel_rfl)) S0 ?_
          have hac2 : wy.drew.cell? ⟨b, 0 + q, none⟩ = some (.int .i64 a) := HACC.out _ S0.out.2
          have hfz2 : wy.drew.frozen? ⟨b, 0 + q, none⟩ = false := S0.out.2.frozen _
          have hBN := S0.out.1.trans (But.set wy.drew (0 + q) (.int .i64 ((a + f * n) % p)) (b := b))
          have HRN := Lib.hid (HST2.out _ S0.out.2)
          refine wpAnyH_done (by kernel_rfl) (lastQ_storeI rfl (by kernel_rfl) (by kernel_rfl) (.tmp 44) (.tmp 43) (by kernel_rfl) b (0 + q) ((a + f * n) % p) _ (by kernel_rfl) (by kernel_rfl) hac2 hfz2 ?_) _
          simp only [Act.put, List.setIfInBounds_toArray, List.set_cons_zero, List.set_cons_succ]
          obtain ⟨WN, hWN⟩ : ∃ WN, WN = wy.drew.setCell ⟨b, 0 + q, none⟩ (.int .i64 ((a + f * n) % p)) := ⟨_, rfl⟩
          rw [← hWN] at hBN HRN ⊢
          have HBN := Lib.hid hBN
          clear hBN S0 hWN hac2 hfz2
          go_wp2
          go_roundw
          case rel => exact ⟨q + 1, by omega, by go_num, HBN, HRN⟩
          case measure => simp [intOf]; omega
        · have hqc : q = c := by omega
          have HBF : Hid (But b w wy) := Lib.hid ((But.of_below (HB.out.mono (Nat.le_of_eq HSE.out.symm))).trans HBO.out)
          have HRF : Hid (wy.rowIs b 2 c (fun i => .int .i64 (addMod p f (Z i) (vs.getD i 0)))) := Lib.hid (HRW.out.congr (fun i hi => by rw [hqc, if_pos hi]))
          clear hqc
          go_wp2
          refine bodyPost_ret (v := .tuple #[]) ?_ rfl ⟨rfl, HBF.out, HRF.out⟩
          simp only [results, HRES.out]
          go_simp
end Go.Proofs.YtpdkfidmmjlmnabDoor


namespace Go.Proofs.YtpdkfidmmjlmnabDoor
open Go.RowKit

section
variable {ops : Array Oper} {Q : Exit → Act → World → Prop}
end
theorem Rz.grown {W W' : World} {g : Nat} {t : TypeId} {cs : Array Value} {row : Option Nat} (h : Rz W g t cs) (hg : W.grownBy W' row) (hne : some g ≠ row) : Rz W' g t cs := (hg.block g h.lt hne).trans h
theorem rz_frozen {w : World} {g : Nat} {t : TypeId} {cs : Array Value} (h : Rz w g t cs) (k : Nat) : w.frozen? ⟨g, k, none⟩ = false := by
  have h' : w.heap[g]? = some (.cells cs t (0, 0)) := h
  simp [World.frozen?, h']
end Go.Proofs.YtpdkfidmmjlmnabDoor


namespace Go.Proofs.YtpdkfidmmjlmnabDoor
open Go.RowKit

/-- Nothing has changed below a and from b on, of what was there. -/
structure Kp (a b : Nat) (w w' : World) : Prop where
  os : w'.os = w.os
  tape : w'.tape = w.tape
  output : w'.output = w.output
  size : w.heap.size ≤ w'.heap.size
  block : ∀ k, k < w.heap.size → k < a ∨ b ≤ k → w'.heap[k]? = w.heap[k]?
theorem Kp.refl (a b : Nat) (w : World) : Kp a b w w := ⟨rfl, rfl, rfl, Nat.le_refl _, fun _ _ _ => rfl⟩
theorem Kp.trans {a b : Nat} {x y z : World} (h : Kp a b x y) (k : Kp a b y z) : Kp a b x z :=
  ⟨k.os.trans h.os, k.tape.trans h.tape, k.output.trans h.output, Nat.le_trans h.size k.size, fun i hi hb => (k.block i (Nat.lt_of_lt_of_le hi h.size) hb).trans (h.block i hi hb)⟩
theorem Kp.of_below {a b : Nat} {w w' : World} (h : Below w.heap.size w w') : Kp a b w w' := ⟨h.os, h.tape, h.output, h.size, fun k hk _ => h.block k hk⟩
theorem Kp.of_but {a b g : Nat} {w w' : World} (h : But g w w') (h1 : a ≤ g) (h2 : g < b) : Kp a b w w' := ⟨h.os, h.tape, h.output, h.size, fun k hk hb => h.block k hk (by omega)⟩
theorem Kp.mono {a b b' : Nat} {w w' : World} (h : Kp a b w w') (hb : b ≤ b') : Kp a b' w w' := ⟨h.os, h.tape, h.output, h.size, fun k hk hh => h.block k hk (by omega)⟩
theorem Kp.below {a b : Nat} {w w' : World} (h : Kp a b w w') (ha : a ≤ w.heap.size) : Below a w w' := ⟨h.os, h.tape, h.output, h.size, fun k hk => h.block k (by omega) (Or.inl hk)⟩
/-- As differentialTable_any; the table is read in all worlds that hold what stood ahead of a base and behind the call's start. -/
def DtB (b0 : Nat) (t : List (List Int)) (w : World) (e : Ending) (w' : World) : Prop := ∃ v, e = .returned v ∧ Below w.heap.size w w' ∧ ∀ (b : Nat) (W : World), b ≤ w.heap.size → Kp b0 b w' W → L2 0 W v t

set_option maxHeartbeats 3200000 in
set_option maxRecDepth 100000 in
theorem differentialTableB_any (p : Int) (q : Nat) (dv mv : Value) (ds : List Int) (ms : List (List (List Int))) (w0 w : World) (h0 : Cx 0 w0 dv mv ds ms) (hb0 : Below w0.heap.size w0 w) (hcx : IsCx p ds ms) (hq : q < ds.length) :
    Calls Tryd.prog 58 #[.agg #[.int .i64 p, dv, mv], .int .i64 q] w (DtB w0.heap.size (cycT ds ms q) w) := by
  have h := h0.below hb0
  have HB0 := Lib.hid hb0
  have HX0 := Lib.hid (Bx.start (p := p) 28 h)
  have hml := hcx.1.mlen
  have hl6 := hcx.1.len1
  refine Sl.cases HX0.out.cx.dims (fun _ _ hx _ => absurd hq (by simp [hx])) (fun bd od capd hvd _ _ hcld => ?_)
  subst hvd
  have c0 := HX0.out.c0
  have c1 := HX0.out.c1
  have c2 := HX0.out.c2
  by_cases hq0 : q = 0
  · subst hq0
    obtain ⟨ud, hud, hrd⟩ := hcld 0 hq
    obtain ⟨d, hd⟩ : ∃ d, d = dimN ds ((0 : Nat) : Int) := ⟨_, rfl⟩
    have hd8 : d ≤ 8 := by rw [hd]; exact (dimN_le8 hcx 0).1
    have hcel : (w.alloc (.cells #[.int .i64 p, .slice (some ⟨bd, od, none⟩) ds.length capd, mv] 28)).cell? ⟨bd, od, none⟩ = some (.int .i64 (d : Int)) := by
      rw [Nat.add_zero] at hud
      rw [hud, hrd, ← getD_of_lt 0 hq, (dimN_le8 hcx 0).2, hd]
    have HDT : Hid (tableOf d 0 (fun _ _ => 0) = cycT ds ms 0) := Lib.hid (by rw [cycT_zero ds ms hq, tableOf_none, hd])
    have hlen : (0 : Int) < (ds.length : Int) := by omega
    clear h h0 hb0 hcx hcld hud hrd hd
    go_enter Tryd.func58, Tryd.ntmps58
    go_wp2_with fail
    refine (zeroTable_any d 0 _ (by omega) (by omega)).mono ?_
    rintro e w1 ⟨rfl, hm1⟩
    have HM1 := Lib.hid hm1
    clear hm1 hcel c0 c1 c2
    go_wp2
    go_ret
    have htb := HM1.out.tb
    have hz : (w.alloc (.cells #[.int .i64 p, .slice (some ⟨bd, od, none⟩) ds.length capd, mv] 28)).heap.size = w.heap.size + 1 := by simp
    rw [hz] at htb
    refine ⟨.slice (some ⟨w.heap.size + 1, 0, none⟩) d d, rfl, HX0.out.below.trans (HM1.out.below.mono HX0.out.below.size), fun b W hG2 hbut => ?_⟩
    have htW : Tb W (w.heap.size + 1) d 0 (fun _ _ => 0) := ⟨htb.top.of_block (hbut.block _ htb.top.lt (Or.inr (by omega))), fun j hj => (htb.rows j hj).of_block (hbut.block _ (htb.rows j hj).lt (Or.inr (by omega))), Nat.le_trans htb.lt hbut.size⟩
    have hh := (htW.tw (lo := 0) (Nat.zero_le _) (by omega) (by omega)).l2
    rw [HDT.out] at hh
    exact hh
  · obtain ⟨k, rfl⟩ : ∃ k, q = k + 1 := ⟨q - 1, by omega⟩
    have hkm : k < ms.length := by omega
    refine Sl.cases h0.maps (fun _ _ hx _ => absurd hkm (by simp [hx])) (fun bm om capm hvm _ _ hclm => ?_)
    subst hvm
    obtain ⟨um, hum, hrm⟩ := hclm k hkm
    have HTE : Hid (cycT ds ms (k + 1) = tabN ms k) := Lib.hid (cycT_succ hcx hq)
    have HRM : Hid (L2 0 w0 um (tabN ms k)) := Lib.hid (by unfold tabN; rw [getD_of_lt _ hkm]; exact hrm)
    have hum1 : (w.alloc (.cells #[.int .i64 p, .slice (some ⟨bd, od, none⟩) ds.length capd, .slice (some ⟨bm, om, none⟩) ms.length capm] 28)).cell? ⟨bm, om + k, none⟩ = some um := later (hb0.trans (HX0.out.below.mono hb0.size)) (Nat.le_refl _) hum
    have hne : (((k + 1 : Nat) : Int) == 0) = false := by
      have : ¬ ((k + 1 : Nat) : Int) = 0 := by omega
      simpa using this
    have hne2 : ¬ ((k : Int) + 1 = 0) := by omega
    have hwr : IntKind.i64.wrap (((k + 1 : Nat) : Int) - 1) = (k : Int) := by rw [show ((k + 1 : Nat) : Int) - 1 = (k : Int) by omega]; exact IntWalk.i64_in _ (by omega)
    have hsub : ((k : Int) + 1) - 1 = (k : Int) := by omega
    have hlt : (k : Int) < (ms.length : Int) := by omega
    clear h h0 hb0 hcx hclm hcld hrm hq0 hum
    go_enter Tryd.func58, Tryd.ntmps58
    go_wp2
    go_ret
    refine ⟨_, rfl, HX0.out.below, fun b W _ hbut => ?_⟩
    rw [HTE.out]
    refine HRM.out.below ((HB0.out.trans (HX0.out.below.mono HB0.out.size)).trans (hbut.below ?_))
    exact Nat.le_trans HB0.out.size HX0.out.below.size

/-- The tables of the differential, degree by degree. -/
def dfL (ds : List Int) (ms : List (List (List Int))) : List (List (List Int)) := (List.range ds.length).map fun (n : Nat) => cycT ds ms n
def DmR (p : Int) (dv mv : Value) (ds : List Int) (ms : List (List (List Int))) (w : World) (e : Ending) (w' : World) : Prop := ∃ u, e = .returned (.agg #[.int .i64 p, dv, mv, .int .i64 (-1), u]) ∧ L3 0 w' u (dfL ds ms) ∧ Below w.heap.size w w'
/-- .. and where they are read from then on. -/
def DmB (p : Int) (dv mv : Value) (ds : List Int) (ms : List (List (List Int))) (a : Nat) (w : World) (e : Ending) (w' : World) : Prop := ∃ u, e = .returned (.agg #[.int .i64 p, dv, mv, .int .i64 (-1), u]) ∧ Below w.heap.size w w' ∧ ∀ (b : Nat) (W : World), b ≤ w.heap.size → Kp a b w' W → L3 0 W u (dfL ds ms)
/-- A row of tables, k of which are there. -/
structure DmT (W : World) (a G N k : Nat) (f : Nat → Value) (ds : List Int) (ms : List (List (List Int))) : Prop where
  row : W.rowIs G 39 N f
  tab : ∀ n, n < k → ∀ W', Kp a (G + 1) W W' → L2 0 W' (f n) (cycT ds ms n)
theorem DmT.below {W W' : World} {a G N k : Nat} {f : Nat → Value} {ds : List Int} {ms : List (List (List Int))} (h : DmT W a G N k f ds ms) (hb : Below W.heap.size W W') : DmT W' a G N k f ds ms := ⟨h.row.of_block (hb.block _ h.row.lt), fun n hn W2 h2 => h.tab n hn W2 ((Kp.of_below hb).trans h2)⟩

theorem dm_l3 {W : World} {G : Nat} {f : Nat → Value} {ds : List Int} {ms : List (List (List Int))} (h : W.rowIs G 39 ds.length f) (ht : ∀ n, n < ds.length → L2 0 W (f n) (cycT ds ms n)) (h0 : 1 ≤ ds.length) : L3 0 W (.slice (some ⟨G, 0, none⟩) ds.length ds.length) (dfL ds ms) := by
  have hl : (dfL ds ms).length = ds.length := by simp [dfL]
  refine Or.inr ⟨G, 0, ds.length, by rw [hl], Nat.zero_le _, by rw [hl]; omega, fun n hn => ?_⟩
  have hn' : n < ds.length := by rw [hl] at hn; exact hn
  refine ⟨f n, by rw [Nat.zero_add]; exact h.cell hn', ?_⟩
  simp only [dfL, List.getElem_map, List.getElem_range]
  exact ht n hn'

set_option maxHeartbeats 3200000 in
set_option maxRecDepth 100000 in
theorem differentialMapB_any (p : Int) (dv mv : Value) (ds : List Int) (ms : List (List (List Int))) (w0 w : World) (h0 : Cx 0 w0 dv mv ds ms) (hb0 : Below w0.heap.size w0 w) (hcx : IsCx p ds ms) :
    Calls Tryd.prog 65 #[.agg #[.int .i64 p, dv, mv]] w (DmB p dv mv ds ms w0.heap.size w) := by
  have h := h0.below hb0
  have HB0 := Lib.hid hb0
  have hs0 := hb0.size
  obtain ⟨ad, cap, rfl⟩ := Sl.shape h.dims
  obtain ⟨am, capm, rfl⟩ := Sl.shape h.maps
  have hres : Tryd.f65.results = #[.cell 2 74] := by kernel_rfl
  have HRES := Lib.hid hres
  have hl6 := hcx.1.len1
  obtain ⟨w1, hw1⟩ : ∃ w1, w1 = (w.alloc (.cells #[.int .i64 p, .slice ad ds.length cap, .slice am ms.length capm] 28)).alloc (.cells #[.int .i64 0, .slice none 0 0, .slice none 0 0, .int .i64 0, .slice none 0 0] 74) := ⟨_, rfl⟩
  have HX1 : Hid (Bx w w1 w.heap.size p (.slice ad ds.length cap) (.slice am ms.length capm) ds ms) := Lib.hid (by rw [hw1]; exact (Bx.start 28 h).next (below_alloc1 _ _))
  have HS1 : Hid (w1.heap.size = w.heap.size + 2) := Lib.hid (by rw [hw1]; simp)
  have HZ1 : Hid (Rz w1 (w.heap.size + 1) 74 #[.int .i64 0, .slice none 0 0, .slice none 0 0, .int .i64 0, .slice none 0 0]) := Lib.hid (by rw [hw1]; have := Rz.new (w.alloc (.cells #[.int .i64 p, .slice ad ds.length cap, .slice am ms.length capm] 28)) 74 #[.int .i64 0, .slice none 0 0, .slice none 0 0, .int .i64 0, .slice none 0 0]; simpa using this)
  have HX0 := Lib.hid h0
  have HCX := Lib.hid hcx
  have c0 := HX1.out.c0
  have c1 := HX1.out.c1
  have c2 := HX1.out.c2
  have hmk := run_make_row' (P := Tryd.prog) 23 39 (.slice none 0 0) 24 Tryd.underlying23 Tryd.infoSS rfl .i64 .i64 ds.length (by omega) (by omega)
  clear h h0 hb0 hcx hres
  go_enter Tryd.func65, Tryd.ntmps65
  go_upto_region 1 with fail
  rw [← hw1]
  clear hw1
  go_wp2
  clear hmk c0 c1 c2
  go_loopw [4, 11] (fun _ i wr => ∃ (k : Nat) (f : Nat → Value), k ≤ ds.length ∧ i = .int .i64 (k : Int) ∧ Hid (Below w1.heap.size w1 wr) ∧ Hid (DmT wr w0.heap.size w1.heap.size ds.length k f ds ms)) (fun _ i _ => ds.length - (intOf i).toNat)
  case atStart => exact ⟨0, _, Nat.zero_le _, rfl, Lib.hid (below_alloc1 _ _), Lib.hid ⟨World.rowIs_made w1 _ _ _, fun n hn => absurd hn (Nat.not_lt_zero _)⟩⟩
  case round =>
    obtain ⟨k, f, hk, rfl, HB, HF⟩ := hrel
    obtain ⟨wx, hwx⟩ : ∃ wx : World, wx = wr := ⟨_, rfl⟩
    subst hwx
    have HX := Lib.hid (HX1.out.next HB.out)
    have c0 := HX.out.c0
    have c1 := HX.out.c1
    have c2 := HX.out.c2
    by_cases hlt : k < ds.length
    · have hki : (k : Int) < (ds.length : Int) := by omega
      go_wp2_with fail
      refine (differentialTableB_any p k _ _ ds ms w0 wx HX0.out (HB0.out.trans (HX.out.below.mono hs0)) HCX.out hlt).mono ?_
      rintro ee w2 ⟨v, rfl, hb2, hvr⟩
      have hGx : w1.heap.size < wx.heap.size := HF.out.row.lt
      have hG0 : w0.heap.size ≤ w1.heap.size := by have := HS1.out; omega
      have hv := hvr (w1.heap.size + 1) w2 (by omega) (Kp.refl _ _ _)
      have HVR := Lib.hid (hvr (w1.heap.size + 1))
      obtain ⟨av, cv, rfl⟩ := Sl.shape hv
      have HF2 := Lib.hid (HF.out.below hb2)
      have hrow := HF2.out.row.cell hlt
      have hfro := HF2.out.row.frozen k
      have HV := Lib.hid hv
      have HB2 := Lib.hid (HB.out.trans (hb2.mono HB.out.size))
      have HB3 : Hid (Below w1.heap.size w1 (w2.setCell ⟨w1.heap.size, k, none⟩ (.slice av (cycT ds ms k).length cv))) := Lib.hid (HB2.out.setCell (Nat.le_refl _) _)
      have HF3 : Hid (DmT (w2.setCell ⟨w1.heap.size, k, none⟩ (.slice av (cycT ds ms k).length cv)) w0.heap.size w1.heap.size ds.length (k + 1) (fun j => if j = k then .slice av (cycT ds ms k).length cv else f j) ds ms) := Lib.hid ⟨HF2.out.row.set k _, fun n hn W2 h2 => by
        have h3 : Kp w0.heap.size (w1.heap.size + 1) w2 W2 := (Kp.of_but (But.set w2 k _) hG0 (by omega)).trans h2
        by_cases e : n = k
        · subst e
          simp only [if_true]
          exact HVR.out W2 (by omega) h3
        · simp only [if_neg e]
          exact HF2.out.tab n (by omega) W2 h3⟩
      clear hb2 hv hvr c0 c1 c2
      go_wp2
      go_roundw
      case rel => exact ⟨k + 1, _, by omega, by go_num, HB3, HF3⟩
      case measure => simp [intOf]; omega
    · have hki : ¬ (k : Int) < (ds.length : Int) := by omega
      have HKE : Hid (k = ds.length) := Lib.hid (by omega)
      have hz := HZ1.out.next HB.out
      have q0 := hz.cell (i := 0) rfl
      have q1 := hz.cell (i := 1) rfl
      have q2 := hz.cell (i := 2) rfl
      have q3 := hz.cell (i := 3) rfl
      have q4 := hz.cell (i := 4) rfl
      have f0 := rz_frozen hz 0
      have f1 := rz_frozen hz 1
      have f2 := rz_frozen hz 2
      have f3 := rz_frozen hz 3
      have f4 := rz_frozen hz 4
      clear hz
      go_wp2
      obtain ⟨W6, h6⟩ : ∃ W6, W6 = ((((wx.setCell ⟨w.heap.size + 1, 0, none⟩ (.int .i64 p)).setCell ⟨w.heap.size + 1, 1, none⟩ (.slice ad ds.length cap)).setCell ⟨w.heap.size + 1, 2, none⟩ (.slice am ms.length capm)).setCell ⟨w.heap.size + 1, 3, none⟩ (.int .i64 (-1))).setCell ⟨w.heap.size + 1, 4, none⟩ (.slice (some ⟨w1.heap.size, 0, none⟩) ds.length ds.length) := ⟨_, rfl⟩
      have e0 : W6.cell? ⟨w.heap.size + 1, 0, none⟩ = some (.int .i64 p) := by
        rw [h6]
        rw [World.cell?_setCell_other _ _ _ _ (by simp)]
        rw [World.cell?_setCell_other _ _ _ _ (by simp)]
        rw [World.cell?_setCell_other _ _ _ _ (by simp)]
        rw [World.cell?_setCell_other _ _ _ _ (by simp)]
        refine World.cell?_setCell_same _ _ _ (u := .int .i64 0) ?_
        exact q0
      have e1 : W6.cell? ⟨w.heap.size + 1, 1, none⟩ = some (.slice ad ds.length cap) := by
        rw [h6]
        rw [World.cell?_setCell_other _ _ _ _ (by simp)]
        rw [World.cell?_setCell_other _ _ _ _ (by simp)]
        rw [World.cell?_setCell_other _ _ _ _ (by simp)]
        refine World.cell?_setCell_same _ _ _ (u := .slice none 0 0) ?_
        rw [World.cell?_setCell_other _ _ _ _ (by simp)]
        exact q1
      have e2 : W6.cell? ⟨w.heap.size + 1, 2, none⟩ = some (.slice am ms.length capm) := by
        rw [h6]
        rw [World.cell?_setCell_other _ _ _ _ (by simp)]
        rw [World.cell?_setCell_other _ _ _ _ (by simp)]
        refine World.cell?_setCell_same _ _ _ (u := .slice none 0 0) ?_
        rw [World.cell?_setCell_other _ _ _ _ (by simp)]
        rw [World.cell?_setCell_other _ _ _ _ (by simp)]
        exact q2
      have e3 : W6.cell? ⟨w.heap.size + 1, 3, none⟩ = some (.int .i64 (-1)) := by
        rw [h6]
        rw [World.cell?_setCell_other _ _ _ _ (by simp)]
        refine World.cell?_setCell_same _ _ _ (u := .int .i64 0) ?_
        rw [World.cell?_setCell_other _ _ _ _ (by simp)]
        rw [World.cell?_setCell_other _ _ _ _ (by simp)]
        rw [World.cell?_setCell_other _ _ _ _ (by simp)]
        exact q3
      have e4 : W6.cell? ⟨w.heap.size + 1, 4, none⟩ = some (.slice (some ⟨w1.heap.size, 0, none⟩) ds.length ds.length) := by
        rw [h6]
        refine World.cell?_setCell_same _ _ _ (u := .slice none 0 0) ?_
        rw [World.cell?_setCell_other _ _ _ _ (by simp)]
        rw [World.cell?_setCell_other _ _ _ _ (by simp)]
        rw [World.cell?_setCell_other _ _ _ _ (by simp)]
        rw [World.cell?_setCell_other _ _ _ _ (by simp)]
        exact q4
      have hbut : But (w.heap.size + 1) wx W6 := by
        rw [h6]
        exact (((((But.set wx 0 (.int .i64 p)).trans (But.set (wx.setCell ⟨w.heap.size + 1, 0, none⟩ (.int .i64 p)) 1 (.slice ad ds.length cap))).trans (But.set ((wx.setCell ⟨w.heap.size + 1, 0, none⟩ (.int .i64 p)).setCell ⟨w.heap.size + 1, 1, none⟩ (.slice ad ds.length cap)) 2 (.slice am ms.length capm))).trans (But.set (((wx.setCell ⟨w.heap.size + 1, 0, none⟩ (.int .i64 p)).setCell ⟨w.heap.size + 1, 1, none⟩ (.slice ad ds.length cap)).setCell ⟨w.heap.size + 1, 2, none⟩ (.slice am ms.length capm)) 3 (.int .i64 (-1)))).trans (But.set ((((wx.setCell ⟨w.heap.size + 1, 0, none⟩ (.int .i64 p)).setCell ⟨w.heap.size + 1, 1, none⟩ (.slice ad ds.length cap)).setCell ⟨w.heap.size + 1, 2, none⟩ (.slice am ms.length capm)).setCell ⟨w.heap.size + 1, 3, none⟩ (.int .i64 (-1))) 4 (.slice (some ⟨w1.heap.size, 0, none⟩) ds.length ds.length)))
      have hs1 := HS1.out
      have hB6 : Below w.heap.size w W6 := HX.out.below.trans (hbut.below HX.out.below.size (by omega))
      have hF := HF.out
      rw [HKE.out] at hF
      have hrow6 := hF.row.of_block (hbut.block _ hF.row.lt (by omega))
      have hg6 := hrow6.lt
      have HL3 : Hid (∀ (b : Nat) (W : World), b ≤ w.heap.size → Kp w0.heap.size b W6 W → L3 0 W (.slice (some ⟨w1.heap.size, 0, none⟩) ds.length ds.length) (dfL ds ms)) := Lib.hid (fun b W hb hK => dm_l3 (hrow6.of_block (hK.block _ hg6 (Or.inr (by omega)))) (fun n hn => hF.tab n hn W ((Kp.of_but hbut (by omega) (by omega)).trans (hK.mono (by omega)))) HCX.out.1.len0)
      have HB6 := Lib.hid hB6
      rw [← h6]
      clear h6 hbut hB6 hF hrow6 hs1 hg6 q0 f0 q1 f1 q2 f2 q3 f3 q4 f4
      refine bodyPost_ret (v := .agg #[.int .i64 p, .slice ad ds.length cap, .slice am ms.length capm, .int .i64 (-1), .slice (some ⟨w1.heap.size, 0, none⟩) ds.length ds.length]) ?_ rfl ⟨_, rfl, HB6.out, HL3.out⟩
      simp only [results, HRES.out]
      go_simp
theorem differentialMap_any (p : Int) (dv mv : Value) (ds : List Int) (ms : List (List (List Int))) (w : World) (h : Cx 0 w dv mv ds ms) (hcx : IsCx p ds ms) :
    Calls Tryd.prog 65 #[.agg #[.int .i64 p, dv, mv]] w (DmR p dv mv ds ms w) :=
  (differentialMapB_any p dv mv ds ms w w h (Below.refl _ _) hcx).mono fun _ _ ⟨u, he, hb, hl⟩ => ⟨u, he, hl _ _ (Nat.le_refl _) (Kp.refl _ _ _), hb⟩
end Go.Proofs.YtpdkfidmmjlmnabDoor


namespace Go.Proofs.YtpdkfidmmjlmnabDoor
open Go.RowKit

theorem cycT_succP {p : Int} {ds : List Int} {ms : List (List (List Int))} (h : PreOk p ds ms) {k : Nat} (hq : k + 1 < ds.length) : cycT ds ms (k + 1) = tabN ms k := by
  have hml := h.mlen
  unfold cycT mapZ tabN
  rw [if_pos (by omega), show (((k + 1 : Nat) : Int)).toNat - 1 = k by omega]

end Go.Proofs.YtpdkfidmmjlmnabDoor


namespace Go.Proofs.YtpdkfidmmjlmnabDoor
open Go.RowKit

theorem dimZ_8 {p : Int} {ds : List Int} {ms : List (List (List Int))} (h : IsCx p ds ms) (n : Int) : 0 ≤ dimZ ds n ∧ dimZ ds n ≤ 8 := by
  unfold dimZ
  by_cases hr : 0 ≤ n ∧ n ≤ (ds.length : Int) - 1
  · rw [if_pos hr]
    exact h.1.dim _
  · rw [if_neg hr]
    omega
def Fam3R (out : List (List (List Int))) (w : World) (e : Ending) (w' : World) : Prop := ∃ u, e = .returned u ∧ Rw3 w.heap.size w'.heap.size w' u out ∧ Below w.heap.size w w'
def Fam3D (n : Nat) (out : List (List (List Int))) (w : World) (e : Ending) (w' : World) : Prop := ∃ g, e = .returned (.slice (some ⟨g, 0, none⟩) n n) ∧ w.heap.size ≤ g ∧ Rw3 w.heap.size w'.heap.size w' (.slice (some ⟨g, 0, none⟩) n n) out ∧ Below w.heap.size w w'
theorem Fam3D.r {n : Nat} {out : List (List (List Int))} {w : World} {e : Ending} {w' : World} (h : Fam3D n out w e w') : Fam3R out w e w' := by
  obtain ⟨g, he, _, hr, hb⟩ := h
  exact ⟨_, he, hr, hb⟩
/-- Dimensions of at most six degrees, each at most 8. -/
structure DsOk (ds : List Int) : Prop where
  len1 : ds.length ≤ 6
  dims : ∀ d ∈ ds, 0 ≤ d ∧ d ≤ 8
theorem DsOk.dim {ds : List Int} (h : DsOk ds) (k : Nat) : 0 ≤ ds.getD k 0 ∧ ds.getD k 0 ≤ 8 := by
  by_cases e : k < ds.length
  · rw [getD_of_lt _ e]
    exact h.dims _ (List.getElem_mem e)
  · rw [List.getD_eq_getElem?_getD, List.getElem?_eq_none (by omega)]
    simp
theorem DsOk.dimZ {ds : List Int} (h : DsOk ds) (n : Int) : 0 ≤ dimZ ds n ∧ dimZ ds n ≤ 8 := by
  unfold Go.Proofs.YtpdkfidmmjlmnabDoor.dimZ
  by_cases hr : 0 ≤ n ∧ n ≤ (ds.length : Int) - 1
  · rw [if_pos hr]
    exact h.dim _
  · rw [if_neg hr]
    omega
theorem IsCx.dsOk {p : Int} {ds : List Int} {ms : List (List (List Int))} (h : IsCx p ds ms) : DsOk ds := ⟨h.1.len1, h.1.dims⟩

end Go.Proofs.YtpdkfidmmjlmnabDoor


namespace Go.Proofs.YtpdkfidmmjlmnabDoor
open Go.RowKit

set_option maxHeartbeats 3200000 in
set_option maxRecDepth 100000 in
theorem leadD_any (p2 s : Int) (n c2 : Nat) (dv2 mv2 fv vv : Value) (ds2 : List Int) (ms2 fs : List (List (List Int))) (vs : List Int) (w : World) (h2 : Cx 0 w dv2 mv2 ds2 ms2) (hf : L3 0 w fv fs) (hv : L1 0 w vv vs) (hcy : DsOk ds2) (hn : n < fs.length) (hnb : n ≤ 100) (hs : -1 ≤ s ∧ s ≤ 1) (hc2 : dimZ ds2 ((n : Int) + s) = (c2 : Int)) (ok : ApOk p2 c2 vs (fs.getD n [])) (hmf : fs.length ≤ 1048576) (hmv : vs.length ≤ 1048576) :
    Calls Tryd.prog 66 #[.agg #[.int .i64 p2, dv2, mv2, .int .i64 s, fv], .agg #[.int .i64 (n : Int), vv]] w (LeadR ((n : Int) + s) (apT p2 c2 vs (fs.getD n [])) w) := by
  obtain ⟨ad2, cap2, rfl⟩ := Sl.shape h2.dims
  obtain ⟨am2, capm2, rfl⟩ := Sl.shape h2.maps
  obtain ⟨af, cf, rfl⟩ := Sl.shape hf
  obtain ⟨av, cv, rfl⟩ := Sl.shape hv
  obtain ⟨t, ht⟩ : ∃ t, t = fs.getD n [] := ⟨_, rfl⟩
  rw [← ht] at ok ⊢
  obtain ⟨tn, htn⟩ : ∃ tn, tn = t.length := ⟨_, rfl⟩
  obtain ⟨wa, hwa⟩ : ∃ wa, wa = w.alloc (.cells #[.int .i64 p2, .slice ad2 ds2.length cap2, .slice am2 ms2.length capm2, .int .i64 s, .slice af fs.length cf] 74) := ⟨_, rfl⟩
  have hba : Below w.heap.size w wa := by rw [hwa]; exact below_alloc1 _ _
  have hsa : wa.heap.size = w.heap.size + 1 := by rw [hwa]; simp
  have a0 : wa.cell? ⟨w.heap.size, 0, none⟩ = some (.int .i64 p2) := by rw [hwa]; simp
  have a1 : wa.cell? ⟨w.heap.size, 1, none⟩ = some (.slice ad2 ds2.length cap2) := by rw [hwa]; simp
  have a2 : wa.cell? ⟨w.heap.size, 2, none⟩ = some (.slice am2 ms2.length capm2) := by rw [hwa]; simp
  have a3 : wa.cell? ⟨w.heap.size, 3, none⟩ = some (.int .i64 s) := by rw [hwa]; simp
  have a4 : wa.cell? ⟨w.heap.size, 4, none⟩ = some (.slice af fs.length cf) := by rw [hwa]; simp
  obtain ⟨wb, hwb⟩ : ∃ wb, wb = wa.alloc (.cells #[.int .i64 (n : Int), .slice av vs.length cv] 92) := ⟨_, rfl⟩
  have hbb : Below wa.heap.size wa wb := by rw [hwb]; exact below_alloc1 _ _
  have hsb : wb.heap.size = w.heap.size + 2 := by rw [hwb]; simp [hsa]
  have b0 : wb.cell? ⟨wa.heap.size, 0, none⟩ = some (.int .i64 (n : Int)) := by rw [hwb]; simp
  have b1 : wb.cell? ⟨wa.heap.size, 1, none⟩ = some (.slice av vs.length cv) := by rw [hwb]; simp
  obtain ⟨w1, hw1a⟩ : ∃ w1, w1 = wb.alloc (.cells #[.int .i64 0, .slice none 0 0] 92) := ⟨_, rfl⟩
  have hbc : Below wb.heap.size wb w1 := by rw [hw1a]; exact below_alloc1 _ _
  have hsz : w.heap.size + 3 = w1.heap.size := by rw [hw1a]; simp [hsb]
  have ht1 : w1.there (w.heap.size + 2) 0 2 := by
    rw [← hsb, hw1a]
    exact there_new wb #[.int .i64 0, .slice none 0 0] 92 (n := 2) (by simp)
  have hw1 : w1 = (((w.alloc (.cells #[.int .i64 p2, .slice ad2 ds2.length cap2, .slice am2 ms2.length capm2, .int .i64 s, .slice af fs.length cf] 74)).alloc (.cells #[.int .i64 (n : Int), .slice av vs.length cv] 92)).alloc (.cells #[.int .i64 0, .slice none 0 0] 92)) := by rw [hw1a, hwb, hwa]
  have hb1 : Below w.heap.size w w1 := (hba.trans (hbb.mono (by omega))).trans (hbc.mono (by omega))
  have hab : Below wa.heap.size wa w1 := hbb.trans (hbc.mono (by omega))
  have g0 := later hab (Nat.le_refl _) a0
  have g1 := later hab (Nat.le_refl _) a1
  have g2 := later hab (Nat.le_refl _) a2
  have g3 := later hab (Nat.le_refl _) a3
  have g4 := later hab (Nat.le_refl _) a4
  have e0 := later hbc (Nat.le_refl _) b0
  have e1 := later hbc (Nat.le_refl _) b1
  rw [hsa] at e0 e1
  clear a0 a1 a2 a3 a4 b0 b1 hbb hbc hab hba hsa hsb hwa hwb hw1a
  have HB1 := Lib.hid hb1
  have HY1 := Lib.hid (h2.below hb1)
  have HF1 := Lib.hid (hf.below hb1)
  have HV1 := Lib.hid (hv.below hb1)
  have HOK := Lib.hid ok
  have HT1 := Lib.hid ht1
  have hl7 := hcy.len1
  have hc28 : c2 ≤ 8 := by have := hcy.dimZ ((n : Int) + s); omega
  obtain ⟨hs0, hs1⟩ := hs
  refine Sl.cases HF1.out (fun _ _ hx _ => absurd hn (by simp [hx])) (fun bf of cf2 hvf _ _ hcf => ?_)
  injection hvf with k1 k2 k3
  clear k2
  subst k1 k3
  obtain ⟨ut, hut, hrt⟩ := hcf n hn
  rw [← getD_of_lt [] hn, ← ht] at hrt
  obtain ⟨at', ct, hus⟩ := Sl.shape hrt
  rw [← htn] at hus
  subst hus
  have HRT := Lib.hid hrt
  have HDA : Hid (∀ W, Below w1.heap.size w1 W → Calls Tryd.prog 40 #[.agg #[.int .i64 p2, .slice ad2 ds2.length cap2, .slice am2 ms2.length capm2], .int .i64 ((n : Int) + s)] W (BR (.int .i64 (c2 : Int)) W)) := Lib.hid (fun W h => by
    have := dimAt_any p2 ((n : Int) + s) _ _ ds2 ms2 W (HY1.out.below h) (by omega)
    rwa [hc2] at this)
  have HAP : Hid (∀ W, Below w1.heap.size w1 W → Calls Tryd.prog 77 #[.int .i64 p2, .slice av vs.length cv, .slice at' tn ct, .int .i64 (c2 : Int)] W (ApW p2 c2 vs t W)) := Lib.hid (fun W h => applyTablew_any p2 c2 _ _ vs _ W HOK.out (HV1.out.below h) (HRT.out.below h) hmv (by omega))
  have HIN : Hid (∀ W, Calls Tryd.prog 55 #[.int .i64 (n : Int), .int .i64 0, .int .i64 ((fs.length : Int) - 1)] W (QW (.bool true) W)) := Lib.hid (fun W => in_yes (by omega) W)
  have hwk : IntKind.i64.wrap ((n : Int) + s) = (n : Int) + s := IntWalk.i64_in _ (by omega)
  have HRES : Hid (Tryd.f66.results = #[.cell 4 92]) := Lib.hid (by kernel_rfl)
  have HIE : Hid ((Tryd.prog.info? 92).map (·.size) = some 2) := Lib.hid (by kernel_rfl)
  clear h2 hf hv hcy hc2 ok hcf hrt hb1 ht1 ht htn
  go_enter Tryd.func66, Tryd.ntmps66
  go_upto_region 1 with fail
  rw [← hw1]
  clear hw1
  go_wp2_with fail
  refine (HIN.out _).mono ?_
  rintro e w' ⟨rfl, rfl⟩
  clear HIN
  go_upto_region 5 with fail
  have S0 : Hid (Below w1.heap.size w1 w1.drew) := Lib.hid (Below.refl _ _).drew
  refine wp_region_last (fun W => Hid (Below w1.heap.size w1 W)) 13 (by kernel_rfl) rfl (by kernel_rfl) ?_
  refine held_take (i := 0) (v := .int .i64 ((n : Int) + s)) (some 25) rfl rfl (by kernel_rfl) (by kernel_rfl) (by kernel_rfl) (fun _ _ _ h => h) (yieldsIf_move (by kernel_rfl) rfl (by kernel_rfl)) S0 ?_
  refine held_take (i := 1) (v := .pointer (some ⟨w.heap.size, 0, none⟩)) (some 26) rfl rfl (by kernel_rfl) (by kernel_rfl) (by kernel_rfl) (fun _ _ _ h => h) (yieldsIf_run (by kernel_rfl) (fun W _ => by kernel_rfl)) S0 ?_
  refine held_take (i := 2) (v := .pointer (some ⟨w.heap.size, 0, none⟩)) (some 27) rfl rfl (by kernel_rfl) (by kernel_rfl) (by kernel_rfl) (fun _ _ _ h => h) (yieldsIf_run (by kernel_rfl) (fun W _ => by kernel_rfl)) S0 ?_
  refine held_take (i := 3) (v := .int .i64 p2) (some 28) rfl rfl (by kernel_rfl) (by kernel_rfl) (by kernel_rfl) (fun _ _ _ h => h) (yieldsIf_cell (by kernel_rfl) rfl (by kernel_rfl) (fun W h => hload W (later h.out (Nat.le_refl _) g0))) S0 ?_
  refine held_take (i := 4) (v := .pointer (some ⟨w.heap.size + 1, 1, none⟩)) (some 29) rfl rfl (by kernel_rfl) (by kernel_rfl) (by kernel_rfl) (fun _ _ _ h => h) (yieldsIf_run (by kernel_rfl) (fun W _ => by kernel_rfl)) S0 ?_
  refine held_take (i := 5) (v := .slice av vs.length cv) (some 30) rfl rfl (by kernel_rfl) (by kernel_rfl) (by kernel_rfl) (fun _ _ _ h => h) (yieldsIf_cell (by kernel_rfl) rfl (by kernel_rfl) (fun W h => hloadS W (later h.out (Nat.le_refl _) e1))) S0 ?_
  refine held_take (i := 6) (v := .slice at' tn ct) (some 31) rfl rfl (by kernel_rfl) (by kernel_rfl) (by kernel_rfl) (fun _ _ _ h => h) (yieldsIf_move (by kernel_rfl) rfl (by kernel_rfl)) S0 ?_
  refine held_take (i := 7) (v := .pointer (some ⟨w.heap.size, 0, none⟩)) (some 32) rfl rfl (by kernel_rfl) (by kernel_rfl) (by kernel_rfl) (fun _ _ _ h => h) (yieldsIf_run (by kernel_rfl) (fun W _ => by kernel_rfl)) S0 ?_
  refine held_take (i := 8) (v := .agg #[.int .i64 p2, .slice ad2 ds2.length cap2, .slice am2 ms2.length capm2]) (some 33) rfl rfl (by kernel_rfl) (by kernel_rfl) (by kernel_rfl) (fun _ _ _ h => h) (yieldsIf_cell (by kernel_rfl) rfl (by kernel_rfl) (fun W h => hloadC W (later h.out (Nat.le_refl _) g0) (later h.out (Nat.le_refl _) g1) (later h.out (Nat.le_refl _) g2))) S0 ?_
  refine held_take (i := 9) (v := .int .i64 ((n : Int) + s)) (some 34) rfl rfl (by kernel_rfl) (by kernel_rfl) (by kernel_rfl) (fun _ _ _ h => h) (yieldsIf_move (by kernel_rfl) rfl (by kernel_rfl)) S0 ?_
  refine held_enter (i := 10) (some 35) (f := 40) (args := #[.agg #[.int .i64 p2, .slice ad2 ds2.length cap2, .slice am2 ms2.length capm2], .int .i64 ((n : Int) + s)]) (by kernel_rfl) rfl rfl rfl (by kernel_rfl) (HDA.out _ S0.out) ?_ (fun c w' h => by cases h.1) (fun w' h => by cases h.1)
  rintro e4 W4 ⟨he4, hb4⟩
  injection he4 with he4
  subst he4
  have S1 : Hid (Below w1.heap.size w1 W4) := Lib.hid (S0.out.trans hb4)
  refine ⟨S1, ?_⟩
  clear hb4
  refine held_enter (i := 11) (some 36) (f := 77) (args := #[.int .i64 p2, .slice av vs.length cv, .slice at' tn ct, .int .i64 (c2 : Int)]) (by kernel_rfl) rfl rfl rfl (by kernel_rfl) (HAP.out _ S1.out) ?_ (fun c w' h => by obtain ⟨_, h, _⟩ := h; cases h) (fun w' h => by obtain ⟨_, h, _⟩ := h; cases h)
  rintro e5 W5 ⟨u5, he5, hw5, hb5⟩
  injection he5 with he5
  subst he5
  have S2 : Hid (Below w1.heap.size w1 W5) := Lib.hid (S1.out.trans (hb5.mono S1.out.size))
  have HW5 := Lib.hid hw5
  have hs4 : w1.heap.size ≤ W4.heap.size := S1.out.size
  obtain ⟨au, cu, hus⟩ := Sl.shape hw5.l1
  rw [apT_length' HOK.out] at hus
  subst hus
  refine ⟨S2, ?_⟩
  clear hb5 hw5
  refine held_take (i := 12) (v := .agg #[.int .i64 ((n : Int) + s), .slice au c2 cu]) (some 37) rfl rfl (by kernel_rfl) (by kernel_rfl) (by kernel_rfl) (fun _ _ _ h => h) (yieldsIf_run (by kernel_rfl) (fun W _ => by kernel_rfl)) S2 ?_
  refine held_none (i := 13) (v := .bool false) rfl rfl (by kernel_rfl) (by kernel_rfl) (by kernel_rfl) (fun _ _ _ h => h) (yieldsIf_move (by kernel_rfl) rfl (by kernel_rfl)) S2 ?_
  have hth : W5.there (w.heap.size + 2) 0 (#[.int .i64 ((n : Int) + s), .slice au c2 cu] : Array Value).size := there_below HT1.out S2.out (by omega)
  have x0 := hth 0 (by simp)
  have x1 := hth 1 (by simp)
  refine wpAnyH_done (by kernel_rfl) (lastQ_store rfl (by kernel_rfl) (by kernel_rfl) 92 (.tmp 4) (.tmp 37) (by kernel_rfl) (w.heap.size + 2) 0 #[.int .i64 ((n : Int) + s), .slice au c2 cu] (by kernel_rfl) (by kernel_rfl) hth HIE.out (by kernel_rfl) ?_) _
  simp only [Act.put, List.setIfInBounds_toArray, List.set_cons_zero, List.set_cons_succ]
  obtain ⟨W6, hW6⟩ : ∃ W6, W6 = W5.setCells (w.heap.size + 2) 0 [.int .i64 ((n : Int) + s), .slice au c2 cu] := ⟨_, rfl⟩
  have h6 : W6 = (W5.setCell ⟨w.heap.size + 2, 0, none⟩ (.int .i64 ((n : Int) + s))).setCell ⟨w.heap.size + 2, 1, none⟩ (.slice au c2 cu) := by rw [hW6]; rfl
  have HB6 : Hid (Below w.heap.size w W6) := Lib.hid (by
    rw [h6]
    exact (((HB1.out.trans (S2.out.mono HB1.out.size))).setCell (by show w.heap.size ≤ w.heap.size + 2; omega) _).setCell (by show w.heap.size ≤ w.heap.size + 2; omega) _)
  have HW6 : Hid (W1 w.heap.size W6.heap.size W6 (.slice au c2 cu) (apT p2 c2 vs t)) := Lib.hid (by
    have hs6 : W6.heap.size = W5.heap.size := by rw [h6]; simp
    rw [hs6]
    refine (HW5.out.same ?_).wider (by omega) (Nat.le_refl _)
    rw [h6]
    exact (Same.set _ (Or.inl (by omega))).trans (Same.set _ (Or.inl (by omega))))
  obtain ⟨y0, hy0⟩ := Option.isSome_iff_exists.1 x0.1
  obtain ⟨y1, hy1⟩ := Option.isSome_iff_exists.1 x1.1
  have f0 : W6.cell? ⟨w.heap.size + 2, 0, none⟩ = some (.int .i64 ((n : Int) + s)) := by
    rw [h6, World.cell?_setCell_other _ _ _ _ (by simp)]
    exact World.cell?_setCell_same _ _ _ hy0
  have f1 : W6.cell? ⟨w.heap.size + 2, 1, none⟩ = some (.slice au c2 cu) := by
    rw [h6]
    exact World.cell?_setCell_same _ _ _ (by rw [World.cell?_setCell_other _ _ _ _ (by simp)]; exact hy1)
  rw [← hW6]
  clear hW6 h6 hy0 hy1 x0 x1 hth S0 S1 S2 g0 g1 g2 g3 g4 e0 e1 hwk
  go_wp2
  refine bodyPost_ret (v := .agg #[.int .i64 ((n : Int) + s), .slice au c2 cu]) ?_ rfl ⟨.slice au c2 cu, rfl, HW6.out, HB6.out⟩
  simp only [results, HRES.out]
  go_simp
end Go.Proofs.YtpdkfidmmjlmnabDoor


namespace Go.Proofs.YtpdkfidmmjlmnabDoor
open Go.RowKit

/-- The first k tables of m, in order, each in blocks of its own. -/
structure FamT (W : World) (G m k : Nat) (f : Nat → Value) (gs rs cs : Nat → Nat) (Z : Nat → Nat → Nat → Int) : Prop where
  row : W.rowIs G 39 m f
  val : ∀ j, j < k → f j = .slice (some ⟨gs j, 0, none⟩) (rs j) (rs j)
  lo : ∀ j, j < k → G < gs j
  inc : ∀ j, j + 1 < k → gs j + 1 + rs j ≤ gs (j + 1)
  tb : ∀ j, j < k → Tb W (gs j) (rs j) (cs j) (Z j)
theorem FamT.start {W : World} {G m : Nat} {f : Nat → Value} {gs rs cs : Nat → Nat} {Z : Nat → Nat → Nat → Int} (h : W.rowIs G 39 m f) : FamT W G m 0 f gs rs cs Z :=
  ⟨h, fun _ h => absurd h (Nat.not_lt_zero _), fun _ h => absurd h (Nat.not_lt_zero _), fun _ h => absurd h (Nat.not_lt_zero _), fun _ h => absurd h (Nat.not_lt_zero _)⟩
theorem FamT.below {W W' : World} {G m k : Nat} {f : Nat → Value} {gs rs cs : Nat → Nat} {Z : Nat → Nat → Nat → Int} (h : FamT W G m k f gs rs cs Z) (hb : Below W.heap.size W W') : FamT W' G m k f gs rs cs Z :=
  ⟨h.row.of_block (hb.block _ h.row.lt), h.val, h.lo, h.inc, fun j hj => (h.tb j hj).below hb⟩
theorem FamT.step {W w1 : World} {G m k r c : Nat} {f : Nat → Value} {gs rs cs : Nat → Nat} {Z : Nat → Nat → Nat → Int} (h : FamT W G m k f gs rs cs Z) (_hk : k < m) (hr : r = rs k) (hc : c = cs k) (hm : Mat W w1 r c (Z k)) :
    FamT (w1.setCell ⟨G, k, none⟩ (.slice (some ⟨W.heap.size, 0, none⟩) r r)) G m (k + 1) (fun j => if j = k then .slice (some ⟨W.heap.size, 0, none⟩) r r else f j) (fun j => if j = k then W.heap.size else gs j) rs cs Z := by
  subst hr hc
  have hlt := h.row.lt
  have hb := hm.below
  refine ⟨(h.row.of_block (hb.block _ hlt)).set k _, fun j hj => ?_, fun j hj => ?_, fun j hj => ?_, fun j hj => ?_⟩
  · by_cases e : j = k
    · subst e; simp
    · simp only [if_neg e]; exact h.val j (by omega)
  · by_cases e : j = k
    · simp only [if_pos e]; exact hlt
    · simp only [if_neg e]; exact h.lo j (by omega)
  · have hjk : ¬ j = k := by omega
    simp only [if_neg hjk]
    by_cases e : j + 1 = k
    · simp only [if_pos e]; exact (h.tb j (by omega)).lt
    · simp only [if_neg e]; exact h.inc j (by omega)
  · by_cases e : j = k
    · subst e
      simp only [if_true]
      exact hm.tb.out (Or.inl hlt) _
    · simp only [if_neg e]
      exact ((h.tb j (by omega)).below hb).out (Or.inl (h.lo j (by omega))) _
theorem FamT.ord {W : World} {G m k : Nat} {f : Nat → Value} {gs rs cs : Nat → Nat} {Z : Nat → Nat → Nat → Int} (h : FamT W G m k f gs rs cs Z) {i j : Nat} (hij : i < j) (hj : j < k) : gs i + 1 + rs i ≤ gs j := by
  induction j with
  | zero => exact absurd hij (Nat.not_lt_zero _)
  | succ j ih =>
    have h1 := h.inc j hj
    by_cases e : i = j
    · subst e; exact h1
    · have := ih (by omega) (by omega)
      omega
theorem FamT.congr {W : World} {G m k : Nat} {f : Nat → Value} {gs rs cs : Nat → Nat} {Z Z' : Nat → Nat → Nat → Int} (h : FamT W G m k f gs rs cs Z) (e : ∀ n, n < k → ∀ j, j < rs n → ∀ i, i < cs n → Z n j i = Z' n j i) : FamT W G m k f gs rs cs Z' :=
  ⟨h.row, h.val, h.lo, h.inc, fun j hj => (h.tb j hj).congr (e j hj)⟩
/-- One row is laid anew. -/
theorem FamT.put {W W' : World} {G m k : Nat} {f : Nat → Value} {gs rs cs : Nat → Nat} {Z : Nat → Nat → Nat → Int} (h : FamT W G m k f gs rs cs Z) {n i : Nat} (hn : n < k) (hi : i < rs n) {y : Nat → Int} (hb : But (gs n + 1 + i) W W') (hr : W'.rowIs (gs n + 1 + i) 2 (cs n) (fun q => .int .i64 (y q))) :
    FamT W' G m k f gs rs cs (fun n2 i2 q => if n2 = n ∧ i2 = i then y q else Z n2 i2 q) := by
  have hl := h.lo n hn
  refine ⟨h.row.of_block (hb.block _ h.row.lt (by omega)), h.val, h.lo, h.inc, fun j hj => ?_⟩
  have hT := h.tb j hj
  by_cases e : j = n
  · subst e
    refine ⟨hT.top.of_block (hb.block _ hT.top.lt (by omega)), fun i2 hi2 => ?_, Nat.le_trans hT.lt hb.size⟩
    by_cases e2 : i2 = i
    · subst e2
      exact hr.congr (fun q _ => by simp)
    · exact ((hT.rows i2 hi2).of_block (hb.block _ (hT.rows i2 hi2).lt (by omega))).congr (fun q _ => by simp [e2])
  · have hd : gs j + 1 + rs j ≤ gs n ∨ gs n + 1 + rs n ≤ gs j := by
      by_cases e3 : j < n
      · exact Or.inl (h.ord e3 hn)
      · exact Or.inr (h.ord (by omega) hj)
    refine ⟨hT.top.of_block (hb.block _ hT.top.lt (by omega)), fun i2 hi2 => ?_, Nat.le_trans hT.lt hb.size⟩
    exact ((hT.rows i2 hi2).of_block (hb.block _ (hT.rows i2 hi2).lt (by omega))).congr (fun q _ => by simp [e])
/-- The tables as lists. -/
def famL (m : Nat) (rs cs : Nat → Nat) (Z : Nat → Nat → Nat → Int) : List (List (List Int)) := (List.range m).map fun n => tableOf (rs n) (cs n) (Z n)
theorem famL_length (m : Nat) (rs cs : Nat → Nat) (Z : Nat → Nat → Nat → Int) : (famL m rs cs Z).length = m := by simp [famL]
theorem FamT.rw3 {lo : Nat} {W : World} {G m : Nat} {f : Nat → Value} {gs rs cs : Nat → Nat} {Z : Nat → Nat → Nat → Int} (h : FamT W G m m f gs rs cs Z) (hl : lo ≤ G) (hm : m ≤ 1048576) (hrs : ∀ j, j < m → rs j ≤ 1048576 ∧ cs j ≤ 1048576) :
    Rw3 lo W.heap.size W (.slice (some ⟨G, 0, none⟩) m m) (famL m rs cs Z) := by
  have hF : Fill3 W G m m f (fun j => if j < m then gs j else W.heap.size) (famL m rs cs Z) := by
    refine ⟨h.row, ?_, fun j hj => ?_, ?_, fun j hj hjm => ?_⟩
    · by_cases e : 0 < m
      · simp only [if_pos e]; exact h.lo 0 e
      · simp only [if_neg e]; exact h.row.lt
    · simp only [if_pos hj]
      by_cases e : j + 1 < m
      · simp only [if_pos e]; have := h.inc j e; omega
      · simp only [if_neg e]; have := (h.tb j hj).lt; omega
    · simp only [if_neg (Nat.lt_irrefl _)]; exact Nat.le_refl _
    · simp only [if_pos hjm]
      rw [h.val j hjm]
      have e1 : (famL m rs cs Z)[j] = tableOf (rs j) (cs j) (Z j) := by simp [famL]
      rw [e1]
      refine (h.tb j hjm).rw2h (Nat.le_refl _) ?_ (hrs j hjm).1 (hrs j hjm).2
      by_cases e : j + 1 < m
      · simp only [if_pos e]; exact h.inc j e
      · simp only [if_neg e]; exact (h.tb j hjm).lt
  exact (hF.rw3 (by rw [famL_length]) hm).wider hl (Nat.le_refl _)

def rsF (ds : List Int) (n : Nat) : Nat := (ds.getD n 0).toNat
def csF (ds2 : List Int) (s : Int) (n : Nat) : Nat := (dimZ ds2 ((n : Int) + s)).toNat
def FamTR (m : Nat) (rs cs : Nat → Nat) (Z : Nat → Nat → Nat → Int) (w : World) (e : Ending) (w' : World) : Prop :=
  ∃ G f gs, e = .returned (.slice (some ⟨G, 0, none⟩) m m) ∧ w.heap.size ≤ G ∧ FamT w' G m m f gs rs cs Z ∧ Below w.heap.size w w'

set_option maxHeartbeats 3200000 in
set_option maxRecDepth 100000 in
theorem zeroFamT_any (p p2 s : Int) (dv mv dv2 mv2 : Value) (ds : List Int) (ms : List (List (List Int))) (ds2 : List Int) (ms2 : List (List (List Int))) (w : World) (h : Cx 0 w dv mv ds ms) (h2 : Cx 0 w dv2 mv2 ds2 ms2) (hcx : IsCx p ds ms) (hcy : IsCx p2 ds2 ms2) (hs : -1 ≤ s ∧ s ≤ 1) :
    Calls Tryd.prog 74 #[.agg #[.int .i64 p, dv, mv], .agg #[.int .i64 p2, dv2, mv2], .int .i64 s] w (FamTR ds.length (rsF ds) (csF ds2 s) (fun _ _ _ => 0) w) := by
  obtain ⟨ad, cap, rfl⟩ := Sl.shape h.dims
  obtain ⟨am, capm, rfl⟩ := Sl.shape h.maps
  obtain ⟨ad2, cap2, rfl⟩ := Sl.shape h2.dims
  obtain ⟨am2, capm2, rfl⟩ := Sl.shape h2.maps
  obtain ⟨k1, k2⟩ := bx_two (p := p) (p2 := p2) 28 h h2
  have HX0 := Lib.hid k1
  have HY0 := Lib.hid k2
  have HCX := Lib.hid hcx
  have HCY := Lib.hid hcy
  have hl6 := hcx.1.len1
  have hl7 := hcy.1.len1
  obtain ⟨hs0, hs1⟩ := hs
  have hmk := run_make_row' (P := Tryd.prog) 23 39 (.slice none 0 0) 24 Tryd.underlying23 Tryd.infoSS rfl .i64 .i64 ds.length (by omega) (by omega)
  obtain ⟨w1, hw1⟩ : ∃ w1, w1 = ((w.alloc (.cells #[.int .i64 p, .slice ad ds.length cap, .slice am ms.length capm] 28)).alloc (.cells #[.int .i64 p2, .slice ad2 ds2.length cap2, .slice am2 ms2.length capm2] 28)) := ⟨_, rfl⟩
  rw [← hw1] at HX0 HY0
  have c0 := HX0.out.c0
  have c1 := HX0.out.c1
  have c2 := HX0.out.c2
  have hs1w : w.heap.size < w1.heap.size := HX0.out.lt
  clear h h2 k1 k2 hcx hcy
  go_enter Tryd.func74, Tryd.ntmps74
  go_upto_region 1 with fail
  rw [← hw1]
  clear hw1
  go_wp2
  clear hmk c0 c1 c2
  go_loopw [17] (fun i wr => ∃ (k : Nat) (f : Nat → Value) (b : Nat → Nat), k ≤ ds.length ∧ i = .int .i64 k ∧ Hid (Below w1.heap.size w1 wr) ∧ Hid (FamT wr w1.heap.size ds.length k f b (rsF ds) (csF ds2 s) (fun _ _ _ => 0))) (fun i _ => ds.length - (intOf i).toNat)
  case atStart => exact ⟨0, _, fun _ => 0, Nat.zero_le _, rfl, Lib.hid (below_alloc1 _ _), Lib.hid (FamT.start (World.rowIs_made w1 _ _ _))⟩
  case round =>
    obtain ⟨k, f, b, hk, rfl, HB, HF⟩ := hrel
    obtain ⟨wx, hwx⟩ : ∃ wx : World, wx = wr := ⟨_, rfl⟩
    subst hwx
    by_cases hlt : k < ds.length
    · have hX := HX0.out.next HB.out
      have hY := HY0.out.next HB.out
      have HYY := Lib.hid hY
      have hcx0 := hX.cx
      have d0 := hY.c0
      have d1 := hY.c1
      have d2 := hY.c2
      have hdim := HCX.out.1.dim k
      obtain ⟨c, hc⟩ := Int.eq_ofNat_of_zero_le hdim.1
      have hc8 : c ≤ 8 := by omega
      have hz := dimZ_8 HCY.out ((k : Int) + s)
      obtain ⟨c2, hc2⟩ := Int.eq_ofNat_of_zero_le hz.1
      have hc28 : c2 ≤ 8 := by omega
      refine Sl.cases hcx0.dims (fun _ _ hx _ => absurd hlt (by simp [hx])) (fun bd od capd hvd _ _ hcl => ?_)
      injection hvd with e1 e2 e3
      clear e2
      subst e1 e3
      obtain ⟨u, hu, hru⟩ := hcl k hlt
      have hu2 : wx.cell? ⟨bd, od + k, none⟩ = some (.int .i64 (c : Int)) := by rw [hu, hru, ← hc, getD_of_lt _ hlt]
      have HRS : Hid (rsF ds k = c) := Lib.hid (by simp only [rsF]; rw [hc]; simp)
      have HCS : Hid (csF ds2 s k = c2) := Lib.hid (by simp only [csF]; rw [hc2]; simp)
      have HDA : Hid (∀ W, Below wx.heap.size wx W → Calls Tryd.prog 40 #[.agg #[.int .i64 p2, .slice ad2 ds2.length cap2, .slice am2 ms2.length capm2], .int .i64 ((k : Int) + s)] W (BR (.int .i64 (c2 : Int)) W)) := Lib.hid (fun W h => by
        have := dimAt_any p2 ((k : Int) + s) _ _ ds2 ms2 W (HYY.out.next h).cx (by omega)
        rwa [hc2] at this)
      have hrow := HF.out.row.cell hlt
      have hfro := HF.out.row.frozen k
      have hlr := HF.out.row.lt
      clear hu hru hcl hcx0 hX hY hdim hc hz hc2
      go_wp2_with fail
      refine (HDA.out _ (Below.refl _ _)).mono ?_
      rintro e w2 ⟨rfl, hb2⟩
      have HB2 := Lib.hid (HB.out.trans (hb2.mono HB.out.size))
      have HF2 := Lib.hid (HF.out.below hb2)
      have hrow2 := HF2.out.row.cell hlt
      have hfro2 := HF2.out.row.frozen k
      have hlr2 := HF2.out.row.lt
      clear hb2 hrow hfro hu2 HDA d0 d1 d2 hlr
      go_wp2_with fail
      refine (zeroTable_any c c2 _ (by omega) (by omega)).mono ?_
      rintro e w3 ⟨rfl, hm3⟩
      have HB3 := Lib.hid (HB2.out.trans (hm3.below.mono HB2.out.size))
      have HS3 := Lib.hid (HF2.out.step hlt HRS.out.symm HCS.out.symm hm3)
      have hrow3 := later hm3.below (Nat.le_refl _) hrow2
      have hfro3 : w3.frozen? ⟨w1.heap.size, k, none⟩ = false := (HF2.out.row.of_block (hm3.below.block _ hlr2)).frozen k
      have HB4 : Hid (Below w1.heap.size w1 (w3.setCell ⟨w1.heap.size, k, none⟩ (.slice (some ⟨w2.heap.size, 0, none⟩) c c))) := Lib.hid (HB3.out.setCell (Nat.le_refl _) _)
      clear hm3 hrow2 hfro2
      go_wp2
      go_roundw
      case rel => exact ⟨k + 1, _, _, by omega, by go_num, HB4, HS3⟩
      case measure => simp [intOf]; omega
    · have HKE : Hid (k = ds.length) := Lib.hid (by omega)
      have HXX := Lib.hid (HX0.out.next HB.out)
      go_wp2
      go_ret
      have hf := HF.out
      rw [HKE.out] at hf
      exact ⟨w1.heap.size, f, b, rfl, Nat.le_of_lt hs1w, hf, HXX.out.below⟩
end Go.Proofs.YtpdkfidmmjlmnabDoor


namespace Go.Proofs.YtpdkfidmmjlmnabDoor
open Go.RowKit

/-- Number q of what the first k paths make together. -/
def pS (p : Int) (fc : Nat → Int) (v : Nat → List Int) (q : Nat) : Nat → Int
  | 0 => 0
  | k + 1 => addMod p (fc k) (pS p fc v q k) ((v k).getD q 0)
theorem pS_bd {p : Int} (hp : 0 < p ∧ p ≤ 7) (fc : Nat → Int) (v : Nat → List Int) (q k : Nat) : 0 ≤ pS p fc v q k ∧ pS p fc v q k ≤ 6 := by
  cases k with
  | zero => simp [pS]
  | succ k =>
    simp only [pS, addMod]
    have h1 := Int.emod_nonneg (pS p fc v q k + fc k * (v k).getD q 0) (show p ≠ 0 by omega)
    have h2 := Int.emod_lt_of_pos (pS p fc v q k + fc k * (v k).getD q 0) hp.1
    omega
/-- The numbers when the tables ahead of n are done, of table n the rows ahead of i, of row i the paths ahead of k. -/
def spZ (p : Int) (fc : Nat → Int) (V : Nat → Nat → Nat → List Int) (np n i k : Nat) (n2 i2 q : Nat) : Int :=
  if n2 < n ∨ (n2 = n ∧ i2 < i) then pS p fc (V n2 i2) q np else if n2 = n ∧ i2 = i then pS p fc (V n2 i2) q k else 0
theorem spZ_zero (p : Int) (fc : Nat → Int) (V : Nat → Nat → Nat → List Int) (np n2 i2 q : Nat) : spZ p fc V np 0 0 0 n2 i2 q = 0 := by
  simp only [spZ, pS]
  rw [if_neg (by omega)]
  split <;> rfl
theorem spZ_row (p : Int) (fc : Nat → Int) (V : Nat → Nat → Nat → List Int) (np n i n2 i2 q : Nat) : spZ p fc V np n i np n2 i2 q = spZ p fc V np n (i + 1) 0 n2 i2 q := by
  simp only [spZ, pS]
  by_cases h : n2 < n ∨ (n2 = n ∧ i2 < i)
  · rw [if_pos h, if_pos (by omega)]
  · rw [if_neg h]
    by_cases h2 : n2 = n ∧ i2 = i
    · rw [if_pos h2, if_pos (by omega)]
    · rw [if_neg h2, if_neg (by omega)]
      split <;> rfl
theorem spZ_tab (p : Int) (fc : Nat → Int) (V : Nat → Nat → Nat → List Int) (np n r n2 i2 q : Nat) (h2 : n2 = n → i2 < r) : spZ p fc V np n r 0 n2 i2 q = spZ p fc V np (n + 1) 0 0 n2 i2 q := by
  simp only [spZ, pS]
  by_cases h : n2 < n ∨ (n2 = n ∧ i2 < r)
  · rw [if_pos h, if_pos (by omega)]
  · have e1 : ¬ (n2 < n + 1 ∨ (n2 = n + 1 ∧ i2 < 0)) := by omega
    rw [if_neg h, if_neg e1]
    split <;> split <;> rfl
theorem spZ_all (p : Int) (fc : Nat → Int) (V : Nat → Nat → Nat → List Int) (np n n2 i2 q : Nat) (h : n2 < n) : spZ p fc V np n 0 0 n2 i2 q = pS p fc (V n2 i2) q np := by
  simp only [spZ]
  rw [if_pos (Or.inl h)]
theorem spZ_at (p : Int) (fc : Nat → Int) (V : Nat → Nat → Nat → List Int) (np n i k q : Nat) : spZ p fc V np n i k n i q = pS p fc (V n i) q k := by
  simp [spZ]
theorem spZ_put (p : Int) (fc : Nat → Int) (V : Nat → Nat → Nat → List Int) (np n i k n2 i2 q : Nat) : (if n2 = n ∧ i2 = i then addMod p (fc k) (spZ p fc V np n i k n i q) ((V n i k).getD q 0) else spZ p fc V np n i k n2 i2 q) = spZ p fc V np n i (k + 1) n2 i2 q := by
  by_cases h : n2 = n ∧ i2 = i
  · rw [if_pos h, h.1, h.2, spZ_at, spZ_at, pS]
  · rw [if_neg h]
    simp only [spZ]
    by_cases h1 : n2 < n ∨ (n2 = n ∧ i2 < i)
    · rw [if_pos h1, if_pos h1]
    · rw [if_neg h1, if_neg h1, if_neg h, if_neg h]

def unitL (d i : Nat) : List Int := (List.range d).map fun q => if q = i then 1 else 0
theorem Tb.row1 {W : World} {g r c : Nat} {Z : Nat → Nat → Int} (h : Tb W g r c Z) {j : Nat} (hj : j < r) : L1 0 W (.slice (some ⟨g + 1 + j, 0, none⟩) c c) ((List.range c).map (Z j)) := by
  by_cases h0 : c = 0
  · subst h0
    exact Or.inl ⟨rfl, _, _, rfl⟩
  · refine Or.inr ⟨g + 1 + j, 0, c, by simp, Nat.zero_le _, by simp; omega, fun i hi => ?_⟩
    have hi' : i < c := by simpa using hi
    exact ⟨_, by rw [Nat.zero_add]; exact (h.rows j hj).cell hi', by simp [IsI]⟩
theorem Tb.but {W W' : World} {g r c b : Nat} {Z : Nat → Nat → Int} (h : Tb W g r c Z) (hb : But b W W') (ho : b < g ∨ g + 1 + r ≤ b) : Tb W' g r c Z :=
  ⟨h.top.of_block (hb.block _ h.top.lt (by omega)), fun j hj => (h.rows j hj).of_block (hb.block _ (h.rows j hj).lt (by omega)), Nat.le_trans h.lt hb.size⟩

/-- Paths with their factors and maps, in a row at block b. -/
def PathsAt (w : World) (b np : Nat) (fc : Nat → Int) (gl : Nat → List Value) : Prop :=
  ∀ j, j < np → ∃ mv, w.cell? ⟨b, j * 2, none⟩ = some (.int .i64 (fc j)) ∧ w.cell? ⟨b, j * 2 + 1, none⟩ = some mv ∧ MapsAt w mv (gl j) ∧ 0 < (gl j).length ∧ (gl j).length ≤ 1048576

theorem hloadP (w : World) {b : Nat} {x y : Value} (c0 : w.cell? ⟨b, 0, none⟩ = some x) (c1 : w.cell? ⟨b, 1, none⟩ = some y) : (Instr.loadAt 78 (.pointer (some ⟨b, 0, none⟩))).run Tryd.prog w = .ok (.agg #[x, y]) w := by go_simp

set_option maxHeartbeats 6400000 in
set_option maxRecDepth 100000 in
theorem sumOfPaths_any (p p2 s : Int) (np bp cp : Nat) (fc : Nat → Int) (gl : Nat → List Value) (V : Nat → Nat → Nat → List Int) (dv mv dv2 mv2 : Value) (ds : List Int) (ms : List (List (List Int))) (ds2 : List Int) (ms2 : List (List (List Int))) (w : World) (h : Cx 0 w dv mv ds ms) (h2 : Cx 0 w dv2 mv2 ds2 ms2) (hcx : IsCx p ds ms) (hcy : IsCx p2 ds2 ms2) (hs : -1 ≤ s ∧ s ≤ 1)
    (hP : PathsAt w bp np fc gl) (hfc : ∀ j, j < np → 0 ≤ fc j ∧ fc j ≤ 6) (hnp : np ≤ 100) (hch : ∀ n, n < ds.length → ∀ i, i < rsF ds n → ∀ j, j < np → ∃ z, Chain w (gl j) (n : Int) (unitL (rsF ds n) i) z (V n i j)) (hV : ∀ n, n < ds.length → ∀ i, i < rsF ds n → ∀ j, j < np → (V n i j).length = csF ds2 s n ∧ ∀ y ∈ V n i j, 0 ≤ y ∧ y ≤ 6) :
    Calls Tryd.prog 63 #[.agg #[.int .i64 p, dv, mv], .agg #[.int .i64 p2, dv2, mv2], .int .i64 s, .slice (some ⟨bp, 0, none⟩) np cp] w (Fam3R (famL ds.length (rsF ds) (csF ds2 s) fun n i q => pS p fc (V n i) q np) w) := by
  obtain ⟨ad, cap, rfl⟩ := Sl.shape h.dims
  obtain ⟨am, capm, rfl⟩ := Sl.shape h.maps
  obtain ⟨ad2, cap2, rfl⟩ := Sl.shape h2.dims
  obtain ⟨am2, capm2, rfl⟩ := Sl.shape h2.maps
  obtain ⟨k1, k2⟩ := bx_two (p := p) (p2 := p2) 28 h h2
  have HX0 := Lib.hid k1
  have HY0 := Lib.hid k2
  have HCX := Lib.hid hcx
  have HCY := Lib.hid hcy
  have HS := Lib.hid hs
  have HP := Lib.hid hP
  have HFC := Lib.hid hfc
  have HCH := Lib.hid hch
  have HV := Lib.hid hV
  have hl6 := hcx.1.len1
  have hp27 : 2 ≤ p ∧ p ≤ 7 := ⟨hcx.1.prime.lo, hcx.1.prime.hi⟩
  obtain ⟨hp2, hp7⟩ := hp27
  obtain ⟨w1, hw1⟩ : ∃ w1, w1 = ((w.alloc (.cells #[.int .i64 p, .slice ad ds.length cap, .slice am ms.length capm] 28)).alloc (.cells #[.int .i64 p2, .slice ad2 ds2.length cap2, .slice am2 ms2.length capm2] 28)) := ⟨_, rfl⟩
  rw [← hw1] at HX0 HY0
  have c0 := HX0.out.c0
  have c1 := HX0.out.c1
  have c2 := HX0.out.c2
  have d0 := HY0.out.c0
  have d1 := HY0.out.c1
  have d2 := HY0.out.c2
  have hs1w : w.heap.size < w1.heap.size := HX0.out.lt
  have HB01 := Lib.hid HX0.out.below
  have HZF := Lib.hid (zeroFamT_any p p2 s _ _ _ _ ds ms ds2 ms2 w1 HX0.out.cx HY0.out.cx hcx hcy hs)
  clear h h2 k1 k2 hcx hcy hP hfc hch hV hs
  go_enter Tryd.func63, Tryd.ntmps63
  go_upto_region 1 with fail
  rw [← hw1]
  clear hw1
  go_wp2_with fail
  refine HZF.out.mono ?_
  rintro e w2 ⟨G, f, gs, rfl, hG, hF, hb2⟩
  have HF := Lib.hid (hF.congr (Z' := spZ p fc V np 0 0 0) (fun n _ j _ q _ => (spZ_zero p fc V np n j q).symm))
  have HB2 := Lib.hid hb2
  clear hF hb2 HZF c0 c1 c2 d0 d1 d2
  go_wp2
  go_loopw [22] (fun i wr => ∃ (n : Nat), n ≤ ds.length ∧ i = .int .i64 n ∧ Hid (Below w1.heap.size w1 wr) ∧ Hid (FamT wr G ds.length ds.length f gs (rsF ds) (csF ds2 s) (spZ p fc V np n 0 0))) (fun i _ => ds.length - (intOf i).toNat)
  case atStart => exact ⟨0, Nat.zero_le _, rfl, HB2, HF⟩
  case round =>
    obtain ⟨n, hn, rfl, HB, HFR⟩ := hrel
    obtain ⟨wx, hwx⟩ : ∃ wx : World, wx = wr := ⟨_, rfl⟩
    subst hwx
    by_cases hlt : n < ds.length
    · have hX := HX0.out.next HB.out
      have c1 := hX.c1
      obtain ⟨r, hr⟩ : ∃ r, r = rsF ds n := ⟨_, rfl⟩
      have hdim := HCX.out.1.dim n
      have hr2 : ds.getD n 0 = (r : Int) := by rw [hr]; simp only [rsF]; omega
      have hr8 : r ≤ 8 := by omega
      obtain ⟨c, hc⟩ : ∃ c, c = csF ds2 s n := ⟨_, rfl⟩
      have hc8 : c ≤ 8 := by rw [hc]; simp only [csF]; have := dimZ_8 HCY.out ((n : Int) + s); omega
      refine Sl.cases hX.cx.dims (fun _ _ hx _ => absurd hlt (by simp [hx])) (fun bd od capd hvd _ _ hcl => ?_)
      injection hvd with e1 e2 e3
      clear e2
      subst e1 e3
      obtain ⟨u, hu, hru⟩ := hcl n hlt
      have hu2 : wx.cell? ⟨bd, od + n, none⟩ = some (.int .i64 (r : Int)) := by rw [hu, hru, ← hr2, getD_of_lt _ hlt]
      obtain ⟨g, hg⟩ : ∃ g, g = gs n := ⟨_, rfl⟩
      have hrow : wx.cell? ⟨G, n, none⟩ = some (.slice (some ⟨g, 0, none⟩) r r) := by have := HFR.out.row.cell hlt; rwa [HFR.out.val n hlt, ← hr, ← hg] at this
      have HR := Lib.hid hr
      have HC := Lib.hid hc
      have HG := Lib.hid hg
      clear hu hru hcl hX hdim hr2 hr hc hg
      go_wp2_with fail
      refine (identityTable_any r _ (by omega)).mono ?_
      rintro e w3 ⟨rfl, hm3⟩
      have HB3 := Lib.hid (HB.out.trans (hm3.below.mono HB.out.size))
      have HF3 := Lib.hid (HFR.out.below hm3.below)
      have HU3 : Hid (Tb w3 wx.heap.size r r (fun j i => if i = j then 1 else 0)) := Lib.hid hm3.tb
      obtain ⟨gi, hgi⟩ : ∃ gi, gi = wx.heap.size := ⟨_, rfl⟩
      have hgg : g + 1 + r ≤ gi := by have := (HFR.out.tb n hlt).lt; rw [← HR.out, ← HG.out, ← hgi] at this; exact this
      have hg1 : w1.heap.size < g := by have := HFR.out.lo n hlt; rw [← HG.out] at this; omega
      rw [← hgi] at HU3 ⊢
      have HF0 := Lib.hid HFR.out
      clear hm3 hrow hu2 c1 hgi
      go_wp2
      go_loopw [34] (fun i wr => ∃ (i0 : Nat), i0 ≤ r ∧ i = .int .i64 i0 ∧ Hid (Below w1.heap.size w1 wr) ∧ Hid (FamT wr G ds.length ds.length f gs (rsF ds) (csF ds2 s) (spZ p fc V np n i0 0)) ∧ Hid (Tb wr gi r r (fun j i => if i = j then 1 else 0))) (fun i _ => r - (intOf i).toNat)
      case atStart => exact ⟨0, Nat.zero_le _, rfl, HB3, HF3, HU3⟩
      case round =>
        obtain ⟨i0, hi0, rfl, HB4, HF4, HU4⟩ := hrel
        obtain ⟨wy, hwy⟩ : ∃ wy : World, wy = wr := ⟨_, rfl⟩
        subst hwy
        by_cases hlt2 : i0 < r
        · have hurow := HU4.out.top.cell hlt2
          go_wp2
          clear hurow
          go_loopw [41] (fun i wr => ∃ (k : Nat), k ≤ np ∧ i = .int .i64 k ∧ Hid (Below w1.heap.size w1 wr) ∧ Hid (FamT wr G ds.length ds.length f gs (rsF ds) (csF ds2 s) (spZ p fc V np n i0 k)) ∧ Hid (Tb wr gi r r (fun j i => if i = j then 1 else 0))) (fun i _ => np - (intOf i).toNat)
          case atStart => exact ⟨0, Nat.zero_le _, rfl, HB4, HF4, HU4⟩
          case round =>
            obtain ⟨k, hk, rfl, HB5, HF5, HU5⟩ := hrel
            obtain ⟨wz, hwz⟩ : ∃ wz : World, wz = wr := ⟨_, rfl⟩
            subst hwz
            by_cases hlt3 : k < np
            · obtain ⟨mvv, hq0, hq1, hma, hgl0, hgl1⟩ := HP.out k hlt3
              have HBW : Hid (Below w.heap.size w wz) := Lib.hid (HB01.out.trans (HB5.out.mono HB01.out.size))
              have q0 := later HBW.out (Nat.le_refl _) hq0
              have q1 := later HBW.out (Nat.le_refl _) hq1
              have HMA := Lib.hid hma
              obtain ⟨bm, om, cm, hmv, _⟩ := hma
              subst hmv
              obtain ⟨wq, hwq⟩ : ∃ wq, wq = wz.alloc (.cells #[.int .i64 (fc k), .slice (some ⟨bm, om, none⟩) (gl k).length cm] 78) := ⟨_, rfl⟩
              have hbq : Below wz.heap.size wz wq := by rw [hwq]; exact below_alloc1 _ _
              have pa0 : wq.cell? ⟨wz.heap.size, 0, none⟩ = some (.int .i64 (fc k)) := by rw [hwq]; simp
              have pa1 : wq.cell? ⟨wz.heap.size, 1, none⟩ = some (.slice (some ⟨bm, om, none⟩) (gl k).length cm) := by rw [hwq]; simp
              have hsq : wq.heap.size = wz.heap.size + 1 := by rw [hwq]; simp
              have HFQ := Lib.hid (HF5.out.below hbq)
              have HUQ := Lib.hid (HU5.out.below hbq)
              have HTQ : Hid (Tb wq g r c (spZ p fc V np n i0 k n)) := Lib.hid (by have := HFQ.out.tb n hlt; rwa [← HG.out, ← HR.out, ← HC.out] at this)
              have HBQ : Hid (Below w1.heap.size w1 wq) := Lib.hid (HB5.out.trans (hbq.mono HB5.out.size))
              have HBWQ : Hid (Below w.heap.size w wq) := Lib.hid (HBW.out.trans (hbq.mono HBW.out.size))
              have hgz : gi + 1 + r ≤ wz.heap.size := HU5.out.lt
              have hxq := HX0.out.next HBQ.out
              have x0 := hxq.c0
              have hgw : w.heap.size < w1.heap.size := hs1w
              obtain ⟨b, hb⟩ : ∃ b, b = g + 1 + i0 := ⟨_, rfl⟩
              have HROW : Hid (wq.rowIs b 2 c (fun q => .int .i64 (spZ p fc V np n i0 k n i0 q))) := Lib.hid (by rw [hb]; exact HTQ.out.rows i0 hlt2)
              have hbb : g < b ∧ b < gi ∧ b < wz.heap.size := by omega
              have htop : wq.cell? ⟨g, 0 + i0, none⟩ = some (.slice (some ⟨b, 0, none⟩) c c) := by rw [hb, Nat.zero_add]; exact HTQ.out.top.cell hlt2
              obtain ⟨hbb1, hbb2, hbb3⟩ := hbb
              have HADD : Hid (Calls Tryd.prog 76 #[.agg #[.int .i64 (fc k), .slice (some ⟨bm, om, none⟩) (gl k).length cm], .int .i64 p, .slice (some ⟨b, 0, none⟩) c c, .agg #[.int .i64 (n : Int), .slice (some ⟨gi + 1 + i0, 0, none⟩) r r]] wq.drew (AddR b c (fun q => addMod p (fc k) (spZ p fc V np n i0 k n i0 q) ((V n i0 k).getD q 0)) wq.drew)) := Lib.hid (by
                obtain ⟨z, hz⟩ := HCH.out n hlt i0 (by rw [← HR.out]; exact hlt2) k hlt3
                obtain ⟨hv1, hv2⟩ := HV.out n hlt i0 (by rw [← HR.out]; exact hlt2) k hlt3
                rw [← HR.out] at hz
                rw [← HC.out] at hv1
                exact addTo_any p (fc k) n z b c _ (unitL r i0) (V n i0 k) (gl k) _ _ w wq.drew HBWQ.out.drew HROW.out.drew HMA.out ⟨hgl0, hgl1⟩ ((HUQ.out.below (Below.refl _ _).drew).row1 hlt2) hz (by omega) (HFC.out k hlt3) (fun q _ => by rw [spZ_at]; exact pS_bd (by omega) fc (V n i0) q k) hv1 hv2 (by omega))
              have S0 : Hid (But b wq wq.drew) := Lib.hid (But.refl _ _).drew
              have HSQ : Hid (∀ W, But b wq W → W.cell? ⟨wz.heap.size, 0, none⟩ = some (.int .i64 (fc k)) ∧ W.cell? ⟨wz.heap.size, 1, none⟩ = some (.slice (some ⟨bm, om, none⟩) (gl k).length cm) ∧ W.cell? ⟨w.heap.size, 0, none⟩ = some (.int .i64 p) ∧ W.cell? ⟨g, 0 + i0, none⟩ = some (.slice (some ⟨b, 0, none⟩) c c)) := Lib.hid (fun W h => ⟨by rw [h.cell (by omega) (by omega)]; exact pa0, by rw [h.cell (by omega) (by omega)]; exact pa1, by rw [h.cell (cell_lt x0) (by omega)]; exact x0, by rw [h.cell (cell_lt htop) (by omega)]; exact htop⟩)
              clear hq0 hq1 hxq x0 htop pa0 pa1 hbq
              go_upto_region 11 with fail
              rw [← hwq]
              refine wp_region_held_drew (S := fun W => Hid (But b wq W)) (by kernel_rfl) S0 (fun _ => ?_)
              refine held_take (i := 0) (v := .agg #[.int .i64 (fc k), .slice (some ⟨bm, om, none⟩) (gl k).length cm]) (some 45) rfl rfl (by kernel_rfl) (by kernel_rfl) (by kernel_rfl) (fun _ _ _ h => h) (yieldsIf_cell (by kernel_rfl) rfl (by kernel_rfl) (fun W h => hloadP W (HSQ.out W h.out).1 (HSQ.out W h.out).2.1)) S0 ?_
              refine held_take (i := 1) (v := .pointer (some ⟨w.heap.size, 0, none⟩)) (some 46) rfl rfl (by kernel_rfl) (by kernel_rfl) (by kernel_rfl) (fun _ _ _ h => h) (yieldsIf_run (by kernel_rfl) (fun W _ => by kernel_rfl)) S0 ?_
              refine held_take (i := 2) (v := .int .i64 p) (some 47) rfl rfl (by kernel_rfl) (by kernel_rfl) (by kernel_rfl) (fun _ _ _ h => h) (yieldsIf_cell (by kernel_rfl) rfl (by kernel_rfl) (fun W h => hload W (HSQ.out W h.out).2.2.1)) S0 ?_
              refine held_take (i := 3) (v := .slice (some ⟨g, 0, none⟩) r r) (some 48) rfl rfl (by kernel_rfl) (by kernel_rfl) (by kernel_rfl) (fun _ _ _ h => h) (yieldsIf_move (by kernel_rfl) rfl (by kernel_rfl)) S0 ?_
              refine held_take (i := 4) (v := .int .i64 (i0 : Int)) (some 49) rfl rfl (by kernel_rfl) (by kernel_rfl) (by kernel_rfl) (fun _ _ _ h => h) (yieldsIf_move (by kernel_rfl) rfl (by kernel_rfl)) S0 ?_
              refine held_take (i := 5) (v := .pointer (some ⟨g, 0 + i0, none⟩)) (some 50) rfl rfl (by kernel_rfl) (by kernel_rfl) (by kernel_rfl) (fun _ _ _ h => h) (yieldsIf_index (by kernel_rfl) rfl (by kernel_rfl) (by kernel_rfl) (hidxS g 0 r hlt2)) S0 ?_
              refine held_take (i := 6) (v := .slice (some ⟨b, 0, none⟩) c c) (some 51) rfl rfl (by kernel_rfl) (by kernel_rfl) (by kernel_rfl) (fun _ _ _ h => h) (yieldsIf_cell (by kernel_rfl) rfl (by kernel_rfl) (fun W h => hloadS W (HSQ.out W h.out).2.2.2)) S0 ?_
              refine held_take (i := 7) (v := .int .i64 (n : Int)) (some 52) rfl rfl (by kernel_rfl) (by kernel_rfl) (by kernel_rfl) (fun _ _ _ h => h) (yieldsIf_move (by kernel_rfl) rfl (by kernel_rfl)) S0 ?_
              refine held_take (i := 8) (v := .slice (some ⟨gi + 1 + i0, 0, none⟩) r r) (some 53) rfl rfl (by kernel_rfl) (by kernel_rfl) (by kernel_rfl) (fun _ _ _ h => h) (yieldsIf_move (by kernel_rfl) rfl (by kernel_rfl)) S0 ?_
              refine held_take (i := 9) (v := .agg #[.int .i64 (n : Int), .slice (some ⟨gi + 1 + i0, 0, none⟩) r r]) (some 54) rfl rfl (by kernel_rfl) (by kernel_rfl) (by kernel_rfl) (fun _ _ _ h => h) (yieldsIf_run (by kernel_rfl) (fun W _ => by kernel_rfl)) S0 ?_
              refine held_enter (i := 10) (some 55) (f := 76) (args := #[.agg #[.int .i64 (fc k), .slice (some ⟨bm, om, none⟩) (gl k).length cm], .int .i64 p, .slice (some ⟨b, 0, none⟩) c c, .agg #[.int .i64 (n : Int), .slice (some ⟨gi + 1 + i0, 0, none⟩) r r]]) (by kernel_rfl) rfl rfl rfl (by kernel_rfl) HADD.out ?_ (fun c w' h => by cases h.1) (fun w' h => by cases h.1)
              rintro e5 w5 ⟨he5, hb5, hr5⟩
              injection he5 with he5
              subst he5
              have HBU5 : Hid (But b wq w5) := Lib.hid (S0.out.trans hb5)
              have HFN : Hid (FamT w5 G ds.length ds.length f gs (rsF ds) (csF ds2 s) (spZ p fc V np n i0 (k + 1))) := Lib.hid ((HFQ.out.put (n := n) (i := i0) hlt (by rw [← HR.out]; exact hlt2) (y := fun q => addMod p (fc k) (spZ p fc V np n i0 k n i0 q) ((V n i0 k).getD q 0)) (by rw [← HG.out, ← hb]; exact HBU5.out) (by rw [← HG.out, ← hb, ← HC.out]; exact hr5)).congr (fun n2 _ j _ q _ => spZ_put p fc V np n i0 k n2 j q))
              have HUN : Hid (Tb w5 gi r r (fun j i => if i = j then 1 else 0)) := Lib.hid (HUQ.out.but HBU5.out (Or.inl hbb2))
              have HBN : Hid (Below w1.heap.size w1 w5) := Lib.hid (HBQ.out.trans (HBU5.out.below HBQ.out.size (by omega)))
              refine ⟨HBU5, ?_⟩
              refine wpAnyH_done (by kernel_rfl) ?_ _
              simp only [Act.put, List.setIfInBounds_toArray, List.set_cons_zero, List.set_cons_succ]
              clear hb5 hr5 S0 HSQ HADD hwq hb hbb1 hbb2 hbb3 hgz q0 q1
              go_wp2
              go_roundw
              case rel => exact ⟨k + 1, by omega, by go_num, HBN, HFN, HUN⟩
              case measure => simp [intOf]; omega
            · have hke : k = np := by omega
              have HFN : Hid (FamT wz G ds.length ds.length f gs (rsF ds) (csF ds2 s) (spZ p fc V np n (i0 + 1) 0)) := Lib.hid (HF5.out.congr (fun n2 _ j _ q _ => by rw [hke]; exact spZ_row p fc V np n i0 n2 j q))
              clear hke
              go_wp2
              go_roundw
              case rel => exact ⟨i0 + 1, by omega, by go_num, HB5, HFN, HU5⟩
              case measure => simp [intOf]; omega
        · have hie : i0 = r := by omega
          have HFN : Hid (FamT wy G ds.length ds.length f gs (rsF ds) (csF ds2 s) (spZ p fc V np (n + 1) 0 0)) := Lib.hid (HF4.out.congr (fun n2 _ j hj q _ => by rw [hie]; exact spZ_tab p fc V np n r n2 j q (fun e => by rw [HR.out, ← e]; exact hj)))
          clear hie
          go_wp2
          go_roundw
          case rel => exact ⟨n + 1, by omega, by go_num, HB4, HFN⟩
          case measure => simp [intOf]; omega
    · have hne : n = ds.length := by omega
      have HXX := Lib.hid (HX0.out.next HB.out)
      have HRW : Hid (Rw3 w.heap.size wx.heap.size wx (.slice (some ⟨G, 0, none⟩) ds.length ds.length) (famL ds.length (rsF ds) (csF ds2 s) fun n i q => pS p fc (V n i) q np)) := Lib.hid (by
        have h1 := HFR.out.congr (Z' := fun n i q => pS p fc (V n i) q np) (fun n2 hn2 j _ q _ => spZ_all p fc V np n n2 j q (by omega))
        refine h1.rw3 (by omega) (by omega) (fun j hj => ⟨?_, ?_⟩)
        · simp only [rsF]; have := HCX.out.1.dim j; omega
        · simp only [csF]; have := dimZ_8 HCY.out ((j : Int) + s); omega)
      clear hne
      go_wp2
      go_ret
      exact ⟨_, rfl, HRW.out, HXX.out.below⟩
end Go.Proofs.YtpdkfidmmjlmnabDoor


namespace Go.Proofs.YtpdkfidmmjlmnabDoor
open Go.RowKit

theorem unitL_length (d i : Nat) : (unitL d i).length = d := by simp [unitL]
theorem unitL_getD {d i k : Nat} (hk : k < d) : (unitL d i).getD k 0 = if k = i then 1 else 0 := by
  rw [getD_of_lt _ (by rw [unitL_length]; exact hk)]
  simp [unitL]
theorem unitL_ok {p : Int} (hp : 2 ≤ p) (d i : Nat) : ∀ x ∈ unitL d i, 0 ≤ x ∧ x ≤ p - 1 := fun x hx => by
  obtain ⟨q, _, rfl⟩ := List.mem_map.1 hx
  split <;> omega
theorem unit_apOk {p c : Int} {cn d i : Nat} {t : List (List Int)} (hp : IsP p) (hc : c = (cn : Int)) (ht : TabOk p (d : Int) c t) : ApOk p cn (unitL d i) t := by
  refine ⟨hp, ?_, unitL_ok hp.lo d i, fun r hr => by have := ht.2 r hr; rwa [hc] at this⟩
  rw [unitL_length]
  have := ht.1
  omega
theorem unit_apTo {p : Int} {c d i : Nat} {t : List (List Int)} (ok : ApOk p c (unitL d i) t) (hi : i < d) : ∀ k, k ≤ d → ∀ q, q < c → (apTo p c (unitL d i) t k).getD q 0 = if k ≤ i then 0 else (t.getD i []).getD q 0 := by
  intro k
  induction k with
  | zero => intro _ q hq; simp [apTo, hq]
  | succ k ih =>
    intro hk q hq
    have hkl : k < (unitL d i).length := by rw [unitL_length]; omega
    rw [apTo_at ok hkl hq, ih (by omega) q hq, unitL_getD (by omega)]
    have hp := ok.prime.lo
    have hrow := ok.row hkl
    have hil : i < (unitL d i).length := by rw [unitL_length]; omega
    have hri := ok.row hil
    have hb : 0 ≤ (t.getD i []).getD q 0 ∧ (t.getD i []).getD q 0 ≤ p - 1 := by
      have hl : q < (t.getD i []).length := by have := hri.1; omega
      rw [getD_of_lt _ hl]
      exact hri.2 _ (List.getElem_mem hl)
    by_cases e : k = i
    · subst e
      rw [if_pos (Nat.le_refl _), if_pos rfl, if_neg (by omega), Int.zero_add, Int.one_mul]
      exact Int.emod_eq_of_lt hb.1 (by omega)
    · rw [if_neg e, Int.zero_mul, Int.add_zero]
      by_cases e2 : k < i
      · rw [if_pos (by omega), if_pos (by omega), Int.zero_emod]
      · rw [if_neg (by omega), if_neg (by omega)]
        exact Int.emod_eq_of_lt hb.1 (by omega)
theorem unit_apT {p : Int} {c d i : Nat} {t : List (List Int)} (ok : ApOk p c (unitL d i) t) (hi : i < d) : apT p c (unitL d i) t = t.getD i [] := by
  have hil : i < (unitL d i).length := by rw [unitL_length]; omega
  have hri := ok.row hil
  have hl : (apT p c (unitL d i) t).length = c := apTo_length ok (Nat.le_refl _)
  refine List.ext_getElem (by rw [hl]; have := hri.1; omega) fun q h1 h2 => ?_
  have hq : q < c := by omega
  have := unit_apTo ok hi d (Nat.le_refl _) q hq
  rw [if_neg (by omega)] at this
  rw [← getD_of_lt 0 h1, ← getD_of_lt 0 h2, ← this]
  simp only [apT, unitL_length]

/-- A family's map leads as its tables say. -/
theorem led_of {p2 : Int} {n c2 : Nat} {dv2 mv2 fv : Value} {ds2 : List Int} {ms2 fs : List (List (List Int))} {vs : List Int} {w : World} (h2 : Cx 0 w dv2 mv2 ds2 ms2) (hf : L3 0 w fv fs) (hcy : IsCx p2 ds2 ms2) (hn : n < fs.length) (hnb : n ≤ 100) (hc2 : dimZ ds2 (n : Int) = (c2 : Int)) (ok : ApOk p2 c2 vs (fs.getD n [])) (hmf : fs.length ≤ 1048576) (hmv : vs.length ≤ 1048576) :
    Led w (.agg #[.int .i64 p2, dv2, mv2, .int .i64 0, fv]) (n : Int) vs (n : Int) (apT p2 c2 vs (fs.getD n [])) := fun W vv hb hv => by
  have h0 : (n : Int) + 0 = (n : Int) := Int.add_zero _
  have := lead_any p2 0 n c2 dv2 mv2 fv vv ds2 ms2 fs vs W (h2.below hb) (hf.below hb) hv hcy hn hnb (by omega) (by rw [h0]; exact hc2) ok hmf hmv
  rwa [h0] at this
theorem along_any (f : Int) (ad : Option Addr) (n c : Nat) (w : World) : Calls Tryd.prog 64 #[.int .i64 f, .slice ad n c] w (BR (.agg #[.int .i64 f, .slice ad n c]) w) := by
  have HRES : Hid (Tryd.f64.results = #[.cell 4 78]) := Lib.hid (by kernel_rfl)
  go_enter Tryd.func64, Tryd.ntmps64
  go_wp2
  refine bodyPost_ret (v := .agg #[.int .i64 f, .slice ad n c]) ?_ rfl ⟨rfl, ?_⟩
  · simp only [results, HRES.out]
    go_simp
  · first | exact below_alloc1 _ _ | exact (((Below.refl _ _).alloc (Nat.le_refl _) _).setCell (Nat.le_refl _) _).setCell (Nat.le_refl _) _

theorem famL_congr {m : Nat} {rs cs : Nat → Nat} {Z Z' : Nat → Nat → Nat → Int} (h : ∀ n, n < m → ∀ i, i < rs n → ∀ q, q < cs n → Z n i q = Z' n i q) : famL m rs cs Z = famL m rs cs Z' := by
  unfold famL
  refine List.map_congr_left fun n hn => ?_
  unfold tableOf
  refine List.map_congr_left fun i hi => List.map_congr_left fun q hq => ?_
  exact h n (List.mem_range.1 hn) i (List.mem_range.1 hi) q (List.mem_range.1 hq)
theorem fam_row {p s : Int} {ds ds2 : List Int} {fs : List (List (List Int))} (hF : FamOk p ds ds2 s fs) {n i : Nat} (hn : n < ds.length) (hi : i < rsF ds n) (hds : 0 ≤ ds.getD n 0) (hc0 : 0 ≤ dimZ ds2 ((n : Int) + s)) :
    n < fs.length ∧ TabOk p (rsF ds n : Int) (csF ds2 s n : Int) (fs.getD n []) ∧ i < (fs.getD n []).length ∧ RowOk p (csF ds2 s n : Int) ((fs.getD n []).getD i []) := by
  have hl : n < fs.length := by have := hF.1; omega
  have e1 : (rsF ds n : Int) = ds.getD n 0 := by simp only [rsF]; omega
  have e2 : (csF ds2 s n : Int) = dimZ ds2 ((n : Int) + s) := by simp only [csF]; omega
  have ht := hF.2 n hl
  rw [← e1, ← e2] at ht
  have hil : i < (fs.getD n []).length := by have := ht.1; omega
  refine ⟨hl, ht, hil, ?_⟩
  rw [getD_of_lt _ hil]
  exact ht.2 _ (List.getElem_mem hil)
theorem chain_of {p : Int} {n i : Nat} {dv2 mv2 fv : Value} {ds : List Int} {ms : List (List (List Int))} {ds2 : List Int} {ms2 fs : List (List (List Int))} {w : World} (h2 : Cx 0 w dv2 mv2 ds2 ms2) (hf : L3 0 w fv fs) (hcx : IsCx p ds ms) (hcy : IsCx p ds2 ms2) (hF : FamOk p ds ds2 0 fs) (hn : n < ds.length) (hi : i < rsF ds n) :
    Led w (.agg #[.int .i64 p, dv2, mv2, .int .i64 0, fv]) (n : Int) (unitL (rsF ds n) i) (n : Int) ((fs.getD n []).getD i []) := by
  have hl6 := hcx.1.len1
  have hz := dimZ_8 hcy ((n : Int) + 0)
  obtain ⟨h1, h3, h4, h5⟩ := fam_row hF hn hi (hcx.1.dim n).1 hz.1
  have ok := unit_apOk (i := i) hcx.1.prime (cn := csF ds2 0 n) rfl h3
  have hd := hcx.1.dim n
  have := led_of (n := n) (c2 := csF ds2 0 n) h2 hf hcy h1 (by omega) (by have h0 : (n : Int) + 0 = (n : Int) := Int.add_zero _; simp only [csF]; rw [h0] at hz ⊢; omega) ok (by have := hF.1; omega) (by rw [unitL_length]; simp only [rsF]; omega)
  rwa [unit_apT ok hi] at this
end Go.Proofs.YtpdkfidmmjlmnabDoor


namespace Go.Proofs.YtpdkfidmmjlmnabDoor
open Go.RowKit

theorem dimZ_neg {ds : List Int} {n : Int} (h : n < 0) : dimZ ds n = 0 := by
  unfold dimZ
  rw [if_neg (by omega)]
theorem dimZ_out {ds : List Int} {n : Int} (h : ¬ (0 ≤ n ∧ n ≤ (ds.length : Int) - 1)) : dimZ ds n = 0 := if_neg h
theorem dimZ_in {ds : List Int} {n : Int} {k : Nat} (e : n = (k : Int)) (h : k < ds.length) : dimZ ds n = ds[k] := by
  unfold dimZ
  rw [if_pos (by omega), e, Int.toNat_natCast, getD_of_lt _ h]
end Go.Proofs.YtpdkfidmmjlmnabDoor


namespace Go.Proofs.YtpdkfidmmjlmnabDoor
open Go.RowKit

section
variable {p : Int} {ds : List Int} {ms fs : List (List (List Int))}
theorem PreOk.dsOk (h : PreOk p ds ms) : DsOk ds := ⟨h.len1, h.dims⟩
theorem cyc_tabP (h : PreOk p ds ms) {i : Nat} (hi : i < ds.length) : TabOk p (ds.getD i 0) (dimZ ds ((i : Int) + (-1))) (cycT ds ms i) := by
  have hd := h.dim i
  cases i with
  | zero =>
    have e : dimZ ds (((0 : Nat) : Int) + (-1)) = 0 := dimZ_neg (by omega)
    rw [e, cycT_zero ds ms hi]
    refine ⟨?_, fun r hr => ?_⟩
    · rw [List.length_replicate]
      unfold dimN
      simp only [Int.toNat_natCast]
      omega
    · rw [(List.mem_replicate.1 hr).2]
      exact ⟨rfl, fun x hx => absurd hx (by simp)⟩
  | succ k =>
    have hk : k < ms.length := by have := h.mlen; omega
    rw [cycT_succP h hi, show (((k + 1 : Nat) : Int) + (-1)) = (k : Int) by omega, dimZ_in rfl (show k < ds.length by omega), ← getD_of_lt 0 (show k < ds.length by omega)]
    exact h.tabs k hk
theorem dfL_len (ds : List Int) (ms : List (List (List Int))) : (dfL ds ms).length = ds.length := by simp [dfL]
theorem dfL_get {i : Nat} (hi : i < ds.length) : (dfL ds ms).getD i [] = cycT ds ms i := by
  rw [getD_of_lt _ (by rw [dfL_len]; exact hi)]
  simp [dfL]
theorem dfL_fam (h : PreOk p ds ms) : FamOk p ds ds (-1) (dfL ds ms) := by
  refine ⟨dfL_len _ _, fun n hn => ?_⟩
  rw [dfL_len] at hn
  rw [dfL_get hn]
  exact cyc_tabP h hn
end

theorem led_df {p : Int} {n i : Nat} {dv2 mv2 fv : Value} {ds : List Int} {ms : List (List (List Int))} {w : World} (h2 : Cx 0 w dv2 mv2 ds ms) (hf : L3 0 w fv (dfL ds ms)) (hcx : PreOk p ds ms) (hn : n < ds.length) (hi : i < rsF ds n) :
    Led w (.agg #[.int .i64 p, dv2, mv2, .int .i64 (-1), fv]) (n : Int) (unitL (rsF ds n) i) ((n : Int) + (-1)) (((dfL ds ms).getD n []).getD i []) := fun W vv hb hv => by
  have hz := hcx.dsOk.dimZ ((n : Int) + (-1))
  obtain ⟨h1, h3, h4, h5⟩ := fam_row (dfL_fam hcx) hn hi (hcx.dim n).1 hz.1
  have ok := unit_apOk (i := i) hcx.prime (cn := csF ds (-1) n) rfl h3
  have hd := hcx.dim n
  have hl6 := hcx.len1
  have := leadD_any p (-1) n (csF ds (-1) n) dv2 mv2 fv vv ds ms (dfL ds ms) (unitL (rsF ds n) i) W (h2.below hb) (hf.below hb) hv hcx.dsOk h1 (by omega) (by omega) (by simp only [csF]; omega) ok (by rw [dfL_len]; omega) (by rw [unitL_length]; simp only [rsF]; omega)
  rwa [unit_apT ok hi] at this
theorem df_vec {p : Int} {n i : Nat} {ds : List Int} {ms : List (List (List Int))} (hcx : PreOk p ds ms) (hn : n < ds.length) (hi : i < rsF ds n) :
    (((dfL ds ms).getD n []).getD i []).length = csF ds (-1) n ∧ ∀ y ∈ ((dfL ds ms).getD n []).getD i [], 0 ≤ y ∧ y ≤ 6 := by
  obtain ⟨_, _, _, h5⟩ := fam_row (dfL_fam hcx) hn hi (hcx.dim n).1 (hcx.dsOk.dimZ ((n : Int) + (-1))).1
  have hp := hcx.prime.hi
  refine ⟨by have := h5.1; omega, fun y hy => ?_⟩
  have := h5.2 y hy
  omega

end Go.Proofs.YtpdkfidmmjlmnabDoor


namespace Go.Proofs.YtpdkfidmmjlmnabDoor
open Go.RowKit

set_option maxHeartbeats 3200000 in
set_option maxRecDepth 100000 in
theorem leadX_any (p2 s x : Int) (c2 : Nat) (dv2 mv2 fv vv : Value) (ds2 : List Int) (ms2 fs : List (List (List Int))) (vs : List Int) (w : World) (h2 : Cx 0 w dv2 mv2 ds2 ms2) (hf : L3 0 w fv fs) (hv : L1 0 w vv vs) (hcy : DsOk ds2) (hn : ¬ (0 ≤ x ∧ x ≤ (fs.length : Int) - 1)) (hnb : -1 ≤ x ∧ x ≤ 100) (hs : -1 ≤ s ∧ s ≤ 1) (hc2 : dimZ ds2 (x + s) = (c2 : Int)) (ok : ApOk p2 c2 vs []) (hmf : fs.length ≤ 1048576) (hmv : vs.length ≤ 1048576) :
    Calls Tryd.prog 66 #[.agg #[.int .i64 p2, dv2, mv2, .int .i64 s, fv], .agg #[.int .i64 x, vv]] w (LeadR (x + s) (apT p2 c2 vs []) w) := by
  obtain ⟨ad2, cap2, rfl⟩ := Sl.shape h2.dims
  obtain ⟨am2, capm2, rfl⟩ := Sl.shape h2.maps
  obtain ⟨af, cf, rfl⟩ := Sl.shape hf
  obtain ⟨av, cv, rfl⟩ := Sl.shape hv
  obtain ⟨wa, hwa⟩ : ∃ wa, wa = w.alloc (.cells #[.int .i64 p2, .slice ad2 ds2.length cap2, .slice am2 ms2.length capm2, .int .i64 s, .slice af fs.length cf] 74) := ⟨_, rfl⟩
  have hba : Below w.heap.size w wa := by rw [hwa]; exact below_alloc1 _ _
  have hsa : wa.heap.size = w.heap.size + 1 := by rw [hwa]; simp
  have a0 : wa.cell? ⟨w.heap.size, 0, none⟩ = some (.int .i64 p2) := by rw [hwa]; simp
  have a1 : wa.cell? ⟨w.heap.size, 1, none⟩ = some (.slice ad2 ds2.length cap2) := by rw [hwa]; simp
  have a2 : wa.cell? ⟨w.heap.size, 2, none⟩ = some (.slice am2 ms2.length capm2) := by rw [hwa]; simp
  have a3 : wa.cell? ⟨w.heap.size, 3, none⟩ = some (.int .i64 s) := by rw [hwa]; simp
  have a4 : wa.cell? ⟨w.heap.size, 4, none⟩ = some (.slice af fs.length cf) := by rw [hwa]; simp
  obtain ⟨wb, hwb⟩ : ∃ wb, wb = wa.alloc (.cells #[.int .i64 x, .slice av vs.length cv] 92) := ⟨_, rfl⟩
  have hbb : Below wa.heap.size wa wb := by rw [hwb]; exact below_alloc1 _ _
  have hsb : wb.heap.size = w.heap.size + 2 := by rw [hwb]; simp [hsa]
  have b0 : wb.cell? ⟨wa.heap.size, 0, none⟩ = some (.int .i64 x) := by rw [hwb]; simp
  have b1 : wb.cell? ⟨wa.heap.size, 1, none⟩ = some (.slice av vs.length cv) := by rw [hwb]; simp
  obtain ⟨w1, hw1a⟩ : ∃ w1, w1 = wb.alloc (.cells #[.int .i64 0, .slice none 0 0] 92) := ⟨_, rfl⟩
  have hbc : Below wb.heap.size wb w1 := by rw [hw1a]; exact below_alloc1 _ _
  have hsz : w.heap.size + 3 = w1.heap.size := by rw [hw1a]; simp [hsb]
  have ht1 : w1.there (w.heap.size + 2) 0 2 := by
    rw [← hsb, hw1a]
    exact there_new wb #[.int .i64 0, .slice none 0 0] 92 (n := 2) (by simp)
  have hw1 : w1 = (((w.alloc (.cells #[.int .i64 p2, .slice ad2 ds2.length cap2, .slice am2 ms2.length capm2, .int .i64 s, .slice af fs.length cf] 74)).alloc (.cells #[.int .i64 x, .slice av vs.length cv] 92)).alloc (.cells #[.int .i64 0, .slice none 0 0] 92)) := by rw [hw1a, hwb, hwa]
  have hb1 : Below w.heap.size w w1 := (hba.trans (hbb.mono (by omega))).trans (hbc.mono (by omega))
  have hab : Below wa.heap.size wa w1 := hbb.trans (hbc.mono (by omega))
  have g0 := later hab (Nat.le_refl _) a0
  have g1 := later hab (Nat.le_refl _) a1
  have g2 := later hab (Nat.le_refl _) a2
  have g3 := later hab (Nat.le_refl _) a3
  have g4 := later hab (Nat.le_refl _) a4
  have e0 := later hbc (Nat.le_refl _) b0
  have e1 := later hbc (Nat.le_refl _) b1
  rw [hsa] at e0 e1
  clear a0 a1 a2 a3 a4 b0 b1 hbb hbc hab hba hsa hsb hwa hwb hw1a
  have HB1 := Lib.hid hb1
  have HY1 := Lib.hid (h2.below hb1)
  have HF1 := Lib.hid (hf.below hb1)
  have HV1 := Lib.hid (hv.below hb1)
  have HOK := Lib.hid ok
  have HT1 := Lib.hid ht1
  have hl7 := hcy.len1
  have hc28 : c2 ≤ 8 := by have := hcy.dimZ (x + s); omega
  obtain ⟨hs0, hs1⟩ := hs
  have HDA : Hid (∀ W, Below w1.heap.size w1 W → Calls Tryd.prog 40 #[.agg #[.int .i64 p2, .slice ad2 ds2.length cap2, .slice am2 ms2.length capm2], .int .i64 (x + s)] W (BR (.int .i64 (c2 : Int)) W)) := Lib.hid (fun W h => by
    have := dimAt_any p2 (x + s) _ _ ds2 ms2 W (HY1.out.below h) (by omega)
    rwa [hc2] at this)
  have HAP : Hid (∀ W, Below w1.heap.size w1 W → Calls Tryd.prog 77 #[.int .i64 p2, .slice av vs.length cv, .slice none 0 0, .int .i64 (c2 : Int)] W (ApW p2 c2 vs [] W)) := Lib.hid (fun W h => applyTablew_any p2 c2 _ _ vs _ W HOK.out (HV1.out.below h) (Or.inl ⟨rfl, _, _, rfl⟩) hmv (by omega))
  have HIN : Hid (∀ W, Calls Tryd.prog 55 #[.int .i64 x, .int .i64 0, .int .i64 ((fs.length : Int) - 1)] W (QW (.bool false) W)) := Lib.hid (fun W => in_no hn W)
  have hwk : IntKind.i64.wrap (x + s) = x + s := IntWalk.i64_in _ (by omega)
  have HRES : Hid (Tryd.f66.results = #[.cell 4 92]) := Lib.hid (by kernel_rfl)
  have HIE : Hid ((Tryd.prog.info? 92).map (·.size) = some 2) := Lib.hid (by kernel_rfl)
  clear h2 hf hv hcy hc2 ok hb1 ht1
  go_enter Tryd.func66, Tryd.ntmps66
  go_upto_region 1 with fail
  rw [← hw1]
  clear hw1
  go_wp2_with fail
  refine (HIN.out _).mono ?_
  rintro e w' ⟨rfl, rfl⟩
  clear HIN hn
  go_upto_region 5 with fail
  have S0 : Hid (Below w1.heap.size w1 w1.drew) := Lib.hid (Below.refl _ _).drew
  refine wp_region_last (fun W => Hid (Below w1.heap.size w1 W)) 13 (by kernel_rfl) rfl (by kernel_rfl) ?_
  refine held_take (i := 0) (v := .int .i64 (x + s)) (some 25) rfl rfl (by kernel_rfl) (by kernel_rfl) (by kernel_rfl) (fun _ _ _ h => h) (yieldsIf_move (by kernel_rfl) rfl (by kernel_rfl)) S0 ?_
  refine held_take (i := 1) (v := .pointer (some ⟨w.heap.size, 0, none⟩)) (some 26) rfl rfl (by kernel_rfl) (by kernel_rfl) (by kernel_rfl) (fun _ _ _ h => h) (yieldsIf_run (by kernel_rfl) (fun W _ => by kernel_rfl)) S0 ?_
  refine held_take (i := 2) (v := .pointer (some ⟨w.heap.size, 0, none⟩)) (some 27) rfl rfl (by kernel_rfl) (by kernel_rfl) (by kernel_rfl) (fun _ _ _ h => h) (yieldsIf_run (by kernel_rfl) (fun W _ => by kernel_rfl)) S0 ?_
  refine held_take (i := 3) (v := .int .i64 p2) (some 28) rfl rfl (by kernel_rfl) (by kernel_rfl) (by kernel_rfl) (fun _ _ _ h => h) (yieldsIf_cell (by kernel_rfl) rfl (by kernel_rfl) (fun W h => hload W (later h.out (Nat.le_refl _) g0))) S0 ?_
  refine held_take (i := 4) (v := .pointer (some ⟨w.heap.size + 1, 1, none⟩)) (some 29) rfl rfl (by kernel_rfl) (by kernel_rfl) (by kernel_rfl) (fun _ _ _ h => h) (yieldsIf_run (by kernel_rfl) (fun W _ => by kernel_rfl)) S0 ?_
  refine held_take (i := 5) (v := .slice av vs.length cv) (some 30) rfl rfl (by kernel_rfl) (by kernel_rfl) (by kernel_rfl) (fun _ _ _ h => h) (yieldsIf_cell (by kernel_rfl) rfl (by kernel_rfl) (fun W h => hloadS W (later h.out (Nat.le_refl _) e1))) S0 ?_
  refine held_take (i := 6) (v := .slice none 0 0) (some 31) rfl rfl (by kernel_rfl) (by kernel_rfl) (by kernel_rfl) (fun _ _ _ h => h) (yieldsIf_move (by kernel_rfl) rfl (by kernel_rfl)) S0 ?_
  refine held_take (i := 7) (v := .pointer (some ⟨w.heap.size, 0, none⟩)) (some 32) rfl rfl (by kernel_rfl) (by kernel_rfl) (by kernel_rfl) (fun _ _ _ h => h) (yieldsIf_run (by kernel_rfl) (fun W _ => by kernel_rfl)) S0 ?_
  refine held_take (i := 8) (v := .agg #[.int .i64 p2, .slice ad2 ds2.length cap2, .slice am2 ms2.length capm2]) (some 33) rfl rfl (by kernel_rfl) (by kernel_rfl) (by kernel_rfl) (fun _ _ _ h => h) (yieldsIf_cell (by kernel_rfl) rfl (by kernel_rfl) (fun W h => hloadC W (later h.out (Nat.le_refl _) g0) (later h.out (Nat.le_refl _) g1) (later h.out (Nat.le_refl _) g2))) S0 ?_
  refine held_take (i := 9) (v := .int .i64 (x + s)) (some 34) rfl rfl (by kernel_rfl) (by kernel_rfl) (by kernel_rfl) (fun _ _ _ h => h) (yieldsIf_move (by kernel_rfl) rfl (by kernel_rfl)) S0 ?_
  refine held_enter (i := 10) (some 35) (f := 40) (args := #[.agg #[.int .i64 p2, .slice ad2 ds2.length cap2, .slice am2 ms2.length capm2], .int .i64 (x + s)]) (by kernel_rfl) rfl rfl rfl (by kernel_rfl) (HDA.out _ S0.out) ?_ (fun c w' h => by cases h.1) (fun w' h => by cases h.1)
  rintro e4 W4 ⟨he4, hb4⟩
  injection he4 with he4
  subst he4
  have S1 : Hid (Below w1.heap.size w1 W4) := Lib.hid (S0.out.trans hb4)
  refine ⟨S1, ?_⟩
  clear hb4
  refine held_enter (i := 11) (some 36) (f := 77) (args := #[.int .i64 p2, .slice av vs.length cv, .slice none 0 0, .int .i64 (c2 : Int)]) (by kernel_rfl) rfl rfl rfl (by kernel_rfl) (HAP.out _ S1.out) ?_ (fun c w' h => by obtain ⟨_, h, _⟩ := h; cases h) (fun w' h => by obtain ⟨_, h, _⟩ := h; cases h)
  rintro e5 W5 ⟨u5, he5, hw5, hb5⟩
  injection he5 with he5
  subst he5
  have S2 : Hid (Below w1.heap.size w1 W5) := Lib.hid (S1.out.trans (hb5.mono S1.out.size))
  have HW5 := Lib.hid hw5
  have hs4 : w1.heap.size ≤ W4.heap.size := S1.out.size
  obtain ⟨au, cu, hus⟩ := Sl.shape hw5.l1
  rw [apT_length' HOK.out] at hus
  subst hus
  refine ⟨S2, ?_⟩
  clear hb5 hw5
  refine held_take (i := 12) (v := .agg #[.int .i64 (x + s), .slice au c2 cu]) (some 37) rfl rfl (by kernel_rfl) (by kernel_rfl) (by kernel_rfl) (fun _ _ _ h => h) (yieldsIf_run (by kernel_rfl) (fun W _ => by kernel_rfl)) S2 ?_
  refine held_none (i := 13) (v := .bool false) rfl rfl (by kernel_rfl) (by kernel_rfl) (by kernel_rfl) (fun _ _ _ h => h) (yieldsIf_move (by kernel_rfl) rfl (by kernel_rfl)) S2 ?_
  have hth : W5.there (w.heap.size + 2) 0 (#[.int .i64 (x + s), .slice au c2 cu] : Array Value).size := there_below HT1.out S2.out (by omega)
  have x0 := hth 0 (by simp)
  have x1 := hth 1 (by simp)
  refine wpAnyH_done (by kernel_rfl) (lastQ_store rfl (by kernel_rfl) (by kernel_rfl) 92 (.tmp 4) (.tmp 37) (by kernel_rfl) (w.heap.size + 2) 0 #[.int .i64 (x + s), .slice au c2 cu] (by kernel_rfl) (by kernel_rfl) hth HIE.out (by kernel_rfl) ?_) _
  simp only [Act.put, List.setIfInBounds_toArray, List.set_cons_zero, List.set_cons_succ]
  obtain ⟨W6, hW6⟩ : ∃ W6, W6 = W5.setCells (w.heap.size + 2) 0 [.int .i64 (x + s), .slice au c2 cu] := ⟨_, rfl⟩
  have h6 : W6 = (W5.setCell ⟨w.heap.size + 2, 0, none⟩ (.int .i64 (x + s))).setCell ⟨w.heap.size + 2, 1, none⟩ (.slice au c2 cu) := by rw [hW6]; rfl
  have HB6 : Hid (Below w.heap.size w W6) := Lib.hid (by
    rw [h6]
    exact (((HB1.out.trans (S2.out.mono HB1.out.size))).setCell (by show w.heap.size ≤ w.heap.size + 2; omega) _).setCell (by show w.heap.size ≤ w.heap.size + 2; omega) _)
  have HW6 : Hid (W1 w.heap.size W6.heap.size W6 (.slice au c2 cu) (apT p2 c2 vs [])) := Lib.hid (by
    have hs6 : W6.heap.size = W5.heap.size := by rw [h6]; simp
    rw [hs6]
    refine (HW5.out.same ?_).wider (by omega) (Nat.le_refl _)
    rw [h6]
    exact (Same.set _ (Or.inl (by omega))).trans (Same.set _ (Or.inl (by omega))))
  obtain ⟨y0, hy0⟩ := Option.isSome_iff_exists.1 x0.1
  obtain ⟨y1, hy1⟩ := Option.isSome_iff_exists.1 x1.1
  have f0 : W6.cell? ⟨w.heap.size + 2, 0, none⟩ = some (.int .i64 (x + s)) := by
    rw [h6, World.cell?_setCell_other _ _ _ _ (by simp)]
    exact World.cell?_setCell_same _ _ _ hy0
  have f1 : W6.cell? ⟨w.heap.size + 2, 1, none⟩ = some (.slice au c2 cu) := by
    rw [h6]
    exact World.cell?_setCell_same _ _ _ (by rw [World.cell?_setCell_other _ _ _ _ (by simp)]; exact hy1)
  rw [← hW6]
  clear hW6 h6 hy0 hy1 x0 x1 hth S0 S1 S2 g0 g1 g2 g3 g4 e0 e1 hwk
  go_wp2
  refine bodyPost_ret (v := .agg #[.int .i64 (x + s), .slice au c2 cu]) ?_ rfl ⟨.slice au c2 cu, rfl, HW6.out, HB6.out⟩
  simp only [results, HRES.out]
  go_simp
end Go.Proofs.YtpdkfidmmjlmnabDoor


namespace Go.Proofs.YtpdkfidmmjlmnabDoor
open Go.RowKit

section
variable {p : Int} {ds ds2 : List Int} {ms ms2 fs : List (List (List Int))}
/-- The table below number n of a family. -/
def prevT (fs : List (List (List Int))) (n : Nat) : List (List Int) := if n = 0 then [] else fs.getD (n - 1) []
/-- The differential of a basis vector, led by the family. -/
def chA (p : Int) (ds : List Int) (ms : List (List (List Int))) (ds2 : List Int) (fs : List (List (List Int))) (n i : Nat) : List Int := apT p (csF ds2 (-1) n) (((dfL ds ms).getD n []).getD i []) (prevT fs n)
/-- The differential of what the family makes of a basis vector. -/
def chB (p : Int) (ds2 : List Int) (ms2 fs : List (List (List Int))) (n i : Nat) : List Int := apT p (csF ds2 (-1) n) ((fs.getD n []).getD i []) ((dfL ds2 ms2).getD n [])
def ChainOk (p : Int) (ds : List Int) (ms : List (List (List Int))) (ds2 : List Int) (ms2 fs : List (List (List Int))) : Prop := ∀ n, n < ds.length → ∀ i, i < rsF ds n → chA p ds ms ds2 fs n i = chB p ds2 ms2 fs n i
def chZ (p : Int) (ds : List Int) (ms : List (List (List Int))) (ds2 : List Int) (ms2 fs : List (List (List Int))) (n i q : Nat) : Int := ((chA p ds ms ds2 fs n i).getD q 0 + (p - 1) * (chB p ds2 ms2 fs n i).getD q 0) % p
theorem chA_ok (hcx : PreOk p ds ms) (hcy : PreOk p ds2 ms2) (hF : FamOk p ds ds2 0 fs) {n i : Nat} (hn : n < ds.length) (hi : i < rsF ds n) : ApOk p (csF ds2 (-1) n) (((dfL ds ms).getD n []).getD i []) (prevT fs n) := by
  obtain ⟨h1, h3, h4, h5⟩ := fam_row (dfL_fam hcx) hn hi (hcx.dim n).1 (hcx.dsOk.dimZ ((n : Int) + (-1))).1
  have hz := hcy.dsOk.dimZ ((n : Int) + (-1))
  by_cases h0 : n = 0
  · subst h0
    have e : csF ds (-1) 0 = 0 := by simp only [csF]; rw [dimZ_neg (by omega)]; rfl
    rw [e] at h5
    have e2 : ((dfL ds ms).getD 0 []).getD i [] = [] := List.eq_nil_of_length_eq_zero (by have := h5.1; omega)
    rw [e2]
    exact ⟨hcx.prime, by simp, by simp, by simp [prevT]⟩
  · have hn1 : n - 1 < ds.length := by omega
    have e1 : ((n - 1 : Nat) : Int) = (n : Int) + (-1) := by omega
    have hd : (csF ds (-1) n : Int) = ds.getD (n - 1) 0 := by
      have := hcx.dsOk.dimZ ((n : Int) + (-1))
      have e3 : dimZ ds ((n : Int) + (-1)) = ds.getD (n - 1) 0 := by
        rw [← e1, dimZ_in rfl hn1, ← getD_of_lt 0 hn1]
      simp only [csF]
      omega
    rw [hd] at h5
    have := (fam_ap (c2 := csF ds2 (-1) n) hcx.prime hF hn1 h5 (by rw [Int.add_zero, e1]; simp only [csF]; omega)).1
    unfold prevT
    rw [if_neg h0]
    exact this
theorem chB_ok (hcx : PreOk p ds ms) (hcy : PreOk p ds2 ms2) (hl : ds.length = ds2.length) (hF : FamOk p ds ds2 0 fs) {n i : Nat} (hn : n < ds.length) (hi : i < rsF ds n) : ApOk p (csF ds2 (-1) n) ((fs.getD n []).getD i []) ((dfL ds2 ms2).getD n []) ∧ n < (dfL ds2 ms2).length := by
  have hy := hcy.dsOk.dimZ ((n : Int) + 0)
  obtain ⟨_, _, _, h4⟩ := fam_row hF hn hi (hcx.dim n).1 hy.1
  have hn2 : n < ds2.length := by omega
  have h0 : (n : Int) + 0 = (n : Int) := Int.add_zero _
  have e2 : (csF ds2 0 n : Int) = ds2.getD n 0 := by
    have hd : dimZ ds2 (n : Int) = ds2.getD n 0 := by
      rw [dimZ_in rfl hn2, ← getD_of_lt 0 hn2]
    simp only [csF]
    rw [h0, hd] at hy ⊢
    omega
  rw [e2] at h4
  have hz := hcy.dsOk.dimZ ((n : Int) + (-1))
  exact fam_ap hcy.prime (dfL_fam hcy) hn2 h4 (by simp only [csF]; omega)
theorem sub_zero {a b : Int} (hp : IsP p) (ha : 0 ≤ a ∧ a ≤ p - 1) (hb : 0 ≤ b ∧ b ≤ p - 1) : (a + (p - 1) * b) % p = 0 ↔ a = b := by
  rcases hp with rfl | rfl | rfl | rfl <;> omega
theorem apT_num {c : Nat} {v : List Int} {t : List (List Int)} (ok : ApOk p c v t) (q : Nat) : 0 ≤ (apT p c v t).getD q 0 ∧ (apT p c v t).getD q 0 ≤ p - 1 := by
  have := apTo_mod ok (Nat.le_refl _) q
  have h1 := this.1
  have h2 := this.2
  simp only [apT]
  omega
theorem chain_iff (hcx : PreOk p ds ms) (hcy : PreOk p ds2 ms2) (hl : ds.length = ds2.length) (hF : FamOk p ds ds2 0 fs) : (∀ n, n < ds.length → ∀ i, i < rsF ds n → ∀ q, q < csF ds2 (-1) n → chZ p ds ms ds2 ms2 fs n i q = 0) ↔ ChainOk p ds ms ds2 ms2 fs := by
  refine forall_congr' fun n => forall_congr' fun hn => forall_congr' fun i => forall_congr' fun hi => ?_
  have oA := chA_ok hcx hcy hF hn hi
  have oB := (chB_ok hcx hcy hl hF hn hi).1
  constructor
  · intro h
    refine List.ext_getElem (by rw [show (chA p ds ms ds2 fs n i).length = _ from apT_length' oA, show (chB p ds2 ms2 fs n i).length = _ from apT_length' oB]) fun q h1 h2 => ?_
    have hq : q < csF ds2 (-1) n := by rw [show (chA p ds ms ds2 fs n i).length = _ from apT_length' oA] at h1; exact h1
    rw [← getD_of_lt 0 h1, ← getD_of_lt 0 h2]
    exact (sub_zero hcx.prime (apT_num oA q) (apT_num oB q)).1 (h q hq)
  · intro h q _
    exact (sub_zero hcx.prime (apT_num oA q) (apT_num oB q)).2 (by show (chA p ds ms ds2 fs n i).getD q 0 = (chB p ds2 ms2 fs n i).getD q 0; rw [h])
end

/-- The family leads the differential of a basis vector, also from below the degree 0. -/
theorem led_prev {p : Int} {n i : Nat} {dv2 mv2 fv : Value} {ds : List Int} {ms : List (List (List Int))} {ds2 : List Int} {ms2 fs : List (List (List Int))} {w : World} (h2 : Cx 0 w dv2 mv2 ds2 ms2) (hf : L3 0 w fv fs) (hcx : PreOk p ds ms) (hcy : PreOk p ds2 ms2) (hF : FamOk p ds ds2 0 fs) (hn : n < ds.length) (hi : i < rsF ds n) :
    Led w (.agg #[.int .i64 p, dv2, mv2, .int .i64 0, fv]) ((n : Int) + (-1)) (((dfL ds ms).getD n []).getD i []) ((n : Int) + (-1)) (chA p ds ms ds2 fs n i) := fun W vv hb hv => by
  have ok := chA_ok hcx hcy hF hn hi
  have hz := hcy.dsOk.dimZ ((n : Int) + (-1))
  have hl6 := hcx.len1
  have hfl := hF.1
  have hdf := df_vec hcx hn hi
  have hdl : (((dfL ds ms).getD n []).getD i []).length ≤ 1048576 := by rw [hdf.1]; have := hcx.dsOk.dimZ ((n : Int) + (-1)); simp only [csF]; omega
  have e0 : ((n : Int) + (-1)) + 0 = (n : Int) + (-1) := Int.add_zero _
  by_cases h0 : n = 0
  · subst h0
    have e1 : prevT fs 0 = [] := rfl
    rw [e1] at ok
    have := leadX_any p 0 (((0 : Nat) : Int) + (-1)) (csF ds2 (-1) 0) dv2 mv2 fv vv ds2 ms2 fs (((dfL ds ms).getD 0 []).getD i []) W (h2.below hb) (hf.below hb) hv hcy.dsOk (by omega) (by omega) (by omega) (by rw [e0]; simp only [csF]; omega) ok (by omega) hdl
    rw [e0] at this
    exact this
  · have e1 : prevT fs n = fs.getD (n - 1) [] := if_neg h0
    rw [e1] at ok
    have e2 : ((n - 1 : Nat) : Int) = (n : Int) + (-1) := by omega
    have := leadD_any p 0 (n - 1) (csF ds2 (-1) n) dv2 mv2 fv vv ds2 ms2 fs (((dfL ds ms).getD n []).getD i []) W (h2.below hb) (hf.below hb) hv hcy.dsOk (by omega) (by omega) (by omega) (by rw [e2, e0]; simp only [csF]; omega) ok (by omega) hdl
    rw [e2, e0] at this
    unfold chA
    rw [e1]
    exact this
theorem led_dy {p : Int} {n i : Nat} {dv2 mv2 uv : Value} {ds : List Int} {ms : List (List (List Int))} {ds2 : List Int} {ms2 fs : List (List (List Int))} {w : World} (h2 : Cx 0 w dv2 mv2 ds2 ms2) (hu : L3 0 w uv (dfL ds2 ms2)) (hcx : PreOk p ds ms) (hcy : PreOk p ds2 ms2) (hl : ds.length = ds2.length) (hF : FamOk p ds ds2 0 fs) (hn : n < ds.length) (hi : i < rsF ds n) :
    Led w (.agg #[.int .i64 p, dv2, mv2, .int .i64 (-1), uv]) (n : Int) ((fs.getD n []).getD i []) ((n : Int) + (-1)) (chB p ds2 ms2 fs n i) := fun W vv hb hv => by
  obtain ⟨ok, hn3⟩ := chB_ok hcx hcy hl hF hn hi
  have hz := hcy.dsOk.dimZ ((n : Int) + (-1))
  have hl6 := hcx.len1
  obtain ⟨_, _, _, h4⟩ := fam_row hF hn hi (hcx.dim n).1 (hcy.dsOk.dimZ ((n : Int) + 0)).1
  have hfl : ((fs.getD n []).getD i []).length ≤ 1048576 := by have := h4.1; have := hcy.dsOk.dimZ ((n : Int) + 0); simp only [csF] at *; omega
  exact leadD_any p (-1) n (csF ds2 (-1) n) dv2 mv2 uv vv ds2 ms2 (dfL ds2 ms2) ((fs.getD n []).getD i []) W (h2.below hb) (hu.below hb) hv hcy.dsOk hn3 (by omega) (by omega) (by simp only [csF]; omega) ok (by rw [dfL_len]; omega) hfl
theorem ap_vec {p : Int} {c : Nat} {v : List Int} {t : List (List Int)} (ok : ApOk p c v t) : (apT p c v t).length = c ∧ ∀ y ∈ apT p c v t, 0 ≤ y ∧ y ≤ 6 := by
  refine ⟨apT_length' ok, fun y hy => ?_⟩
  obtain ⟨q, hq, rfl⟩ := List.getElem_of_mem hy
  have := apT_num ok q
  rw [getD_of_lt 0 hq] at this
  have hp := ok.prime.hi
  omega
theorem chSum_any (p : Int) (bp ba bb : Nat) (dv mv dv2 mv2 fv uv vv : Value) (ds : List Int) (ms : List (List (List Int))) (ds2 : List Int) (ms2 fs : List (List (List Int))) (w : World) (h : Cx 0 w dv mv ds ms) (h2 : Cx 0 w dv2 mv2 ds2 ms2) (hf : L3 0 w fv fs) (hu : L3 0 w uv (dfL ds ms)) (hv : L3 0 w vv (dfL ds2 ms2)) (hcx : IsCx p ds ms) (hcy : IsCx p ds2 ms2) (hl : ds.length = ds2.length) (hF : FamOk p ds ds2 0 fs)
    (c0 : w.cell? ⟨bp, 0, none⟩ = some (.int .i64 1)) (c1 : w.cell? ⟨bp, 1, none⟩ = some (.slice (some ⟨ba, 0, none⟩) 2 2)) (c2 : w.cell? ⟨bp, 2, none⟩ = some (.int .i64 (p - 1))) (c3 : w.cell? ⟨bp, 3, none⟩ = some (.slice (some ⟨bb, 0, none⟩) 2 2))
    (ha0 : w.cell? ⟨ba, 0, none⟩ = some (.func (.func 66) #[.agg #[.int .i64 p, dv, mv, .int .i64 (-1), uv]] #[])) (ha1 : w.cell? ⟨ba, 1, none⟩ = some (.func (.func 66) #[.agg #[.int .i64 p, dv2, mv2, .int .i64 0, fv]] #[]))
    (hb0 : w.cell? ⟨bb, 0, none⟩ = some (.func (.func 66) #[.agg #[.int .i64 p, dv2, mv2, .int .i64 0, fv]] #[])) (hb1 : w.cell? ⟨bb, 1, none⟩ = some (.func (.func 66) #[.agg #[.int .i64 p, dv2, mv2, .int .i64 (-1), vv]] #[])) :
    Calls Tryd.prog 63 #[.agg #[.int .i64 p, dv, mv], .agg #[.int .i64 p, dv2, mv2], .int .i64 (-1), .slice (some ⟨bp, 0, none⟩) 2 2] w (Fam3R (famL ds.length (rsF ds) (csF ds2 (-1)) (chZ p ds ms ds2 ms2 fs)) w) := by
  have hp7 := hcx.1.prime.hi
  have hp2 := hcx.1.prime.lo
  have := sumOfPaths_any p p (-1) 2 bp 2 (fun j => if j = 0 then 1 else p - 1) (fun j => if j = 0 then [.agg #[.int .i64 p, dv, mv, .int .i64 (-1), uv], .agg #[.int .i64 p, dv2, mv2, .int .i64 0, fv]] else [.agg #[.int .i64 p, dv2, mv2, .int .i64 0, fv], .agg #[.int .i64 p, dv2, mv2, .int .i64 (-1), vv]]) (fun n i j => if j = 0 then chA p ds ms ds2 fs n i else chB p ds2 ms2 fs n i) dv mv dv2 mv2 ds ms ds2 ms2 w h h2 hcx hcy (by omega) ?_ ?_ (by omega) ?_ ?_
  · refine this.mono ?_
    rintro e w' ⟨u, rfl, hu, hb'⟩
    refine ⟨u, rfl, ?_, hb'⟩
    rwa [famL_congr (Z' := chZ p ds ms ds2 ms2 fs)] at hu
    intro n hn i hi q _
    simp [pS, addMod, chZ]
  · intro j hj
    by_cases e : j = 0
    · subst e
      refine ⟨_, c0, c1, ⟨ba, 0, 2, rfl, fun q hq => ?_⟩, by simp, by simp⟩
      match q, hq with
      | 0, _ => exact ha0
      | 1, _ => exact ha1
    · obtain rfl : j = 1 := by omega
      refine ⟨_, c2, c3, ⟨bb, 0, 2, rfl, fun q hq => ?_⟩, by simp, by simp⟩
      match q, hq with
      | 0, _ => exact hb0
      | 1, _ => exact hb1
  · intro j _
    show 0 ≤ (if j = 0 then (1 : Int) else p - 1) ∧ (if j = 0 then (1 : Int) else p - 1) ≤ 6
    split <;> omega
  · intro n hn i hi j _
    by_cases e : j = 0
    · subst e
      exact ⟨_, Chain.cons (led_df h hu hcx.1 hn hi) (Chain.cons (led_prev h2 hf hcx.1 hcy.1 hF hn hi) (Chain.nil _ _))⟩
    · simp only [if_neg e]
      exact ⟨_, Chain.cons (chain_of h2 hf hcx hcy hF hn hi) (Chain.cons (led_dy h2 hv hcx.1 hcy.1 hl hF hn hi) (Chain.nil _ _))⟩
  · intro n hn i hi j _
    by_cases e : j = 0
    · subst e
      exact ap_vec (chA_ok hcx.1 hcy.1 hF hn hi)
    · simp only [if_neg e]
      exact ap_vec (chB_ok hcx.1 hcy.1 hl hF hn hi).1
end Go.Proofs.YtpdkfidmmjlmnabDoor

