/-
  impl.tensorOf: its state, what its operations do to it.
-/
import Derived.Test.YtpdkfidmmjlmnaaTnd
import Derived.Test.YtpdkfidmmjlmnaaPth
import Derived.Test.YtpdkfidmmjlmnaaStx
namespace Go.Proofs.Ytpdkfidmmjlmnaa
open Go.RowKit

theorem Try.infoPP : (Try.prog.info? 149).map (fun i => (i.zero, i.size, i.bytes)) = some (some (.slice none 0 0), 1, 24) := by kernel_rfl
theorem Try.underlyingPP : Try.prog.underlying 107 = some (.slice 149) := by kernel_rfl
theorem infoTs (y0 y1 y2 y3 y4 y5 y6 y7 : Value) : (Try.prog.info? 110).map (·.size) = some (#[y0, y1, y2, y3, y4, y5, y6, y7] : Array Value).size := by kernel_rfl
theorem haddN {a b s : Int} (h : IntKind.i64.wrap (a + b) = s) (w : World) : (binOp .add 3 (.int .i64 a) (.int .i64 b)).run Try.prog w = .ok (.int .i64 s) w := by go_simp
theorem hsubNi {a b s : Int} (h : IntKind.i64.wrap (a - b) = s) (w : World) : (binOp .sub 3 (.int .i64 a) (.int .i64 b)).run Try.prog w = .ok (.int .i64 s) w := by go_simp
/-- The pairs when a basis vectors of X are done, and of the next one b of Y. -/
def tsA (X Y : List (Int × Int)) (a : Nat) : List PV := (X.take a).flatMap fun u => Y.map fun v => (u, v)
def tsB (X Y : List (Int × Int)) (a b : Nat) : List PV := tsA X Y a ++ (Y.take b).map fun v => (X.getD a (0, 0), v)
/-- What tensorOf answers. -/
def TsR (p p2 : Int) (dv mv dv2 mv2 : Value) (ds ds2 : List Int) (w : World) (e : Ending) (w' : World) : Prop :=
  ∃ G mb N base n f, e = .returned (.agg #[.int .i64 p, dv, mv, .int .i64 p2, dv2, mv2, .slice (some ⟨G, 0, none⟩) N N, .map (some mb)]) ∧ (ds.length : Int) + (ds2.length : Int) - 1 = (N : Int) ∧ w.heap.size ≤ G ∧ w.heap.size ≤ mb ∧
    Prs w' base G N f (tsA (bsL ds ds.length) (bsL ds2 ds2.length) (bsL ds ds.length).length) ∧ Pl w' mb n (tsA (bsL ds ds.length) (bsL ds2 ds2.length) (bsL ds ds.length).length) ∧ Below w.heap.size w w'

theorem tsB_zero (X Y : List (Int × Int)) (a : Nat) : tsB X Y a 0 = tsA X Y a := by simp [tsB]
theorem tsB_succ (X Y : List (Int × Int)) {a b : Nat} (ha : a < X.length) (hb : b < Y.length) : tsB X Y a (b + 1) = tsB X Y a b ++ [(X[a], Y[b])] := by
  unfold tsB
  rw [List.take_succ_eq_append_getElem hb, List.map_append, List.append_assoc, getD_of_lt _ ha]
  rfl
theorem tsB_full (X Y : List (Int × Int)) {a : Nat} (ha : a < X.length) : tsB X Y a Y.length = tsA X Y (a + 1) := by
  unfold tsB tsA
  rw [List.take_length, List.take_succ_eq_append_getElem ha, List.flatMap_append, getD_of_lt _ ha]
  simp
theorem tsB_new {X Y : List (Int × Int)} (hX : X.Nodup) (hY : Y.Nodup) {a b : Nat} (ha : a < X.length) (hb : b < Y.length) : (X[a], Y[b]) ∉ tsB X Y a b := by
  intro h
  unfold tsB tsA at h
  rcases List.mem_append.1 h with k | k
  · obtain ⟨u, hu, hk⟩ := List.mem_flatMap.1 k
    obtain ⟨v, _, e⟩ := List.mem_map.1 hk
    have e1 : u = X[a] := by injection e
    rw [e1] at hu
    obtain ⟨i, hi, e2⟩ := List.getElem_of_mem hu
    rw [List.getElem_take] at e2
    have hi2 : i < a := by rw [List.length_take] at hi; omega
    have := (List.nodup_iff_pairwise_ne.1 hX)
    exact absurd e2 (List.pairwise_iff_getElem.1 this i a (by omega) ha hi2)
  · obtain ⟨v, hv, e⟩ := List.mem_map.1 k
    have e1 : v = Y[b] := by injection e
    rw [e1] at hv
    obtain ⟨i, hi, e2⟩ := List.getElem_of_mem hv
    rw [List.getElem_take] at e2
    have hi2 : i < b := by rw [List.length_take] at hi; omega
    have := (List.nodup_iff_pairwise_ne.1 hY)
    exact absurd e2 (List.pairwise_iff_getElem.1 this i b (by omega) hb hi2)
theorem tsB_len (X Y : List (Int × Int)) (a b : Nat) : (tsB X Y a b).length ≤ (X.length + 1) * (Y.length + 1) := by
  unfold tsB tsA
  have h1 : ((X.take a).flatMap fun u => Y.map fun v => (u, v)).length ≤ X.length * Y.length := by
    have : ∀ L : List (Int × Int), (L.flatMap fun u => Y.map fun v => (u, v)).length = L.length * Y.length := by
      intro L
      induction L with
      | nil => simp
      | cons x L ih => rw [List.flatMap_cons, List.length_append, ih, List.length_map, List.length_cons, Nat.succ_mul]; omega
    rw [this, List.length_take]
    exact Nat.mul_le_mul (by omega) (Nat.le_refl _)
  rw [List.length_append, List.length_map, List.length_take, Nat.add_mul, Nat.mul_add]
  omega
theorem bsL_mem {ds : List Int} {n : Nat} {q : Int × Int} (h : q ∈ bsL ds n) : ∃ k a : Nat, q = ((k : Int), (a : Int)) ∧ k < n ∧ a < (ds.getD k 0).toNat := by
  unfold bsL at h
  obtain ⟨k, hk, hq⟩ := List.mem_flatMap.1 h
  obtain ⟨a, ha, e⟩ := List.mem_map.1 hq
  exact ⟨k, a, e.symm, List.mem_range.1 hk, List.mem_range.1 ha⟩
theorem bsL_nodup (ds : List Int) (n : Nat) : (bsL ds n).Nodup := by
  induction n with
  | zero => simp [bsL]
  | succ n ih =>
    rw [bsL_succ, List.nodup_append]
    refine ⟨ih, ?_, fun x hx y hy => ?_⟩
    · rw [List.nodup_iff_pairwise_ne, List.pairwise_map]
      refine List.Pairwise.imp ?_ (List.nodup_iff_pairwise_ne.1 List.nodup_range)
      intro i j hij e
      exact hij (by injection e with _ e2; omega)
    · obtain ⟨k, a, rfl, hk, _⟩ := bsL_mem hx
      obtain ⟨c, _, rfl⟩ := List.mem_map.1 hy
      intro e
      injection e with e1 _
      omega
/-- Where tensorOf stands. -/
structure TsI (w1 wr : World) (base T5 G N mb : Nat) (cs : Array Value) (f : Nat → Value) (S : List PV) : Prop where
  below : Below w1.heap.size w1 wr
  bs : base ≤ wr.heap.size
  box : Rz wr T5 110 cs
  prs : Prs wr base G N f S
  map : Pl wr mb S.length S
theorem TsI.next {w1 wr w' : World} {base T5 G N mb : Nat} {cs : Array Value} {f : Nat → Value} {S : List PV} (h : TsI w1 wr base T5 G N mb cs f S) (hs : w1.heap.size ≤ base) (hb : Below wr.heap.size wr w') : TsI w1 w' base T5 G N mb cs f S :=
  ⟨h.below.trans (hb.mono (Nat.le_trans hs h.bs)), Nat.le_trans h.bs hb.size, h.box.next hb, h.prs.below hb, h.map.below hb⟩
theorem Prs.shape {w : World} {base G N : Nat} {f : Nat → Value} {S : List PV} (h : Prs w base G N f S) {n : Nat} (hn : n < N) : ∃ ad cap, f n = .slice ad (prF S (n : Int)).length cap := by
  rcases (h.own n hn).2 with ⟨e, e0⟩ | ⟨g, cap, _, e, _⟩
  · exact ⟨none, 0, by rw [e, e0]⟩
  · exact ⟨_, cap, e⟩
theorem But.of_grown {w w' : World} {b : Nat} (h : w.grownBy w' (some b)) : But b w w' := ⟨h.os, h.tape, h.output, h.size, fun k hk hb => h.block k hk (fun e => hb (by injection e))⟩
section
variable {ops : Array Oper} {Q : Exit → Act → World → Prop}
theorem zeroI' (w : World) : (zeroValue 2).run Try.prog w = .ok (.int .i64 0) w := by kernel_rfl
theorem op_mapPut {i : Nat} {oi : Oper} {K : Act → World → Prop} {a : Act} {w : World} (hi : ops[i]? = some oi) (hg : oi.guard = none) (hd : oi.dst = none) (m x v : Operand) (hop : oi.op = .mapUpdate 108 m x v) (mb cnt : Nat) (S : List PV) (hm : a.eval m = .map (some mb)) (hs : Pl w mb cnt S) (hn : cnt < maxLen)
    (q : PV) (hx : a.eval x = pv q.1.1 q.1.2 q.2.1 q.2.2) (hv : a.eval v = .int .i64 ((prF S (dg q)).length : Int)) (hl : (prF S (dg q)).length ≤ 1048576) (hw : Wf4 q) (hq : q ∉ S) (h : ∀ w', Pl w' mb (cnt + 1) (S ++ [q]) → w.grownBy w' (some mb) → K a w') : wpOp Try.prog ops Q i K a w := by
  obtain ⟨D, h1, h2⟩ := hs
  obtain ⟨w', hrun, h4, h5⟩ := h1.update Try.keyedPr Try.underlying108 hn (keyOf_pv hw.a hw.b hw.c hw.d) (plainElem_int (a := ((prF S (dg q)).length : Int)) Try.underlying2 (WalkArith.wf_i64 (by omega)))
  refine op_plain hi hg ?_
  unfold Oper.wp
  simp only [execOp, hop, hm, hx, hv, Sem.run_bind, hrun, Result.andThen_ok]
  have e : a.put oi.dst undef = a := by rw [hd]; rfl
  show K (a.put oi.dst undef) w'
  rw [e]
  exact h w' ⟨_, h4, h2.put hw hq⟩ h5
theorem Try.infoPrz : (Try.prog.info? 115).map (fun i => (i.zero, i.size, i.bytes)) = some (some (.agg #[.int .i64 0, .int .i64 0, .int .i64 0, .int .i64 0]), 4, 32) := by kernel_rfl
theorem Try.underlyingSPr : Try.prog.underlying 149 = some (.slice 115) := by kernel_rfl
theorem wp_appendPr {o : Oper} {a : Act} {w : World} {K : Act → World → Prop} (dst : Option Tmp) (hdst : o.dst = dst) (s x : Operand) (ho : o.op = .call { callee := .builtin .append, args := #[s, x], argTypes := #[149, 149] }) (base : Nat) (v : Value) (n : Nat) (xs : List Value) (hs : a.eval s = v) (hown : w.ownsRow base 115 4 v n xs)
    (b : Nat) (hx : a.eval x = .slice (some ⟨b, 0, none⟩) 1 1) (q : PV) (c0 : w.cell? ⟨b, 0, none⟩ = some (.int .i64 q.1.1)) (c1 : w.cell? ⟨b, 1, none⟩ = some (.int .i64 q.1.2)) (c2 : w.cell? ⟨b, 2, none⟩ = some (.int .i64 q.2.1)) (c3 : w.cell? ⟨b, 3, none⟩ = some (.int .i64 q.2.2)) (hl : n ≤ 1048576) (hb : base ≤ w.heap.size)
    (h : ∀ g cap w', w'.ownsRow base 115 4 (.slice (some ⟨g, 0, none⟩) (n + 1) cap) (n + 1) (xs ++ pcs [q]) → w.grownBy w' v.ownBlock → (v.ownBlock = some g ∨ g = w.heap.size) → g < w'.heap.size → K (a.put dst (.slice (some ⟨g, 0, none⟩) (n + 1) cap)) w') : o.wp Try.prog a w K Q := by
  obtain ⟨i, hi, hz, hs1, hb1⟩ := info_parts Try.infoPrz
  subst hdst
  refine wp_append_lies w s x 149 ho base 115 i _ 4 32 Try.underlyingSPr hi hz hs1 hb1 rfl (by decide) v n xs hs hown ⟨b, 0, none⟩ 1 1 (pcs [q]) hx rfl ?_ ?_ (by omega) (by unfold maxLen; omega) (by omega) hb _ rfl h
  · intro j u hu
    match j, hu with
    | 0, hu => simp [pcs] at hu; subst hu; exact c0
    | 1, hu => simp [pcs] at hu; subst hu; exact c1
    | 2, hu => simp [pcs] at hu; subst hu; exact c2
    | 3, hu => simp [pcs] at hu; subst hu; exact c3
  · intro u hu
    simp [pcs] at hu
    rcases hu with rfl | rfl | rfl | rfl <;> rfl
end
theorem hloadMp (w : World) {b o : Nat} {x : Value} (h : w.cell? ⟨b, o, none⟩ = some x) : (Instr.loadAt 108 (.pointer (some ⟨b, o, none⟩))).run Try.prog w = .ok x w := by go_simp
theorem hloadPP (w : World) {b o : Nat} {x : Value} (h : w.cell? ⟨b, o, none⟩ = some x) : (Instr.loadAt 107 (.pointer (some ⟨b, o, none⟩))).run Try.prog w = .ok x w := by go_simp
theorem hloadPr (w : World) {b o : Nat} {x : Value} (h : w.cell? ⟨b, o, none⟩ = some x) : (Instr.loadAt 149 (.pointer (some ⟨b, o, none⟩))).run Try.prog w = .ok x w := by go_simp
theorem hload2B (w : World) {b : Nat} {x y : Value} (c0 : w.cell? ⟨b, 0, none⟩ = some x) (c1 : w.cell? ⟨b, 1, none⟩ = some y) : (Instr.loadAt 113 (.pointer (some ⟨b, 0, none⟩))).run Try.prog w = .ok (.agg #[x, y]) w := by go_simp
theorem hload8T (W : World) {b : Nat} {x0 x1 x2 x3 x4 x5 x6 x7 : Value} (h : Rz W b 110 #[x0, x1, x2, x3, x4, x5, x6, x7]) : (Instr.loadAt 110 (.pointer (some ⟨b, 0, none⟩))).run Try.prog W = .ok (.agg #[x0, x1, x2, x3, x4, x5, x6, x7]) W := by
  have c0 : W.cell? ⟨b, 0, none⟩ = some x0 := h.cell rfl
  have c1 : W.cell? ⟨b, 1, none⟩ = some x1 := h.cell rfl
  have c2 : W.cell? ⟨b, 2, none⟩ = some x2 := h.cell rfl
  have c3 : W.cell? ⟨b, 3, none⟩ = some x3 := h.cell rfl
  have c4 : W.cell? ⟨b, 4, none⟩ = some x4 := h.cell rfl
  have c5 : W.cell? ⟨b, 5, none⟩ = some x5 := h.cell rfl
  have c6 : W.cell? ⟨b, 6, none⟩ = some x6 := h.cell rfl
  have c7 : W.cell? ⟨b, 7, none⟩ = some x7 := h.cell rfl
  go_simp
theorem hidxPP (b o : Nat) {k n : Nat} (cap : Nat) (hk : k < n) (w : World) : (Instr.indexAt 107 (.slice (some ⟨b, o, none⟩) n cap) (.int .i64 k)).run Try.prog w = .ok (.pointer (some ⟨b, o + k, none⟩)) w := by
  have h1 : (k : Int) < (n : Int) := by omega
  go_simp
theorem cell_newP0 (W : World) (x y z u : Value) (t : TypeId) : (W.alloc (.cells #[x, y, z, u] t)).cell? ⟨W.heap.size, 0, none⟩ = some x := by simp
theorem cell_newP1 (W : World) (x y z u : Value) (t : TypeId) : (W.alloc (.cells #[x, y, z, u] t)).cell? ⟨W.heap.size, 1, none⟩ = some y := by simp
theorem cell_newP2 (W : World) (x y z u : Value) (t : TypeId) : (W.alloc (.cells #[x, y, z, u] t)).cell? ⟨W.heap.size, 2, none⟩ = some z := by simp
theorem cell_newP3 (W : World) (x y z u : Value) (t : TypeId) : (W.alloc (.cells #[x, y, z, u] t)).cell? ⟨W.heap.size, 3, none⟩ = some u := by simp
theorem Rz.grown {W W' : World} {g : Nat} {t : TypeId} {cs : Array Value} {row : Option Nat} (h : Rz W g t cs) (hg : W.grownBy W' row) (hne : some g ≠ row) : Rz W' g t cs := (hg.block g h.lt hne).trans h
theorem rz_ne {w : World} {base g n size : Nat} {e t : TypeId} {u : Value} {xs : List Value} {cs : Array Value} (hr : Rz w g t cs) (ho : w.ownsRow base e size u n xs) (h : t ≠ e) : u.ownBlock ≠ some g := fun e1 => by
  rcases ho.2 with ⟨hu, _⟩ | ⟨g2, cap, cur, hu, _, hh, _⟩
  · rw [hu] at e1
    simp [Value.ownBlock] at e1
  · rw [hu] at e1
    have e2 : g2 = g := by simpa [Value.ownBlock] using e1
    subst e2
    have hr' : w.heap[g2]? = some (.cells cs t (0, 0)) := hr
    rw [hr'] at hh
    injection hh with hh
    injection hh with _ h2
    exact h h2
theorem rz_frozen {w : World} {g : Nat} {t : TypeId} {cs : Array Value} (h : Rz w g t cs) (k : Nat) : w.frozen? ⟨g, k, none⟩ = false := by
  have h' : w.heap[g]? = some (.cells cs t (0, 0)) := h
  simp [World.frozen?, h']
theorem owns_block {w w' : World} {base n size : Nat} {e : TypeId} {u : Value} {xs : List Value} (ho : w.ownsRow base e size u n xs) (hb : ∀ k, u.ownBlock = some k → w'.heap[k]? = w.heap[k]?) : w'.ownsRow base e size u n xs := by
  refine ⟨ho.1, ?_⟩
  rcases ho.2 with h2 | ⟨g, cap, cur, hu, hg, hh, r⟩
  · exact Or.inl h2
  · exact Or.inr ⟨g, cap, cur, hu, hg, (hb g (by rw [hu]; rfl)).trans hh, r⟩

end Go.Proofs.Ytpdkfidmmjlmnaa
