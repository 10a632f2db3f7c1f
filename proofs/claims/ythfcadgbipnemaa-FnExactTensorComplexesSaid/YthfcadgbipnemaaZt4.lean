/-
  Texts that ProofTpl needs, part 4.
-/
import Derived.Test.YthfcadgbipnemaaZt3
import Derived.Maps.OwnOps
import Derived.Maps.OwnSet
import Derived.RegionTactic
import Derived.Deep.Cut
import Derived.Deep.CutRange
import Derived.BigRegion
namespace Go.Proofs.Ythfcadgbipnemaa
open Go.RowKit

theorem Try.infoPP : (Try.prog.info? 195).map (fun i => (i.zero, i.size, i.bytes)) = some (some (.slice none 0 0), 1, 24) := by kernel_rfl
theorem Try.underlyingPP : Try.prog.underlying 142 = some (.slice 195) := by kernel_rfl
theorem infoTs (y0 y1 y2 y3 y4 y5 y6 y7 : Value) : (Try.prog.info? 145).map (·.size) = some (#[y0, y1, y2, y3, y4, y5, y6, y7] : Array Value).size := by kernel_rfl
theorem haddN {a b s : Int} (h : IntKind.i64.wrap (a + b) = s) (w : World) : (binOp .add 3 (.int .i64 a) (.int .i64 b)).run Try.prog w = .ok (.int .i64 s) w := by go_simp
theorem hsubN {a b s : Int} (h : IntKind.i64.wrap (a - b) = s) (w : World) : (binOp .sub 3 (.int .i64 a) (.int .i64 b)).run Try.prog w = .ok (.int .i64 s) w := by go_simp
/-- The pairs when a basis vectors of X are done, and of the next one b of Y. -/
def tsA (X Y : List (Int × Int)) (a : Nat) : List PV := (X.take a).flatMap fun u => Y.map fun v => (u, v)
def tsB (X Y : List (Int × Int)) (a b : Nat) : List PV := tsA X Y a ++ (Y.take b).map fun v => (X.getD a (0, 0), v)
/-- What tensorOf answers. -/
def TsR (p p2 : Int) (dv mv dv2 mv2 : Value) (ds ds2 : List Int) (w : World) (e : Ending) (w' : World) : Prop :=
  ∃ G mb N base n f, e = .returned (.agg #[.int .i64 p, dv, mv, .int .i64 p2, dv2, mv2, .slice (some ⟨G, 0, none⟩) N N, .map (some mb)]) ∧ (ds.length : Int) + (ds2.length : Int) - 1 = (N : Int) ∧ w.heap.size ≤ G ∧ w.heap.size ≤ mb ∧
    Prs w' base G N f (tsA (bsL ds ds.length) (bsL ds2 ds2.length) (bsL ds ds.length).length) ∧ Pl w' mb n (tsA (bsL ds ds.length) (bsL ds2 ds2.length) (bsL ds ds.length).length) ∧ Below w.heap.size w w'

theorem tsB_zero (X Y : List (Int × Int)) (a : Nat) : tsB X Y a 0 = tsA X Y a := by simp [tsB]
theorem tsB_succ (X Y : List (Int × Int)) {a b : Nat} (ha : a < X.length) (hb : b < Y.length) : tsB X Y a (b + 1) = tsB X Y a b ++ [(X[a], Y[b])] := by
  unfold tsB
  rw [List.take_succ_eq_append_getElem hb, List.map_append, List.append_assoc, getD_of_lt _ ha]
  rfl
theorem tsB_full (X Y : List (Int × Int)) {a : Nat} (ha : a < X.length) : tsB X Y a Y.length = tsA X Y (a + 1) := by
  unfold tsB tsA
  rw [List.take_length, List.take_succ_eq_append_getElem ha, List.flatMap_append, getD_of_lt _ ha]
  simp
theorem tsB_new {X Y : List (Int × Int)} (hX : X.Nodup) (hY : Y.Nodup) {a b : Nat} (ha : a < X.length) (hb : b < Y.length) : (X[a], Y[b]) ∉ tsB X Y a b := by
  intro h
  unfold tsB tsA at h
  rcases List.mem_append.1 h with k | k
  · obtain ⟨u, hu, hk⟩ := List.mem_flatMap.1 k
    obtain ⟨v, _, e⟩ := List.mem_map.1 hk
    have e1 : u = X[a] := by injection e
    rw [e1] at hu
    obtain ⟨i, hi, e2⟩ := List.getElem_of_mem hu
    rw [List.getElem_take] at e2
    have hi2 : i < a := by rw [List.length_take] at hi; omega
    have := (List.nodup_iff_pairwise_ne.1 hX)
    exact absurd e2 (List.pairwise_iff_getElem.1 this i a (by omega) ha hi2)
  · obtain ⟨v, hv, e⟩ := List.mem_map.1 k
    have e1 : v = Y[b] := by injection e
    rw [e1] at hv
    obtain ⟨i, hi, e2⟩ := List.getElem_of_mem hv
    rw [List.getElem_take] at e2
    have hi2 : i < b := by rw [List.length_take] at hi; omega
    have := (List.nodup_iff_pairwise_ne.1 hY)
    exact absurd e2 (List.pairwise_iff_getElem.1 this i b (by omega) hb hi2)
theorem tsB_len (X Y : List (Int × Int)) (a b : Nat) : (tsB X Y a b).length ≤ (X.length + 1) * (Y.length + 1) := by
  unfold tsB tsA
  have h1 : ((X.take a).flatMap fun u => Y.map fun v => (u, v)).length ≤ X.length * Y.length := by
    have : ∀ L : List (Int × Int), (L.flatMap fun u => Y.map fun v => (u, v)).length = L.length * Y.length := by
      intro L
      induction L with
      | nil => simp
      | cons x L ih => rw [List.flatMap_cons, List.length_append, ih, List.length_map, List.length_cons, Nat.succ_mul]; omega
    rw [this, List.length_take]
    exact Nat.mul_le_mul (by omega) (Nat.le_refl _)
  rw [List.length_append, List.length_map, List.length_take, Nat.add_mul, Nat.mul_add]
  omega
theorem bsL_mem {ds : List Int} {n : Nat} {q : Int × Int} (h : q ∈ bsL ds n) : ∃ k a : Nat, q = ((k : Int), (a : Int)) ∧ k < n ∧ a < (ds.getD k 0).toNat := by
  unfold bsL at h
  obtain ⟨k, hk, hq⟩ := List.mem_flatMap.1 h
  obtain ⟨a, ha, e⟩ := List.mem_map.1 hq
  exact ⟨k, a, e.symm, List.mem_range.1 hk, List.mem_range.1 ha⟩
theorem bsL_nodup (ds : List Int) (n : Nat) : (bsL ds n).Nodup := by
  induction n with
  | zero => simp [bsL]
  | succ n ih =>
    rw [bsL_succ, List.nodup_append]
    refine ⟨ih, ?_, fun x hx y hy => ?_⟩
    · rw [List.nodup_iff_pairwise_ne, List.pairwise_map]
      refine List.Pairwise.imp ?_ (List.nodup_iff_pairwise_ne.1 List.nodup_range)
      intro i j hij e
      exact hij (by injection e with _ e2; omega)
    · obtain ⟨k, a, rfl, hk, _⟩ := bsL_mem hx
      obtain ⟨c, _, rfl⟩ := List.mem_map.1 hy
      intro e
      injection e with e1 _
      omega
/-- Where tensorOf stands. -/
structure TsI (w1 wr : World) (base T5 G N mb : Nat) (cs : Array Value) (f : Nat → Value) (S : List PV) : Prop where
  below : Below w1.heap.size w1 wr
  bs : base ≤ wr.heap.size
  box : Rz wr T5 145 cs
  prs : Prs wr base G N f S
  map : Pl wr mb S.length S
theorem TsI.next {w1 wr w' : World} {base T5 G N mb : Nat} {cs : Array Value} {f : Nat → Value} {S : List PV} (h : TsI w1 wr base T5 G N mb cs f S) (hs : w1.heap.size ≤ base) (hb : Below wr.heap.size wr w') : TsI w1 w' base T5 G N mb cs f S :=
  ⟨h.below.trans (hb.mono (Nat.le_trans hs h.bs)), Nat.le_trans h.bs hb.size, h.box.next hb, h.prs.below hb, h.map.below hb⟩
theorem Prs.shape {w : World} {base G N : Nat} {f : Nat → Value} {S : List PV} (h : Prs w base G N f S) {n : Nat} (hn : n < N) : ∃ ad cap, f n = .slice ad (prF S (n : Int)).length cap := by
  rcases (h.own n hn).2 with ⟨e, e0⟩ | ⟨g, cap, _, e, _⟩
  · exact ⟨none, 0, by rw [e, e0]⟩
  · exact ⟨_, cap, e⟩
theorem But.of_grown {w w' : World} {b : Nat} (h : w.grownBy w' (some b)) : But b w w' := ⟨h.os, h.tape, h.output, h.size, fun k hk hb => h.block k hk (fun e => hb (by injection e))⟩
section
variable {ops : Array Oper} {Q : Exit → Act → World → Prop}
theorem zeroI' (w : World) : (zeroValue 2).run Try.prog w = .ok (.int .i64 0) w := by kernel_rfl
theorem op_mapPut {i : Nat} {oi : Oper} {K : Act → World → Prop} {a : Act} {w : World} (hi : ops[i]? = some oi) (hg : oi.guard = none) (hd : oi.dst = none) (m x v : Operand) (hop : oi.op = .mapUpdate 143 m x v) (mb cnt : Nat) (S : List PV) (hm : a.eval m = .map (some mb)) (hs : Pl w mb cnt S) (hn : cnt < maxLen)
    (q : PV) (hx : a.eval x = pv q.1.1 q.1.2 q.2.1 q.2.2) (hv : a.eval v = .int .i64 ((prF S (dg q)).length : Int)) (hl : (prF S (dg q)).length ≤ 1048576) (hw : Wf4 q) (hq : q ∉ S) (h : ∀ w', Pl w' mb (cnt + 1) (S ++ [q]) → w.grownBy w' (some mb) → K a w') : wpOp Try.prog ops Q i K a w := by
  obtain ⟨D, h1, h2⟩ := hs
  obtain ⟨w', hrun, h4, h5⟩ := h1.update Try.keyedPr Try.underlying143 hn (keyOf_pv hw.a hw.b hw.c hw.d) (plainElem_int (a := ((prF S (dg q)).length : Int)) Try.underlying2 (WalkArith.wf_i64 (by omega)))
  refine op_plain hi hg ?_
  unfold Oper.wp
  simp only [execOp, hop, hm, hx, hv, Sem.run_bind, hrun, Result.andThen_ok]
  have e : a.put oi.dst undef = a := by rw [hd]; rfl
  show K (a.put oi.dst undef) w'
  rw [e]
  exact h w' ⟨_, h4, h2.put hw hq⟩ h5
theorem Try.infoPrz : (Try.prog.info? 194).map (fun i => (i.zero, i.size, i.bytes)) = some (some (.agg #[.int .i64 0, .int .i64 0, .int .i64 0, .int .i64 0]), 4, 32) := by kernel_rfl
theorem Try.underlyingSPr : Try.prog.underlying 195 = some (.slice 194) := by kernel_rfl
theorem wp_appendPr {o : Oper} {a : Act} {w : World} {K : Act → World → Prop} (dst : Option Tmp) (hdst : o.dst = dst) (s x : Operand) (ho : o.op = .call { callee := .builtin .append, args := #[s, x], argTypes := #[195, 195] }) (base : Nat) (v : Value) (n : Nat) (xs : List Value) (hs : a.eval s = v) (hown : w.ownsRow base 194 4 v n xs)
    (b : Nat) (hx : a.eval x = .slice (some ⟨b, 0, none⟩) 1 1) (q : PV) (c0 : w.cell? ⟨b, 0, none⟩ = some (.int .i64 q.1.1)) (c1 : w.cell? ⟨b, 1, none⟩ = some (.int .i64 q.1.2)) (c2 : w.cell? ⟨b, 2, none⟩ = some (.int .i64 q.2.1)) (c3 : w.cell? ⟨b, 3, none⟩ = some (.int .i64 q.2.2)) (hl : n ≤ 1048576) (hb : base ≤ w.heap.size)
    (h : ∀ g cap w', w'.ownsRow base 194 4 (.slice (some ⟨g, 0, none⟩) (n + 1) cap) (n + 1) (xs ++ pcs [q]) → w.grownBy w' v.ownBlock → (v.ownBlock = some g ∨ g = w.heap.size) → g < w'.heap.size → K (a.put dst (.slice (some ⟨g, 0, none⟩) (n + 1) cap)) w') : o.wp Try.prog a w K Q := by
  obtain ⟨i, hi, hz, hs1, hb1⟩ := info_parts Try.infoPrz
  subst hdst
  refine wp_append_lies w s x 195 ho base 194 i _ 4 32 Try.underlyingSPr hi hz hs1 hb1 rfl (by decide) v n xs hs hown ⟨b, 0, none⟩ 1 1 (pcs [q]) hx rfl ?_ ?_ (by omega) (by unfold maxLen; omega) (by omega) hb _ rfl h
  · intro j u hu
    match j, hu with
    | 0, hu => simp [pcs] at hu; subst hu; exact c0
    | 1, hu => simp [pcs] at hu; subst hu; exact c1
    | 2, hu => simp [pcs] at hu; subst hu; exact c2
    | 3, hu => simp [pcs] at hu; subst hu; exact c3
  · intro u hu
    simp [pcs] at hu
    rcases hu with rfl | rfl | rfl | rfl <;> rfl
end
theorem hloadMp (w : World) {b o : Nat} {x : Value} (h : w.cell? ⟨b, o, none⟩ = some x) : (Instr.loadAt 143 (.pointer (some ⟨b, o, none⟩))).run Try.prog w = .ok x w := by go_simp
theorem hloadPP (w : World) {b o : Nat} {x : Value} (h : w.cell? ⟨b, o, none⟩ = some x) : (Instr.loadAt 142 (.pointer (some ⟨b, o, none⟩))).run Try.prog w = .ok x w := by go_simp
theorem hloadPr (w : World) {b o : Nat} {x : Value} (h : w.cell? ⟨b, o, none⟩ = some x) : (Instr.loadAt 195 (.pointer (some ⟨b, o, none⟩))).run Try.prog w = .ok x w := by go_simp
theorem hload2B (w : World) {b : Nat} {x y : Value} (c0 : w.cell? ⟨b, 0, none⟩ = some x) (c1 : w.cell? ⟨b, 1, none⟩ = some y) : (Instr.loadAt 191 (.pointer (some ⟨b, 0, none⟩))).run Try.prog w = .ok (.agg #[x, y]) w := by go_simp
theorem hload8T (W : World) {b : Nat} {x0 x1 x2 x3 x4 x5 x6 x7 : Value} (h : Rz W b 145 #[x0, x1, x2, x3, x4, x5, x6, x7]) : (Instr.loadAt 145 (.pointer (some ⟨b, 0, none⟩))).run Try.prog W = .ok (.agg #[x0, x1, x2, x3, x4, x5, x6, x7]) W := by
  have c0 : W.cell? ⟨b, 0, none⟩ = some x0 := h.cell rfl
  have c1 : W.cell? ⟨b, 1, none⟩ = some x1 := h.cell rfl
  have c2 : W.cell? ⟨b, 2, none⟩ = some x2 := h.cell rfl
  have c3 : W.cell? ⟨b, 3, none⟩ = some x3 := h.cell rfl
  have c4 : W.cell? ⟨b, 4, none⟩ = some x4 := h.cell rfl
  have c5 : W.cell? ⟨b, 5, none⟩ = some x5 := h.cell rfl
  have c6 : W.cell? ⟨b, 6, none⟩ = some x6 := h.cell rfl
  have c7 : W.cell? ⟨b, 7, none⟩ = some x7 := h.cell rfl
  go_simp
theorem hidxPP (b o : Nat) {k n : Nat} (cap : Nat) (hk : k < n) (w : World) : (Instr.indexAt 142 (.slice (some ⟨b, o, none⟩) n cap) (.int .i64 k)).run Try.prog w = .ok (.pointer (some ⟨b, o + k, none⟩)) w := by
  have h1 : (k : Int) < (n : Int) := by omega
  go_simp
theorem cell_newP0 (W : World) (x y z u : Value) (t : TypeId) : (W.alloc (.cells #[x, y, z, u] t)).cell? ⟨W.heap.size, 0, none⟩ = some x := by simp
theorem cell_newP1 (W : World) (x y z u : Value) (t : TypeId) : (W.alloc (.cells #[x, y, z, u] t)).cell? ⟨W.heap.size, 1, none⟩ = some y := by simp
theorem cell_newP2 (W : World) (x y z u : Value) (t : TypeId) : (W.alloc (.cells #[x, y, z, u] t)).cell? ⟨W.heap.size, 2, none⟩ = some z := by simp
theorem cell_newP3 (W : World) (x y z u : Value) (t : TypeId) : (W.alloc (.cells #[x, y, z, u] t)).cell? ⟨W.heap.size, 3, none⟩ = some u := by simp
theorem Rz.grown {W W' : World} {g : Nat} {t : TypeId} {cs : Array Value} {row : Option Nat} (h : Rz W g t cs) (hg : W.grownBy W' row) (hne : some g ≠ row) : Rz W' g t cs := (hg.block g h.lt hne).trans h
theorem rz_ne {w : World} {base g n size : Nat} {e t : TypeId} {u : Value} {xs : List Value} {cs : Array Value} (hr : Rz w g t cs) (ho : w.ownsRow base e size u n xs) (h : t ≠ e) : u.ownBlock ≠ some g := fun e1 => by
  rcases ho.2 with ⟨hu, _⟩ | ⟨g2, cap, cur, hu, _, hh, _⟩
  · rw [hu] at e1
    simp [Value.ownBlock] at e1
  · rw [hu] at e1
    have e2 : g2 = g := by simpa [Value.ownBlock] using e1
    subst e2
    have hr' : w.heap[g2]? = some (.cells cs t (0, 0)) := hr
    rw [hr'] at hh
    injection hh with hh
    injection hh with _ h2
    exact h h2
theorem rz_frozen {w : World} {g : Nat} {t : TypeId} {cs : Array Value} (h : Rz w g t cs) (k : Nat) : w.frozen? ⟨g, k, none⟩ = false := by
  have h' : w.heap[g]? = some (.cells cs t (0, 0)) := h
  simp [World.frozen?, h']
theorem owns_block {w w' : World} {base n size : Nat} {e : TypeId} {u : Value} {xs : List Value} (ho : w.ownsRow base e size u n xs) (hb : ∀ k, u.ownBlock = some k → w'.heap[k]? = w.heap[k]?) : w'.ownsRow base e size u n xs := by
  refine ⟨ho.1, ?_⟩
  rcases ho.2 with h2 | ⟨g, cap, cur, hu, hg, hh, r⟩
  · exact Or.inl h2
  · exact Or.inr ⟨g, cap, cur, hu, hg, (hb g (by rw [hu]; rfl)).trans hh, r⟩

end Go.Proofs.Ythfcadgbipnemaa


namespace Go.Proofs.Ythfcadgbipnemaa
open Go.RowKit

/-- Nothing has changed below a and from b on, of what was there. -/
structure Kp (a b : Nat) (w w' : World) : Prop where
  os : w'.os = w.os
  tape : w'.tape = w.tape
  output : w'.output = w.output
  size : w.heap.size ≤ w'.heap.size
  block : ∀ k, k < w.heap.size → k < a ∨ b ≤ k → w'.heap[k]? = w.heap[k]?
theorem Kp.refl (a b : Nat) (w : World) : Kp a b w w := ⟨rfl, rfl, rfl, Nat.le_refl _, fun _ _ _ => rfl⟩
theorem Kp.trans {a b : Nat} {x y z : World} (h : Kp a b x y) (k : Kp a b y z) : Kp a b x z :=
  ⟨k.os.trans h.os, k.tape.trans h.tape, k.output.trans h.output, Nat.le_trans h.size k.size, fun i hi hb => (k.block i (Nat.lt_of_lt_of_le hi h.size) hb).trans (h.block i hi hb)⟩
theorem Kp.of_below {a b : Nat} {w w' : World} (h : Below w.heap.size w w') : Kp a b w w' := ⟨h.os, h.tape, h.output, h.size, fun k hk _ => h.block k hk⟩
theorem Kp.of_but {a b g : Nat} {w w' : World} (h : But g w w') (h1 : a ≤ g) (h2 : g < b) : Kp a b w w' := ⟨h.os, h.tape, h.output, h.size, fun k hk hb => h.block k hk (by omega)⟩
theorem Kp.mono {a b b' : Nat} {w w' : World} (h : Kp a b w w') (hb : b ≤ b') : Kp a b' w w' := ⟨h.os, h.tape, h.output, h.size, fun k hk hh => h.block k hk (by omega)⟩
theorem Kp.below {a b : Nat} {w w' : World} (h : Kp a b w w') (ha : a ≤ w.heap.size) : Below a w w' := ⟨h.os, h.tape, h.output, h.size, fun k hk => h.block k (by omega) (Or.inl hk)⟩
/-- As differentialTable_any; the table is read in all worlds that hold what stood ahead of a base and behind the call's start. -/
def DtB (b0 : Nat) (t : List (List Int)) (w : World) (e : Ending) (w' : World) : Prop := ∃ v, e = .returned v ∧ Below w.heap.size w w' ∧ ∀ (b : Nat) (W : World), b ≤ w.heap.size → Kp b0 b w' W → L2 0 W v t

set_option maxHeartbeats 3200000 in
set_option maxRecDepth 100000 in
theorem differentialTableB_any (p : Int) (q : Nat) (dv mv : Value) (ds : List Int) (ms : List (List (List Int))) (w0 w : World) (h0 : Cx 0 w0 dv mv ds ms) (hb0 : Below w0.heap.size w0 w) (hcx : IsCx p ds ms) (hq : q < ds.length) :
    Calls Try.prog 192 #[.agg #[.int .i64 p, dv, mv], .int .i64 q] w (DtB w0.heap.size (cycT ds ms q) w) := by
  have h := h0.below hb0
  have HB0 := Lib.hid hb0
  have HX0 := Lib.hid (Bx.start (p := p) 30 h)
  have hml := hcx.1.mlen
  have hl6 := hcx.1.len1
  refine Sl.cases HX0.out.cx.dims (fun _ _ hx _ => absurd hq (by simp [hx])) (fun bd od capd hvd _ _ hcld => ?_)
  subst hvd
  have c0 := HX0.out.c0
  have c1 := HX0.out.c1
  have c2 := HX0.out.c2
  by_cases hq0 : q = 0
  · subst hq0
    obtain ⟨ud, hud, hrd⟩ := hcld 0 hq
    obtain ⟨d, hd⟩ : ∃ d, d = dimN ds ((0 : Nat) : Int) := ⟨_, rfl⟩
    have hd8 : d ≤ 8 := by rw [hd]; exact (dimN_le8 hcx 0).1
    have hcel : (w.alloc (.cells #[.int .i64 p, .slice (some ⟨bd, od, none⟩) ds.length capd, mv] 30)).cell? ⟨bd, od, none⟩ = some (.int .i64 (d : Int)) := by
      rw [Nat.add_zero] at hud
      rw [hud, hrd, ← getD_of_lt 0 hq, (dimN_le8 hcx 0).2, hd]
    have HDT : Hid (tableOf d 0 (fun _ _ => 0) = cycT ds ms 0) := Lib.hid (by rw [cycT_zero ds ms hq, tableOf_none, hd])
    have hlen : (0 : Int) < (ds.length : Int) := by omega
    clear h h0 hb0 hcx hcld hud hrd hd
    go_enter Try.func192, Try.ntmps192
    go_wp2_with fail
    refine (zeroTable_any d 0 _ (by omega) (by omega)).mono ?_
    rintro e w1 ⟨rfl, hm1⟩
    have HM1 := Lib.hid hm1
    clear hm1 hcel c0 c1 c2
    go_wp2
    go_ret
    have htb := HM1.out.tb
    have hz : (w.alloc (.cells #[.int .i64 p, .slice (some ⟨bd, od, none⟩) ds.length capd, mv] 30)).heap.size = w.heap.size + 1 := by simp
    rw [hz] at htb
    refine ⟨.slice (some ⟨w.heap.size + 1, 0, none⟩) d d, rfl, HX0.out.below.trans (HM1.out.below.mono HX0.out.below.size), fun b W hG2 hbut => ?_⟩
    have htW : Tb W (w.heap.size + 1) d 0 (fun _ _ => 0) := ⟨htb.top.of_block (hbut.block _ htb.top.lt (Or.inr (by omega))), fun j hj => (htb.rows j hj).of_block (hbut.block _ (htb.rows j hj).lt (Or.inr (by omega))), Nat.le_trans htb.lt hbut.size⟩
    have hh := (htW.tw (lo := 0) (Nat.zero_le _) (by omega) (by omega)).l2
    rw [HDT.out] at hh
    exact hh
  · obtain ⟨k, rfl⟩ : ∃ k, q = k + 1 := ⟨q - 1, by omega⟩
    have hkm : k < ms.length := by omega
    refine Sl.cases h0.maps (fun _ _ hx _ => absurd hkm (by simp [hx])) (fun bm om capm hvm _ _ hclm => ?_)
    subst hvm
    obtain ⟨um, hum, hrm⟩ := hclm k hkm
    have HTE : Hid (cycT ds ms (k + 1) = tabN ms k) := Lib.hid (cycT_succ hcx hq)
    have HRM : Hid (L2 0 w0 um (tabN ms k)) := Lib.hid (by unfold tabN; rw [getD_of_lt _ hkm]; exact hrm)
    have hum1 : (w.alloc (.cells #[.int .i64 p, .slice (some ⟨bd, od, none⟩) ds.length capd, .slice (some ⟨bm, om, none⟩) ms.length capm] 30)).cell? ⟨bm, om + k, none⟩ = some um := later (hb0.trans (HX0.out.below.mono hb0.size)) (Nat.le_refl _) hum
    have hne : (((k + 1 : Nat) : Int) == 0) = false := by
      have : ¬ ((k + 1 : Nat) : Int) = 0 := by omega
      simpa using this
    have hne2 : ¬ ((k : Int) + 1 = 0) := by omega
    have hwr : IntKind.i64.wrap (((k + 1 : Nat) : Int) - 1) = (k : Int) := by rw [show ((k + 1 : Nat) : Int) - 1 = (k : Int) by omega]; exact IntWalk.i64_in _ (by omega)
    have hsub : ((k : Int) + 1) - 1 = (k : Int) := by omega
    have hlt : (k : Int) < (ms.length : Int) := by omega
    clear h h0 hb0 hcx hclm hcld hrm hq0 hum
    go_enter Try.func192, Try.ntmps192
    go_wp2
    go_ret
    refine ⟨_, rfl, HX0.out.below, fun b W _ hbut => ?_⟩
    rw [HTE.out]
    refine HRM.out.below ((HB0.out.trans (HX0.out.below.mono HB0.out.size)).trans (hbut.below ?_))
    exact Nat.le_trans HB0.out.size HX0.out.below.size

/-- The tables of the differential, degree by degree. -/
def dfL (ds : List Int) (ms : List (List (List Int))) : List (List (List Int)) := (List.range ds.length).map fun (n : Nat) => cycT ds ms n
/-- .. and where they are read from then on. -/
def DmB (p : Int) (dv mv : Value) (ds : List Int) (ms : List (List (List Int))) (a : Nat) (w : World) (e : Ending) (w' : World) : Prop := ∃ u, e = .returned (.agg #[.int .i64 p, dv, mv, .int .i64 (-1), u]) ∧ Below w.heap.size w w' ∧ ∀ (b : Nat) (W : World), b ≤ w.heap.size → Kp a b w' W → L3 0 W u (dfL ds ms)
/-- A row of tables, k of which are there. -/
structure DmT (W : World) (a G N k : Nat) (f : Nat → Value) (ds : List Int) (ms : List (List (List Int))) : Prop where
  row : W.rowIs G 27 N f
  tab : ∀ n, n < k → ∀ W', Kp a (G + 1) W W' → L2 0 W' (f n) (cycT ds ms n)
theorem DmT.below {W W' : World} {a G N k : Nat} {f : Nat → Value} {ds : List Int} {ms : List (List (List Int))} (h : DmT W a G N k f ds ms) (hb : Below W.heap.size W W') : DmT W' a G N k f ds ms := ⟨h.row.of_block (hb.block _ h.row.lt), fun n hn W2 h2 => h.tab n hn W2 ((Kp.of_below hb).trans h2)⟩

theorem dm_l3 {W : World} {G : Nat} {f : Nat → Value} {ds : List Int} {ms : List (List (List Int))} (h : W.rowIs G 27 ds.length f) (ht : ∀ n, n < ds.length → L2 0 W (f n) (cycT ds ms n)) (h0 : 1 ≤ ds.length) : L3 0 W (.slice (some ⟨G, 0, none⟩) ds.length ds.length) (dfL ds ms) := by
  have hl : (dfL ds ms).length = ds.length := by simp [dfL]
  refine Or.inr ⟨G, 0, ds.length, by rw [hl], Nat.zero_le _, by rw [hl]; omega, fun n hn => ?_⟩
  have hn' : n < ds.length := by rw [hl] at hn; exact hn
  refine ⟨f n, by rw [Nat.zero_add]; exact h.cell hn', ?_⟩
  simp only [dfL, List.getElem_map, List.getElem_range]
  exact ht n hn'

set_option maxHeartbeats 3200000 in
set_option maxRecDepth 100000 in
theorem differentialMapB_any (p : Int) (dv mv : Value) (ds : List Int) (ms : List (List (List Int))) (w0 w : World) (h0 : Cx 0 w0 dv mv ds ms) (hb0 : Below w0.heap.size w0 w) (hcx : IsCx p ds ms) :
    Calls Try.prog 140 #[.agg #[.int .i64 p, dv, mv]] w (DmB p dv mv ds ms w0.heap.size w) := by
  have h := h0.below hb0
  have HB0 := Lib.hid hb0
  have hs0 := hb0.size
  obtain ⟨ad, cap, rfl⟩ := Sl.shape h.dims
  obtain ⟨am, capm, rfl⟩ := Sl.shape h.maps
  have hres : Try.f140.results = #[.cell 2 148] := by kernel_rfl
  have HRES := Lib.hid hres
  have hl6 := hcx.1.len1
  obtain ⟨w1, hw1⟩ : ∃ w1, w1 = (w.alloc (.cells #[.int .i64 p, .slice ad ds.length cap, .slice am ms.length capm] 30)).alloc (.cells #[.int .i64 0, .slice none 0 0, .slice none 0 0, .int .i64 0, .slice none 0 0] 148) := ⟨_, rfl⟩
  have HX1 : Hid (Bx w w1 w.heap.size p (.slice ad ds.length cap) (.slice am ms.length capm) ds ms) := Lib.hid (by rw [hw1]; exact (Bx.start 30 h).next (below_alloc1 _ _))
  have HS1 : Hid (w1.heap.size = w.heap.size + 2) := Lib.hid (by rw [hw1]; simp)
  have HZ1 : Hid (Rz w1 (w.heap.size + 1) 148 #[.int .i64 0, .slice none 0 0, .slice none 0 0, .int .i64 0, .slice none 0 0]) := Lib.hid (by rw [hw1]; have := Rz.new (w.alloc (.cells #[.int .i64 p, .slice ad ds.length cap, .slice am ms.length capm] 30)) 148 #[.int .i64 0, .slice none 0 0, .slice none 0 0, .int .i64 0, .slice none 0 0]; simpa using this)
  have HX0 := Lib.hid h0
  have HCX := Lib.hid hcx
  have c0 := HX1.out.c0
  have c1 := HX1.out.c1
  have c2 := HX1.out.c2
  have hmk := run_make_row' (P := Try.prog) 23 27 (.slice none 0 0) 24 Try.underlying23 Try.infoSS rfl .i64 .i64 ds.length (by omega) (by omega)
  clear h h0 hb0 hcx hres
  go_enter Try.func140, Try.ntmps140
  go_upto_region 1 with fail
  rw [← hw1]
  clear hw1
  go_wp2
  clear hmk c0 c1 c2
  go_loopw [4, 11] (fun _ i wr => ∃ (k : Nat) (f : Nat → Value), k ≤ ds.length ∧ i = .int .i64 (k : Int) ∧ Hid (Below w1.heap.size w1 wr) ∧ Hid (DmT wr w0.heap.size w1.heap.size ds.length k f ds ms)) (fun _ i _ => ds.length - (intOf i).toNat)
  case atStart => exact ⟨0, _, Nat.zero_le _, rfl, Lib.hid (below_alloc1 _ _), Lib.hid ⟨World.rowIs_made w1 _ _ _, fun n hn => absurd hn (Nat.not_lt_zero _)⟩⟩
  case round =>
    obtain ⟨k, f, hk, rfl, HB, HF⟩ := hrel
    obtain ⟨wx, hwx⟩ : ∃ wx : World, wx = wr := ⟨_, rfl⟩
    subst hwx
    have HX := Lib.hid (HX1.out.next HB.out)
    have c0 := HX.out.c0
    have c1 := HX.out.c1
    have c2 := HX.out.c2
    by_cases hlt : k < ds.length
    · have hki : (k : Int) < (ds.length : Int) := by omega
      go_wp2_with fail
      refine (differentialTableB_any p k _ _ ds ms w0 wx HX0.out (HB0.out.trans (HX.out.below.mono hs0)) HCX.out hlt).mono ?_
      rintro ee w2 ⟨v, rfl, hb2, hvr⟩
      have hGx : w1.heap.size < wx.heap.size := HF.out.row.lt
      have hG0 : w0.heap.size ≤ w1.heap.size := by have := HS1.out; omega
      have hv := hvr (w1.heap.size + 1) w2 (by omega) (Kp.refl _ _ _)
      have HVR := Lib.hid (hvr (w1.heap.size + 1))
      obtain ⟨av, cv, rfl⟩ := Sl.shape hv
      have HF2 := Lib.hid (HF.out.below hb2)
      have hrow := HF2.out.row.cell hlt
      have hfro := HF2.out.row.frozen k
      have HV := Lib.hid hv
      have HB2 := Lib.hid (HB.out.trans (hb2.mono HB.out.size))
      have HB3 : Hid (Below w1.heap.size w1 (w2.setCell ⟨w1.heap.size, k, none⟩ (.slice av (cycT ds ms k).length cv))) := Lib.hid (HB2.out.setCell (Nat.le_refl _) _)
      have HF3 : Hid (DmT (w2.setCell ⟨w1.heap.size, k, none⟩ (.slice av (cycT ds ms k).length cv)) w0.heap.size w1.heap.size ds.length (k + 1) (fun j => if j = k then .slice av (cycT ds ms k).length cv else f j) ds ms) := Lib.hid ⟨HF2.out.row.set k _, fun n hn W2 h2 => by
        have h3 : Kp w0.heap.size (w1.heap.size + 1) w2 W2 := (Kp.of_but (But.set w2 k _) hG0 (by omega)).trans h2
        by_cases e : n = k
        · subst e
          simp only [if_true]
          exact HVR.out W2 (by omega) h3
        · simp only [if_neg e]
          exact HF2.out.tab n (by omega) W2 h3⟩
      clear hb2 hv hvr c0 c1 c2
      go_wp2
      go_roundw
      case rel => exact ⟨k + 1, _, by omega, by go_num, HB3, HF3⟩
      case measure => simp [intOf]; omega
    · have hki : ¬ (k : Int) < (ds.length : Int) := by omega
      have HKE : Hid (k = ds.length) := Lib.hid (by omega)
      have hz := HZ1.out.next HB.out
      have q0 := hz.cell (i := 0) rfl
      have q1 := hz.cell (i := 1) rfl
      have q2 := hz.cell (i := 2) rfl
      have q3 := hz.cell (i := 3) rfl
      have q4 := hz.cell (i := 4) rfl
      have f0 := rz_frozen hz 0
      have f1 := rz_frozen hz 1
      have f2 := rz_frozen hz 2
      have f3 := rz_frozen hz 3
      have f4 := rz_frozen hz 4
      clear hz
      go_wp2
      obtain ⟨W6, h6⟩ : ∃ W6, W6 = ((((wx.setCell ⟨w.heap.size + 1, 0, none⟩ (.int .i64 p)).setCell ⟨w.heap.size + 1, 1, none⟩ (.slice ad ds.length cap)).setCell ⟨w.heap.size + 1, 2, none⟩ (.slice am ms.length capm)).setCell ⟨w.heap.size + 1, 3, none⟩ (.int .i64 (-1))).setCell ⟨w.heap.size + 1, 4, none⟩ (.slice (some ⟨w1.heap.size, 0, none⟩) ds.length ds.length) := ⟨_, rfl⟩
      have e0 : W6.cell? ⟨w.heap.size + 1, 0, none⟩ = some (.int .i64 p) := by
        rw [h6]
        rw [World.cell?_setCell_other _ _ _ _ (by simp)]
        rw [World.cell?_setCell_other _ _ _ _ (by simp)]
        rw [World.cell?_setCell_other _ _ _ _ (by simp)]
        rw [World.cell?_setCell_other _ _ _ _ (by simp)]
        refine World.cell?_setCell_same _ _ _ (u := .int .i64 0) ?_
        exact q0
      have e1 : W6.cell? ⟨w.heap.size + 1, 1, none⟩ = some (.slice ad ds.length cap) := by
        rw [h6]
        rw [World.cell?_setCell_other _ _ _ _ (by simp)]
        rw [World.cell?_setCell_other _ _ _ _ (by simp)]
        rw [World.cell?_setCell_other _ _ _ _ (by simp)]
        refine World.cell?_setCell_same _ _ _ (u := .slice none 0 0) ?_
        rw [World.cell?_setCell_other _ _ _ _ (by simp)]
        exact q1
      have e2 : W6.cell? ⟨w.heap.size + 1, 2, none⟩ = some (.slice am ms.length capm) := by
        rw [h6]
        rw [World.cell?_setCell_other _ _ _ _ (by simp)]
        rw [World.cell?_setCell_other _ _ _ _ (by simp)]
        refine World.cell?_setCell_same _ _ _ (u := .slice none 0 0) ?_
        rw [World.cell?_setCell_other _ _ _ _ (by simp)]
        rw [World.cell?_setCell_other _ _ _ _ (by simp)]
        exact q2
      have e3 : W6.cell? ⟨w.heap.size + 1, 3, none⟩ = some (.int .i64 (-1)) := by
        rw [h6]
        rw [World.cell?_setCell_other _ _ _ _ (by simp)]
        refine World.cell?_setCell_same _ _ _ (u := .int .i64 0) ?_
        rw [World.cell?_setCell_other _ _ _ _ (by simp)]
        rw [World.cell?_setCell_other _ _ _ _ (by simp)]
        rw [World.cell?_setCell_other _ _ _ _ (by simp)]
        exact q3
      have e4 : W6.cell? ⟨w.heap.size + 1, 4, none⟩ = some (.slice (some ⟨w1.heap.size, 0, none⟩) ds.length ds.length) := by
        rw [h6]
        refine World.cell?_setCell_same _ _ _ (u := .slice none 0 0) ?_
        rw [World.cell?_setCell_other _ _ _ _ (by simp)]
        rw [World.cell?_setCell_other _ _ _ _ (by simp)]
        rw [World.cell?_setCell_other _ _ _ _ (by simp)]
        rw [World.cell?_setCell_other _ _ _ _ (by simp)]
        exact q4
      have hbut : But (w.heap.size + 1) wx W6 := by
        rw [h6]
        exact (((((But.set wx 0 (.int .i64 p)).trans (But.set (wx.setCell ⟨w.heap.size + 1, 0, none⟩ (.int .i64 p)) 1 (.slice ad ds.length cap))).trans (But.set ((wx.setCell ⟨w.heap.size + 1, 0, none⟩ (.int .i64 p)).setCell ⟨w.heap.size + 1, 1, none⟩ (.slice ad ds.length cap)) 2 (.slice am ms.length capm))).trans (But.set (((wx.setCell ⟨w.heap.size + 1, 0, none⟩ (.int .i64 p)).setCell ⟨w.heap.size + 1, 1, none⟩ (.slice ad ds.length cap)).setCell ⟨w.heap.size + 1, 2, none⟩ (.slice am ms.length capm)) 3 (.int .i64 (-1)))).trans (But.set ((((wx.setCell ⟨w.heap.size + 1, 0, none⟩ (.int .i64 p)).setCell ⟨w.heap.size + 1, 1, none⟩ (.slice ad ds.length cap)).setCell ⟨w.heap.size + 1, 2, none⟩ (.slice am ms.length capm)).setCell ⟨w.heap.size + 1, 3, none⟩ (.int .i64 (-1))) 4 (.slice (some ⟨w1.heap.size, 0, none⟩) ds.length ds.length)))
      have hs1 := HS1.out
      have hB6 : Below w.heap.size w W6 := HX.out.below.trans (hbut.below HX.out.below.size (by omega))
      have hF := HF.out
      rw [HKE.out] at hF
      have hrow6 := hF.row.of_block (hbut.block _ hF.row.lt (by omega))
      have hg6 := hrow6.lt
      have HL3 : Hid (∀ (b : Nat) (W : World), b ≤ w.heap.size → Kp w0.heap.size b W6 W → L3 0 W (.slice (some ⟨w1.heap.size, 0, none⟩) ds.length ds.length) (dfL ds ms)) := Lib.hid (fun b W hb hK => dm_l3 (hrow6.of_block (hK.block _ hg6 (Or.inr (by omega)))) (fun n hn => hF.tab n hn W ((Kp.of_but hbut (by omega) (by omega)).trans (hK.mono (by omega)))) HCX.out.1.len0)
      have HB6 := Lib.hid hB6
      rw [← h6]
      clear h6 hbut hB6 hF hrow6 hs1 hg6 q0 f0 q1 f1 q2 f2 q3 f3 q4 f4
      refine bodyPost_ret (v := .agg #[.int .i64 p, .slice ad ds.length cap, .slice am ms.length capm, .int .i64 (-1), .slice (some ⟨w1.heap.size, 0, none⟩) ds.length ds.length]) ?_ rfl ⟨_, rfl, HB6.out, HL3.out⟩
      simp only [results, HRES.out]
      go_simp
end Go.Proofs.Ythfcadgbipnemaa


namespace Go.Proofs.Ythfcadgbipnemaa
open Go.RowKit

/-- The sum of the first k products of a dimension of the one and one of the other. -/
def tdS (ds ds2 : List Int) (n : Nat) : Nat → Int
  | 0 => 0
  | k + 1 => tdS ds ds2 n k + dimZ ds (k : Int) * dimZ ds2 ((n : Int) - (k : Int))
def tdN (ds ds2 : List Int) (n : Nat) : Int := tdS ds ds2 n (n + 1)
def tdL (ds ds2 : List Int) : Nat := ds.length + ds2.length - 1
def tdD (ds ds2 : List Int) : List Int := (List.range (tdL ds ds2)).map (tdN ds ds2)
theorem tdD_length (ds ds2 : List Int) : (tdD ds ds2).length = tdL ds ds2 := by simp [tdD]
theorem tdS_past {ds ds2 : List Int} {n a : Nat} (h : ∀ k : Nat, a ≤ k → dimZ ds (k : Int) * dimZ ds2 ((n : Int) - (k : Int)) = 0) : ∀ d, tdS ds ds2 n (a + d) = tdS ds ds2 n a
  | 0 => rfl
  | d + 1 => by
    rw [← Nat.add_assoc, tdS, tdS_past h d, h (a + d) (by omega), Int.add_zero]
theorem dimZ_past {ds : List Int} {k : Nat} (h : ds.length ≤ k) : dimZ ds (k : Int) = 0 := by
  unfold dimZ
  rw [if_neg (by omega)]
theorem dimZ_neg {ds : List Int} {n : Int} (h : n < 0) : dimZ ds n = 0 := by
  unfold dimZ
  rw [if_neg (by omega)]
theorem dimZ_out {ds : List Int} {n : Int} (h : ¬ (0 ≤ n ∧ n ≤ (ds.length : Int) - 1)) : dimZ ds n = 0 := if_neg h
theorem dimZ_in {ds : List Int} {n : Int} {k : Nat} (e : n = (k : Int)) (h : k < ds.length) : dimZ ds n = ds[k] := by
  unfold dimZ
  rw [if_pos (by omega), e, Int.toNat_natCast, getD_of_lt _ h]
theorem tdS_full (ds ds2 : List Int) (n : Nat) : tdS ds ds2 n ds.length = tdN ds ds2 n := by
  unfold tdN
  by_cases h : ds.length ≤ n + 1
  · obtain ⟨d, hd⟩ := Nat.exists_eq_add_of_le h
    rw [hd, tdS_past (fun k hk => by rw [dimZ_past hk, Int.zero_mul])]
  · obtain ⟨d, hd⟩ := Nat.exists_eq_add_of_le (show n + 1 ≤ ds.length by omega)
    rw [hd, tdS_past (fun k hk => by rw [dimZ_neg (ds := ds2) (by omega), Int.mul_zero])]
theorem td_term {ds ds2 : List Int} (h : ∀ n, 0 ≤ dimZ ds n ∧ dimZ ds n ≤ 8) (h2 : ∀ n, 0 ≤ dimZ ds2 n ∧ dimZ ds2 n ≤ 8) (a b : Int) : 0 ≤ dimZ ds a * dimZ ds2 b ∧ dimZ ds a * dimZ ds2 b ≤ 64 :=
  ⟨Int.mul_nonneg (h a).1 (h2 b).1, by have := Int.mul_le_mul (h a).2 (h2 b).2 (h2 b).1 (by omega : (0 : Int) ≤ 8); omega⟩
theorem tdS_bd {ds ds2 : List Int} (h : ∀ n, 0 ≤ dimZ ds n ∧ dimZ ds n ≤ 8) (h2 : ∀ n, 0 ≤ dimZ ds2 n ∧ dimZ ds2 n ≤ 8) (n : Nat) : ∀ k : Nat, 0 ≤ tdS ds ds2 n k ∧ tdS ds ds2 n k ≤ 64 * k
  | 0 => by simp [tdS]
  | k + 1 => by
    have a := tdS_bd h h2 n k
    have b := td_term h h2 (k : Int) ((n : Int) - (k : Int))
    rw [tdS]
    omega

theorem tdMul_any {x y z : Int} (hz : z = x * y) (h0 : 0 ≤ z ∧ z ≤ 64) (w : World) : Calls Try.prog 189 #[.int .i64 x, .int .i64 y] w (QW (.int .i64 z) w) := by
  have hmul : IntKind.i64.wrap (x * y) = z := by rw [← hz]; exact IntWalk.i64_in _ (by omega)
  clear hz
  go_enter Try.func189, Try.ntmps189
  go_wp2
  go_ret
  exact ⟨rfl, rfl⟩

set_option maxHeartbeats 1600000 in
set_option maxRecDepth 100000 in
theorem sumDeg_any (n : Nat) (v v2 : Value) (ds ds2 : List Int) (w : World) (h : L1 0 w v ds) (h2 : L1 0 w v2 ds2) (hl : ds.length ≤ 100) (hl2 : ds2.length ≤ 100) (hn : n ≤ 200) (hb : ∀ n, 0 ≤ dimZ ds n ∧ dimZ ds n ≤ 8) (hb2 : ∀ n, 0 ≤ dimZ ds2 n ∧ dimZ ds2 n ≤ 8) :
    Calls Try.prog 188 #[v, v2, .int .i64 (n : Int), .func (.func 189) #[] #[]] w (QW (.int .i64 (tdN ds ds2 n)) w) := by
  rw [← tdS_full]
  obtain ⟨ad, cap, rfl⟩ := Sl.shape h
  obtain ⟨ad2, cap2, rfl⟩ := Sl.shape h2
  have H := Lib.hid h
  have H2 := Lib.hid h2
  have HB := Lib.hid hb
  have HB2 := Lib.hid hb2
  clear h h2 hb hb2
  go_enter Try.func188, Try.ntmps188
  go_wp2
  go_loop [9, 15] (fun s i => ∃ k : Nat, k ≤ ds.length ∧ i = .int .i64 k ∧ s = .int .i64 (tdS ds ds2 n k)) (fun _ i => ds.length - (intOf i).toNat)
  case atStart => exact ⟨0, Nat.zero_le _, rfl, rfl⟩
  case round =>
    obtain ⟨k, hk, rfl, rfl⟩ := hrel
    by_cases hlt : k < ds.length
    · have hkl : (k : Int) < (ds.length : Int) := by omega
      refine Sl.cases H.out (fun _ _ hx _ => absurd hlt (by simp [hx])) (fun bt ot ct2 hvt _ _ hcl => ?_)
      injection hvt with e1 e2 e3
      clear e2
      subst e1 e3
      obtain ⟨u, hu, hru⟩ := hcl k hlt
      obtain ⟨x, hx⟩ : ∃ x, x = ds[k] := ⟨_, rfl⟩
      have hux : w.cell? ⟨bt, ot + k, none⟩ = some (.int .i64 x) := by rw [hu, hru, ← hx]
      have HXD : Hid (dimZ ds (k : Int) = x) := Lib.hid (by rw [hx, dimZ_in rfl hlt])
      have hsb := tdS_bd HB.out HB2.out n k
      have hk1 : (k : Int) ≤ 100 := by omega
      have hsub : IntKind.i64.wrap ((n : Int) - (k : Int)) = (n : Int) - (k : Int) := IntWalk.i64_in _ (by omega)
      have hsl : IntKind.i64.wrap ((ds2.length : Int) - 1) = (ds2.length : Int) - 1 := IntWalk.i64_in _ (by omega)
      obtain ⟨s, hs⟩ : ∃ s, s = tdS ds ds2 n k := ⟨_, rfl⟩
      rw [← hs] at hsb ⊢
      have HS := Lib.hid hs
      clear hs hu hru hx hcl
      by_cases hj : 0 ≤ (n : Int) - (k : Int) ∧ (n : Int) - (k : Int) ≤ (ds2.length : Int) - 1
      · have HJ := Lib.hid hj
        have hj2 : n - k < ds2.length := by omega
        have hj3 : (n : Int) - (k : Int) = ((n - k : Nat) : Int) := by omega
        obtain ⟨y, hy⟩ : ∃ y, y = ds2[n - k] := ⟨_, rfl⟩
        refine Sl.cases H2.out (fun _ _ hx _ => absurd hj2 (by simp [hx])) (fun bt2 ot2 ct3 hvt _ _ hcl => ?_)
        injection hvt with e1 e2 e3
        clear e2
        subst e1 e3
        obtain ⟨u, hu, hru⟩ := hcl (n - k) hj2
        have huy : w.cell? ⟨bt2, ot2 + (n - k), none⟩ = some (.int .i64 y) := by rw [hu, hru, ← hy]
        have HYD : Hid (dimZ ds2 ((n : Int) - (k : Int)) = y) := Lib.hid (by rw [hy, dimZ_in hj3 hj2])
        obtain ⟨z, hz⟩ : ∃ z, z = x * y := ⟨_, rfl⟩
        have hzb : 0 ≤ z ∧ z ≤ 64 := by have := td_term HB.out HB2.out (k : Int) ((n : Int) - (k : Int)); rw [HXD.out, HYD.out, ← hz] at this; exact this
        have HZ := Lib.hid hz
        have HST : Hid (tdS ds ds2 n (k + 1) = s + z) := Lib.hid (by rw [tdS, HXD.out, HYD.out, ← HS.out, ← hz])
        have hi2 : (0 : Int) ≤ (n : Int) - (k : Int) := by omega
        have hi3 : (n : Int) - (k : Int) < (ds2.length : Int) := by omega
        have hi4 : ((n : Int) - (k : Int)).toNat = n - k := by omega
        clear hu hru hy hcl hz hj hj3
        go_wp2_with fail
        refine (in_yes HJ.out _).mono ?_
        rintro ee w' ⟨rfl, rfl⟩
        go_wp2_with fail
        refine (tdMul_any HZ.out hzb _).mono ?_
        rintro ee w' ⟨rfl, rfl⟩
        go_wp2
        go_round
        case rel => exact ⟨k + 1, by omega, by go_num, by rw [HST.out]⟩
        case measure => simp [intOf]; omega
      · have HJ := Lib.hid hj
        have HST : Hid (tdS ds ds2 n (k + 1) = s) := Lib.hid (by rw [tdS, dimZ_out hj, Int.mul_zero, Int.add_zero, HS.out])
        clear hj
        go_wp2_with fail
        refine (in_no HJ.out _).mono ?_
        rintro ee w' ⟨rfl, rfl⟩
        go_wp2
        go_round
        case rel => exact ⟨k + 1, by omega, by go_num, by rw [HST.out]⟩
        case measure => simp [intOf]; omega
    · have HK : Hid (k = ds.length) := Lib.hid (by omega)
      go_wp2
      go_ret
      exact ⟨ret_int (by rw [HK.out]), rfl⟩

/-- The dimensions of a product in memory of their own. -/
def TdR (ds ds2 : List Int) (w : World) (e : Ending) (w' : World) : Prop := ∃ u, e = .returned u ∧ Rw1 w.heap.size w'.heap.size w' u (tdD ds ds2) ∧ Below w.heap.size w w'

set_option maxHeartbeats 3200000 in
set_option maxRecDepth 100000 in
theorem tensorDims_any (p p2 : Int) (dv mv dv2 mv2 : Value) (ds : List Int) (ms : List (List (List Int))) (ds2 : List Int) (ms2 : List (List (List Int))) (w : World) (h : Cx 0 w dv mv ds ms) (h2 : Cx 0 w dv2 mv2 ds2 ms2) (hc : IsCx p ds ms) (hc2 : IsCx p2 ds2 ms2) :
    Calls Try.prog 138 #[.agg #[.int .i64 p, dv, mv], .agg #[.int .i64 p2, dv2, mv2]] w (TdR ds ds2 w) := by
  obtain ⟨ad, cap, rfl⟩ := Sl.shape h.dims
  obtain ⟨am, capm, rfl⟩ := Sl.shape h.maps
  obtain ⟨ad2, cap2, rfl⟩ := Sl.shape h2.dims
  obtain ⟨am2, capm2, rfl⟩ := Sl.shape h2.maps
  obtain ⟨w1, hw1⟩ : ∃ w1, w1 = (w.alloc (.cells #[.int .i64 p, .slice ad ds.length cap, .slice am ms.length capm] 30)).alloc (.cells #[.int .i64 p2, .slice ad2 ds2.length cap2, .slice am2 ms2.length capm2] 30) := ⟨_, rfl⟩
  have hs1 : w.heap.size + 2 = w1.heap.size := by rw [hw1]; simp
  have HX : Hid (Bx w w1 w.heap.size p (.slice ad ds.length cap) (.slice am ms.length capm) ds ms) := Lib.hid (by rw [hw1]; exact (bx_two 30 h h2).1)
  have HY : Hid (Bx w w1 (w.heap.size + 1) p2 (.slice ad2 ds2.length cap2) (.slice am2 ms2.length capm2) ds2 ms2) := Lib.hid (by rw [hw1]; exact (bx_two 30 h h2).2)
  have HN : Hid (∀ W, Below w1.heap.size w1 W → Bx w W w.heap.size p (.slice ad ds.length cap) (.slice am ms.length capm) ds ms ∧ Bx w W (w.heap.size + 1) p2 (.slice ad2 ds2.length cap2) (.slice am2 ms2.length capm2) ds2 ms2) := Lib.hid (fun W hb => ⟨HX.out.next hb, HY.out.next hb⟩)
  have hl1 := hc.1.len1
  have hl2 := hc2.1.len1
  have hl3 := hc.1.len0
  have hl4 := hc2.1.len0
  have HC := Lib.hid hc
  have HC2 := Lib.hid hc2
  obtain ⟨m, hm⟩ : ∃ m, m = tdL ds ds2 := ⟨_, rfl⟩
  have hme : m = ds.length + ds2.length - 1 := hm
  have HM := Lib.hid hm
  have hm11 : m ≤ 11 := by omega
  have hadd1 : ∀ w, (binOp .add 2 (.int .i64 ((ds.length : Int) - 1)) (.int .i64 ((ds2.length : Int) - 1))).run Try.prog w = .ok (.int .i64 ((m : Int) - 1)) w := haddA (by rw [show (ds.length : Int) - 1 + ((ds2.length : Int) - 1) = (m : Int) - 1 by omega]; exact IntWalk.i64_in _ (by omega))
  have hadd2 : ∀ w, (binOp .add 2 (.int .i64 ((m : Int) - 1)) (.int .i64 1)).run Try.prog w = .ok (.int .i64 (m : Int)) w := haddA (by rw [show (m : Int) - 1 + 1 = (m : Int) by omega]; exact IntWalk.i64_in _ (by omega))
  have hmk := run_make_row' (P := Try.prog) 22 2 (.int .i64 0) 8 Try.underlying22 Try.infoI rfl .i64 .i64 m (by omega) (by omega)
  clear h h2 hc hc2 hm hme HX HY
  go_enter Try.func138, Try.ntmps138
  go_wp2
  rw [← hw1]
  clear hw1
  refine wp_region_held (S := fun W => Below w1.heap.size w1 W) (by kernel_rfl) ?_
  have S0 : Below w1.heap.size w1 w1.drew := (Below.refl _ _).drew
  refine held_take (i := 0) (v := .agg #[.int .i64 p, .slice ad ds.length cap, .slice am ms.length capm]) (some 7) rfl rfl (by kernel_rfl) (by kernel_rfl) (by kernel_rfl) (fun _ _ _ h => h) (yieldsIf_cell (by kernel_rfl) rfl (by kernel_rfl) (fun W h => hload3x (HN.out W h).1)) S0 ?_
  refine held_take (i := 2) (v := .agg #[.int .i64 p2, .slice ad2 ds2.length cap2, .slice am2 ms2.length capm2]) (some 9) rfl rfl (by kernel_rfl) (by kernel_rfl) (by kernel_rfl) (fun _ _ _ h => h) (yieldsIf_cell (by kernel_rfl) rfl (by kernel_rfl) (fun W h => hload3x (HN.out W h).2)) S0 ?_
  refine held_enter (i := 1) (some 8) (f := 153) (args := #[.agg #[.int .i64 p, .slice ad ds.length cap, .slice am ms.length capm]]) (by kernel_rfl) rfl rfl rfl (by kernel_rfl) (topOf_any p _ _ ds.length ad cap _ rfl (by omega)) ?_ (fun c w' h => by cases h.1) (fun w' h => by cases h.1)
  rintro e4 W4 ⟨he4, hb4⟩
  injection he4 with he4
  subst he4
  have S1 : Below w1.heap.size w1 W4 := S0.trans (hb4.mono S0.size)
  refine ⟨S1, ?_⟩
  refine held_enter (i := 3) (some 10) (f := 153) (args := #[.agg #[.int .i64 p2, .slice ad2 ds2.length cap2, .slice am2 ms2.length capm2]]) (by kernel_rfl) rfl rfl rfl (by kernel_rfl) (topOf_any p2 _ _ ds2.length ad2 cap2 _ rfl (by omega)) ?_ (fun c w' h => by cases h.1) (fun w' h => by cases h.1)
  rintro e5 W5 ⟨he5, hb5⟩
  injection he5 with he5
  subst he5
  have S2 : Below w1.heap.size w1 W5 := S1.trans (hb5.mono S1.size)
  refine ⟨S2, ?_⟩
  refine held_take (i := 4) (v := .int .i64 ((m : Int) - 1)) (some 11) rfl rfl (by kernel_rfl) (by kernel_rfl) (by kernel_rfl) (fun _ _ _ h => h) (yieldsIf_bin (by kernel_rfl) rfl (by kernel_rfl) (by kernel_rfl) (fun _ => rfl) hadd1) S2 ?_
  refine held_take (i := 5) (v := .int .i64 (m : Int)) (some 12) rfl rfl (by kernel_rfl) (by kernel_rfl) (by kernel_rfl) (fun _ _ _ h => h) (yieldsIf_bin (by kernel_rfl) rfl (by kernel_rfl) (by kernel_rfl) (fun _ => rfl) hadd2) S2 ?_
  obtain ⟨we, hwe⟩ : ∃ we, we = W5.alloc (.cells (madeCells #[.int .i64 0] m) 2) := ⟨_, rfl⟩
  have hbe : Below W5.heap.size W5 we := by rw [hwe]; exact below_alloc1 _ _
  have S3 : Below w1.heap.size w1 we := S2.trans (hbe.mono S2.size)
  have HROW0 : Hid (we.rowIs W5.heap.size 2 m (fun _ => .int .i64 0)) := Lib.hid (by rw [hwe]; exact World.rowIs_made W5 (.int .i64 0) m 2)
  refine held_make (i := 6) (v := .slice (some ⟨W5.heap.size, 0, none⟩) m m) (w' := we) (x := .int .i64 (m : Int)) (y := .int .i64 (m : Int)) (some 13) 22 (.tmp 12) (.tmp 12) (by kernel_rfl) rfl rfl rfl rfl (by kernel_rfl) (by kernel_rfl) (by rw [hwe]; exact hmk W5) S3 ?_
  refine held_take (i := 7) (v := .slice (some ⟨W5.heap.size, 0, none⟩) m m) (some 5) rfl rfl (by kernel_rfl) (by kernel_rfl) (by kernel_rfl) (fun _ _ _ h => h) (yieldsIf_assign (by kernel_rfl) rfl (by kernel_rfl)) S3 ?_
  refine wpAnyH_done (by kernel_rfl) ?_ _
  simp only [Act.put, List.setIfInBounds_toArray, List.set_cons_zero, List.set_cons_succ]
  have HB0 := Lib.hid S3
  have HG : Hid (w1.heap.size ≤ W5.heap.size) := Lib.hid S2.size
  obtain ⟨g, hg⟩ : ∃ g, g = W5.heap.size := ⟨_, rfl⟩
  rw [← hg] at HROW0 HG ⊢
  clear S0 S1 S2 S3 hb4 hb5 hbe hwe hmk hg hadd1 hadd2
  go_wp2
  go_loopw [6, 16] (fun _ i wr => ∃ k : Nat, k ≤ m ∧ i = .int .i64 k ∧ Hid (Below w1.heap.size w1 wr) ∧ Hid (wr.rowIs g 2 m (fun j => .int .i64 (if j < k then tdN ds ds2 j else 0)))) (fun _ i _ => m - (intOf i).toNat)
  case atStart => exact ⟨0, Nat.zero_le _, rfl, HB0, Lib.hid (HROW0.out.congr (fun j _ => by simp))⟩
  case round =>
    clear HB0 HROW0
    obtain ⟨k, hk, rfl, HB, HROW⟩ := hrel
    obtain ⟨wx, hwx⟩ : ∃ wx : World, wx = wr := ⟨_, rfl⟩
    subst hwx
    by_cases hlt : k < m
    · have c1 := (HN.out _ HB.out).1.c1
      have d1 := (HN.out _ HB.out).2.c1
      have hcell := HROW.out.cell hlt
      have hfz := HROW.out.frozen k
      have hkm : (k : Int) < (m : Int) := by omega
      have HR2 : Hid ((wx.setCell ⟨g, k, none⟩ (.int .i64 (tdN ds ds2 k))).rowIs g 2 m (fun j => .int .i64 (if j < k + 1 then tdN ds ds2 j else 0))) := Lib.hid ((HROW.out.set k (.int .i64 (tdN ds ds2 k))).congr (fun j _ => by
        by_cases e : j = k
        · subst e; rw [if_pos rfl, if_pos (Nat.lt_succ_self _)]
        · rw [if_neg e]
          by_cases e2 : j < k
          · rw [if_pos e2, if_pos (by omega)]
          · rw [if_neg e2, if_neg (by omega)]))
      have HB2 : Hid (Below w1.heap.size w1 (wx.setCell ⟨g, k, none⟩ (.int .i64 (tdN ds ds2 k)))) := Lib.hid (HB.out.setCell HG.out _)
      go_wp2_with fail
      refine (sumDeg_any k _ _ ds ds2 _ (HN.out _ HB.out).1.cx.dims (HN.out _ HB.out).2.cx.dims (by omega) (by omega) (by omega) (dimZ_b HC.out) (dimZ_b HC2.out)).mono ?_
      rintro ee w' ⟨rfl, rfl⟩
      go_wp2
      go_roundw
      case rel => exact ⟨k + 1, by omega, by go_num, HB2, HR2⟩
      case measure => simp [intOf]; omega
    · have HK : Hid (k = m) := Lib.hid (by omega)
      have hgl := HROW.out.lt
      go_wp2
      go_ret
      have hbw := (HN.out _ HB.out).1.below
      refine ⟨_, rfl, w1_rw1 ?_ (by rw [tdD_length, ← HM.out]; omega), hbw⟩
      have hle : w.heap.size ≤ g := by have := HG.out; omega
      have hrow := HROW.out
      rw [HK.out] at hrow
      exact (row_rc (xs := tdD ds ds2) (lo := w.heap.size) hrow (by rw [tdD_length, HM.out]) (fun i hi => by
        have hi' : i < m := by rw [tdD_length, ← HM.out] at hi; exact hi
        simp [tdD, hi']) (by omega) hle).1


/-- The dimensions as the model gathers them. -/
def TdG (ds ds2 : List Int) (w : World) (e : Ending) (w' : World) : Prop := ∃ u, e = .returned u ∧ Gb w.heap.size w' u (tdD ds ds2) ∧ Below w.heap.size w w'

set_option maxHeartbeats 6400000 in
set_option maxRecDepth 100000 in
theorem l06Dims_any (p p2 : Int) (dv mv dv2 mv2 : Value) (ds : List Int) (ms : List (List (List Int))) (ds2 : List Int) (ms2 : List (List (List Int))) (w : World) (h : Cx 0 w dv mv ds ms) (h2 : Cx 0 w dv2 mv2 ds2 ms2) (hc : IsCx p ds ms) (hc2 : IsCx p2 ds2 ms2) :
    Calls Try.prog 76 #[.agg #[.int .i64 p, dv, mv], .agg #[.int .i64 p2, dv2, mv2]] w (TdG ds ds2 w) := by
  obtain ⟨ad, cap, rfl⟩ := Sl.shape h.dims
  obtain ⟨am, capm, rfl⟩ := Sl.shape h.maps
  obtain ⟨ad2, cap2, rfl⟩ := Sl.shape h2.dims
  obtain ⟨am2, capm2, rfl⟩ := Sl.shape h2.maps
  obtain ⟨w1, hw1⟩ : ∃ w1, w1 = (w.alloc (.cells #[.int .i64 p, .slice ad ds.length cap, .slice am ms.length capm] 30)).alloc (.cells #[.int .i64 p2, .slice ad2 ds2.length cap2, .slice am2 ms2.length capm2] 30) := ⟨_, rfl⟩
  have hs1 : w.heap.size + 2 = w1.heap.size := by rw [hw1]; simp
  have HX : Hid (Bx w w1 w.heap.size p (.slice ad ds.length cap) (.slice am ms.length capm) ds ms) := Lib.hid (by rw [hw1]; exact (bx_two 30 h h2).1)
  have HY : Hid (Bx w w1 (w.heap.size + 1) p2 (.slice ad2 ds2.length cap2) (.slice am2 ms2.length capm2) ds2 ms2) := Lib.hid (by rw [hw1]; exact (bx_two 30 h h2).2)
  have HN : Hid (∀ W, Below w1.heap.size w1 W → Bx w W w.heap.size p (.slice ad ds.length cap) (.slice am ms.length capm) ds ms ∧ Bx w W (w.heap.size + 1) p2 (.slice ad2 ds2.length cap2) (.slice am2 ms2.length capm2) ds2 ms2) := Lib.hid (fun W hb => ⟨HX.out.next hb, HY.out.next hb⟩)
  have hl1 := hc.1.len1
  have hl2 := hc2.1.len1
  have hl3 := hc.1.len0
  have hl4 := hc2.1.len0
  have HC := Lib.hid hc
  have HC2 := Lib.hid hc2
  obtain ⟨m, hm⟩ : ∃ m, m = tdL ds ds2 := ⟨_, rfl⟩
  have hme : m = ds.length + ds2.length - 1 := hm
  have HM := Lib.hid hm
  have hm11 : m ≤ 11 := by omega
  have hadd1 : IntKind.i64.wrap ((ds.length : Int) + (ds2.length : Int)) = (ds.length : Int) + (ds2.length : Int) := IntWalk.i64_in _ (by omega)
  have hadd2 : (ds.length : Int) + (ds2.length : Int) - 1 = (m : Int) := by omega
  have hdn : ∀ n, 0 ≤ dimZ ds n ∧ dimZ ds n ≤ 8 := dimZ_b hc
  have hdn2 : ∀ n, 0 ≤ dimZ ds2 n ∧ dimZ ds2 n ≤ 8 := dimZ_b hc2
  have HDN := Lib.hid hdn
  have HDN2 := Lib.hid hdn2
  have HADD2 := Lib.hid hadd2
  have HOWN0 := Lib.hid (Gb.new (base := w1.heap.size) w1 (Nat.le_refl _))
  have HB0 := Lib.hid (below_alloc1 w1 (.cells #[] 2))
  have hs0 : w.heap.size ≤ w1.heap.size := by omega
  clear h h2 hc hc2 hm hme HX HY hdn hdn2 hadd2
  go_enter Try.func76, Try.ntmps76
  go_upto_region 1 with fail
  rw [← hw1]
  clear hw1
  go_wp2
  go_loopw [5, 6, 7, 8] (fun ov i _ _ wr => ∃ k : Nat, k ≤ m ∧ i = .int .i64 k ∧ Hid (Below w1.heap.size w1 wr) ∧ Hid (Gb w1.heap.size wr ov ((tdD ds ds2).take k))) (fun _ i _ _ _ => m - (intOf i).toNat)
  case atStart => exact ⟨0, Nat.zero_le _, rfl, HB0, Lib.hid (by simpa using HOWN0.out)⟩
  case round =>
    clear HB0 HOWN0
    obtain ⟨k, hk, rfl, HB, HO⟩ := hrel
    obtain ⟨wx, hwx⟩ : ∃ wx : World, wx = wr := ⟨_, rfl⟩
    subst hwx
    have c1 := (HN.out _ HB.out).1.c1
    have d1 := (HN.out _ HB.out).2.c1
    by_cases hlt : k < m
    · have hkm : (k : Int) < (ds.length : Int) + (ds2.length : Int) - 1 := by have := HADD2.out; omega
      go_wp2
      have HNX : Hid (∀ W, Below wx.heap.size wx W → Bx w W w.heap.size p (.slice ad ds.length cap) (.slice am ms.length capm) ds ms ∧ Bx w W (w.heap.size + 1) p2 (.slice ad2 ds2.length cap2) (.slice am2 ms2.length capm2) ds2 ms2) := Lib.hid (fun W hb => HN.out W (HB.out.trans (hb.mono HB.out.size)))
      clear c1 d1
      go_loopw [7, 8] (fun sv j wr => ∃ q : Nat, q ≤ k + 1 ∧ j = .int .i64 q ∧ sv = .int .i64 (tdS ds ds2 k q) ∧ Hid (Below wx.heap.size wx wr)) (fun _ j _ => k + 1 - (intOf j).toNat)
      case atStart => exact ⟨0, Nat.zero_le _, rfl, rfl, Lib.hid (Below.refl _ _)⟩
      case round =>
        obtain ⟨q, hq, rfl, rfl, HBI⟩ := hrel
        obtain ⟨wi, hwi⟩ : ∃ wi : World, wi = wr := ⟨_, rfl⟩
        subst hwi
        have hsb := tdS_bd HDN.out HDN2.out k q
        obtain ⟨s, hs⟩ : ∃ s, s = tdS ds ds2 k q := ⟨_, rfl⟩
        rw [← hs] at hsb ⊢
        have HS := Lib.hid hs
        clear hs
        by_cases hlq : q ≤ k
        · have hqk : (q : Int) ≤ (k : Int) := by omega
          have hsub : ∀ w, (binOp .sub 2 (.int .i64 (k : Int)) (.int .i64 (q : Int))).run Try.prog w = .ok (.int .i64 ((k : Int) - (q : Int))) w := hsubA (IntWalk.i64_in _ (by omega))
          obtain ⟨x, hx⟩ : ∃ x, x = dimZ ds (q : Int) := ⟨_, rfl⟩
          obtain ⟨y, hy⟩ : ∃ y, y = dimZ ds2 ((k : Int) - (q : Int)) := ⟨_, rfl⟩
          obtain ⟨z, hz⟩ : ∃ z, z = x * y := ⟨_, rfl⟩
          have hzb : 0 ≤ z ∧ z ≤ 64 := by have := td_term HDN.out HDN2.out (q : Int) ((k : Int) - (q : Int)); rw [← hx, ← hy, ← hz] at this; exact this
          have hmul : ∀ w, (binOp .mul 2 (.int .i64 x) (.int .i64 y)).run Try.prog w = .ok (.int .i64 z) w := hmulA (by rw [← hz]; exact IntWalk.i64_in _ (by omega))
          have hadd : ∀ w, (binOp .add 2 (.int .i64 s) (.int .i64 z)).run Try.prog w = .ok (.int .i64 (s + z)) w := haddA (IntWalk.i64_in _ (by omega))
          have HST : Hid (tdS ds ds2 k (q + 1) = s + z) := Lib.hid (by rw [tdS, ← HS.out, hz, hx, hy])
          have HK1 : Hid (∀ W, Below wx.heap.size wx W → Calls Try.prog 135 #[.agg #[.int .i64 p, .slice ad ds.length cap, .slice am ms.length capm], .int .i64 (q : Int)] W (BR (.int .i64 x) W)) := Lib.hid (fun W hb => by rw [hx]; exact l01Dim_any p (q : Int) _ _ ds ms W (HNX.out W hb).1.cx (by omega))
          have HK2 : Hid (∀ W, Below wx.heap.size wx W → Calls Try.prog 135 #[.agg #[.int .i64 p2, .slice ad2 ds2.length cap2, .slice am2 ms2.length capm2], .int .i64 ((k : Int) - (q : Int))] W (BR (.int .i64 y) W)) := Lib.hid (fun W hb => by rw [hy]; exact l01Dim_any p2 ((k : Int) - (q : Int)) _ _ ds2 ms2 W (HNX.out W hb).2.cx (by omega))
          clear hx hy hz
          go_wp2
          refine wp_region_held (S := fun W => Below wx.heap.size wx W) (by kernel_rfl) ?_
          have S0 : Below wx.heap.size wx wi.drew := HBI.out.drew
          refine held_take (i := 0) (v := .int .i64 s) (some 27) rfl rfl (by kernel_rfl) (by kernel_rfl) (by kernel_rfl) (fun _ _ _ h => h) (yieldsIf_move (by kernel_rfl) rfl (by kernel_rfl)) S0 ?_
          refine held_take (i := 1) (v := .agg #[.int .i64 p, .slice ad ds.length cap, .slice am ms.length capm]) (some 28) rfl rfl (by kernel_rfl) (by kernel_rfl) (by kernel_rfl) (fun _ _ _ h => h) (yieldsIf_cell (by kernel_rfl) rfl (by kernel_rfl) (fun W h => hload3x (HNX.out W h).1)) S0 ?_
          refine held_take (i := 2) (v := .int .i64 (q : Int)) (some 29) rfl rfl (by kernel_rfl) (by kernel_rfl) (by kernel_rfl) (fun _ _ _ h => h) (yieldsIf_move (by kernel_rfl) rfl (by kernel_rfl)) S0 ?_
          refine held_take (i := 4) (v := .agg #[.int .i64 p2, .slice ad2 ds2.length cap2, .slice am2 ms2.length capm2]) (some 31) rfl rfl (by kernel_rfl) (by kernel_rfl) (by kernel_rfl) (fun _ _ _ h => h) (yieldsIf_cell (by kernel_rfl) rfl (by kernel_rfl) (fun W h => hload3x (HNX.out W h).2)) S0 ?_
          refine held_take (i := 5) (v := .int .i64 (k : Int)) (some 32) rfl rfl (by kernel_rfl) (by kernel_rfl) (by kernel_rfl) (fun _ _ _ h => h) (yieldsIf_move (by kernel_rfl) rfl (by kernel_rfl)) S0 ?_
          refine held_take (i := 6) (v := .int .i64 (q : Int)) (some 33) rfl rfl (by kernel_rfl) (by kernel_rfl) (by kernel_rfl) (fun _ _ _ h => h) (yieldsIf_move (by kernel_rfl) rfl (by kernel_rfl)) S0 ?_
          refine held_take (i := 7) (v := .int .i64 ((k : Int) - (q : Int))) (some 34) rfl rfl (by kernel_rfl) (by kernel_rfl) (by kernel_rfl) (fun _ _ _ h => h) (yieldsIf_bin (by kernel_rfl) rfl (by kernel_rfl) (by kernel_rfl) (fun _ => rfl) hsub) S0 ?_
          refine held_enter (i := 3) (some 30) (f := 135) (args := #[.agg #[.int .i64 p, .slice ad ds.length cap, .slice am ms.length capm], .int .i64 (q : Int)]) (by kernel_rfl) rfl rfl rfl (by kernel_rfl) (HK1.out _ S0) ?_ (fun c w' h => by cases h.1) (fun w' h => by cases h.1)
          rintro e4 W4 ⟨he4, hb4⟩
          injection he4 with he4
          subst he4
          have S1 : Below wx.heap.size wx W4 := S0.trans (hb4.mono S0.size)
          refine ⟨S1, ?_⟩
          refine held_enter (i := 8) (some 35) (f := 135) (args := #[.agg #[.int .i64 p2, .slice ad2 ds2.length cap2, .slice am2 ms2.length capm2], .int .i64 ((k : Int) - (q : Int))]) (by kernel_rfl) rfl rfl rfl (by kernel_rfl) (HK2.out _ S1) ?_ (fun c w' h => by cases h.1) (fun w' h => by cases h.1)
          rintro e5 W5 ⟨he5, hb5⟩
          injection he5 with he5
          subst he5
          have S2 : Below wx.heap.size wx W5 := S1.trans (hb5.mono S1.size)
          refine ⟨S2, ?_⟩
          refine held_take (i := 9) (v := .int .i64 z) (some 36) rfl rfl (by kernel_rfl) (by kernel_rfl) (by kernel_rfl) (fun _ _ _ h => h) (yieldsIf_bin (by kernel_rfl) rfl (by kernel_rfl) (by kernel_rfl) (fun _ => rfl) hmul) S2 ?_
          refine held_take (i := 10) (v := .int .i64 (s + z)) (some 37) rfl rfl (by kernel_rfl) (by kernel_rfl) (by kernel_rfl) (fun _ _ _ h => h) (yieldsIf_bin (by kernel_rfl) rfl (by kernel_rfl) (by kernel_rfl) (fun _ => rfl) hadd) S2 ?_
          refine held_take (i := 11) (v := .int .i64 (s + z)) (some 7) rfl rfl (by kernel_rfl) (by kernel_rfl) (by kernel_rfl) (fun _ _ _ h => h) (yieldsIf_assign (by kernel_rfl) rfl (by kernel_rfl)) S2 ?_
          refine wpAnyH_done (by kernel_rfl) ?_ _
          simp only [Act.put, List.setIfInBounds_toArray, List.set_cons_zero, List.set_cons_succ]
          have HB2 := Lib.hid S2
          clear S0 S1 S2 hb4 hb5 hsub hmul hadd
          go_wp2
          go_roundw
          case rel => exact ⟨q + 1, by omega, by go_num, by rw [HST.out], HB2⟩
          case measure => simp [intOf]; omega
        · have HQ : Hid (s = tdN ds ds2 k) := Lib.hid (by rw [HS.out, show q = k + 1 by omega]; rfl)
          have hqk : ¬ (q : Int) ≤ (k : Int) := by omega
          have hsw : w1.heap.size ≤ wi.heap.size := Nat.le_trans HB.out.size HBI.out.size
          have HB3 := Lib.hid ((HB.out.trans (HBI.out.mono HB.out.size)).alloc hsw (.cells #[.int .i64 s] 2))
          have HO3 := Lib.hid ((HO.out.below HBI.out).below (below_alloc1 wi (.cells #[.int .i64 s] 2)))
          have HL1 : Hid (L1 0 (wi.alloc (.cells #[.int .i64 s] 2)) (.slice (some ⟨wi.heap.size, 0, none⟩) 1 1) [s]) := Lib.hid (Or.inr ⟨wi.heap.size, 0, 1, rfl, Nat.zero_le _, by simp, fun j hj => by
            have hj0 : j = 0 := by simpa using hj
            subst hj0
            exact ⟨_, cell_alloc1 wi _ _, rfl⟩⟩)
          have HTK : Hid ((tdD ds ds2).take k ++ [s] = (tdD ds ds2).take (k + 1)) := Lib.hid (by rw [List.take_succ_eq_append_getElem (by rw [tdD_length, ← HM.out]; exact hlt), HQ.out]; simp [tdD])
          have HTL : Hid (((tdD ds ds2).take k).length ≤ 20) := Lib.hid (by rw [List.length_take]; omega)
          go_wp2_with (at_builtin; refine wpList_appendN rfl (some 41) rfl (.tmp 38) (.tmp 40) rfl w1.heap.size _ _ ((tdD ds ds2).take k) [s] rfl rfl HO3.out HL1.out ?c1 ?c2 ?_)
          case c1 => omega
          case c2 => omega
          intro v4 W4 hg4 hgr4
          have HB4 := Lib.hid (HB3.out.grown hgr4 (by simp; omega) (fun g hg => ((World.ownsRow.lt HO3.out) g hg).1))
          rw [HTK.out] at hg4
          have HG4 := Lib.hid hg4
          clear hg4 hgr4
          go_wp2
          go_roundw
          case rel => exact ⟨k + 1, by omega, by go_num, HB4, HG4⟩
          case measure => simp [intOf]; omega
    · have HK : Hid (k = m) := Lib.hid (by omega)
      have hkm : ¬ (k : Int) < (ds.length : Int) + (ds2.length : Int) - 1 := by have := HADD2.out; omega
      go_wp2
      go_ret
      have ho := HO.out
      rw [HK.out, List.take_of_length_le (by rw [tdD_length, ← HM.out]; exact Nat.le_refl _)] at ho
      exact ⟨_, rfl, ho.mono hs0, (HN.out _ HB.out).1.below⟩


end Go.Proofs.Ythfcadgbipnemaa


namespace Go.Proofs.Ythfcadgbipnemaa
open Go.RowKit

set_option maxHeartbeats 12800000 in
set_option maxRecDepth 100000 in
theorem tensorOf_any (p p2 : Int) (dv mv dv2 mv2 : Value) (ds : List Int) (ms : List (List (List Int))) (ds2 : List Int) (ms2 : List (List (List Int))) (w : World) (h : Cx 0 w dv mv ds ms) (h2 : Cx 0 w dv2 mv2 ds2 ms2) (hcx : IsCx p ds ms) (hcy : IsCx p2 ds2 ms2) :
    Calls Try.prog 139 #[.agg #[.int .i64 p, dv, mv], .agg #[.int .i64 p2, dv2, mv2]] w (TsR p p2 dv mv dv2 mv2 ds ds2 w) := by
  obtain ⟨ad, cap, rfl⟩ := Sl.shape h.dims
  obtain ⟨am, capm, rfl⟩ := Sl.shape h.maps
  obtain ⟨ad2, cap2, rfl⟩ := Sl.shape h2.dims
  obtain ⟨am2, capm2, rfl⟩ := Sl.shape h2.maps
  obtain ⟨k1, k2⟩ := bx_two (p := p) (p2 := p2) 30 h h2
  obtain ⟨wb, hwb⟩ : ∃ wb, wb = ((w.alloc (.cells #[.int .i64 p, .slice ad ds.length cap, .slice am ms.length capm] 30)).alloc (.cells #[.int .i64 p2, .slice ad2 ds2.length cap2, .slice am2 ms2.length capm2] 30)) := ⟨_, rfl⟩
  rw [← hwb] at k1 k2
  obtain ⟨w1, hw1⟩ : ∃ w1, w1 = wb.alloc (.cells #[.int .i64 0, .slice none 0 0, .slice none 0 0, .int .i64 0, .slice none 0 0, .slice none 0 0, .slice none 0 0, .map none] 145) := ⟨_, rfl⟩
  have hbb : Below wb.heap.size wb w1 := by rw [hw1]; exact below_alloc1 _ _
  have HX0 := Lib.hid (k1.next hbb)
  have HY0 := Lib.hid (k2.next hbb)
  have hw1' := hw1
  rw [hwb] at hw1'
  have hzb : wb.heap.size = w.heap.size + 1 + 1 := by rw [hwb]; simp
  have HZ4 : Hid (Rz w1 (w.heap.size + 1 + 1) 145 #[.int .i64 0, .slice none 0 0, .slice none 0 0, .int .i64 0, .slice none 0 0, .slice none 0 0, .slice none 0 0, .map none]) := Lib.hid (by rw [hw1, ← hzb]; exact Rz.new _ _ _)
  have HB01 := Lib.hid HX0.out.below
  have HC1 : Hid (∀ W, Below w1.heap.size w1 W → Bx w W w.heap.size p (.slice ad ds.length cap) (.slice am ms.length capm) ds ms ∧ Bx w W (w.heap.size + 1) p2 (.slice ad2 ds2.length cap2) (.slice am2 ms2.length capm2) ds2 ms2) := Lib.hid (fun W hb => ⟨HX0.out.next hb, HY0.out.next hb⟩)
  have HCX := Lib.hid hcx
  have HCY := Lib.hid hcy
  have hl6 := hcx.1.len1
  have hl7 := hcy.1.len1
  have hl8 := hcx.1.len0
  have hl9 := hcy.1.len0
  obtain ⟨N, hN⟩ : ∃ N, N = ds.length + ds2.length - 1 := ⟨_, rfl⟩
  have hNN : (ds.length : Int) + (ds2.length : Int) - 1 = (N : Int) := by omega
  have hmk := run_make_row' (P := Try.prog) 142 195 (.slice none 0 0) 24 Try.underlyingPP Try.infoPP rfl .i64 .i64 N (by omega) (by omega)
  have hi1 : IntKind.i64.wrap ((ds.length : Int) + (ds2.length : Int)) = (ds.length : Int) + (ds2.length : Int) := IntWalk.i64_in _ (by omega)
  have hi2 : IntKind.i64.wrap ((ds.length : Int) + (ds2.length : Int) - 1) = (N : Int) := by rw [hNN]; exact IntWalk.i64_in _ (by omega)
  have HNE := Lib.hid hNN
  clear h h2 k1 k2 hcx hcy hwb hbb hw1 hzb hN hNN
  go_enter Try.func139, Try.ntmps139
  go_upto_region 1 with fail
  rw [← hw1']
  clear hw1'
  refine wp_region_held (S := fun W => Below w1.heap.size w1 W) (by kernel_rfl) ?_
  have S0 : Below w1.heap.size w1 w1.drew := (Below.refl _ _).drew
  refine held_take (i := 0) (v := .agg #[.int .i64 p, .slice ad ds.length cap, .slice am ms.length capm]) (some 11) rfl rfl (by kernel_rfl) (by kernel_rfl) (by kernel_rfl) (fun _ _ _ h => h) (yieldsIf_cell (by kernel_rfl) rfl (by kernel_rfl) (fun W h => hload3x ((HC1.out W h).1))) S0 ?_
  refine held_take (i := 1) (v := .agg #[.int .i64 p2, .slice ad2 ds2.length cap2, .slice am2 ms2.length capm2]) (some 12) rfl rfl (by kernel_rfl) (by kernel_rfl) (by kernel_rfl) (fun _ _ _ h => h) (yieldsIf_cell (by kernel_rfl) rfl (by kernel_rfl) (fun W h => hload3x ((HC1.out W h).2))) S0 ?_
  refine held_take (i := 2) (v := .pointer (some ⟨w.heap.size, 1, none⟩)) (some 13) rfl rfl (by kernel_rfl) (by kernel_rfl) (by kernel_rfl) (fun _ _ _ h => h) (yieldsIf_run (by kernel_rfl) (fun W _ => by kernel_rfl)) S0 ?_
  refine held_take (i := 3) (v := .slice ad ds.length cap) (some 14) rfl rfl (by kernel_rfl) (by kernel_rfl) (by kernel_rfl) (fun _ _ _ h => h) (yieldsIf_cell (by kernel_rfl) rfl (by kernel_rfl) (fun W h => hloadS W ((HC1.out W h).1.c1))) S0 ?_
  refine held_take (i := 4) (v := .int .i64 (ds.length : Int)) (some 15) rfl rfl (by kernel_rfl) (by kernel_rfl) (by kernel_rfl) (fun _ _ _ h => h) (yieldsIf_run (by kernel_rfl) (fun W _ => by go_simp)) S0 ?_
  refine held_take (i := 5) (v := .pointer (some ⟨w.heap.size + 1, 1, none⟩)) (some 16) rfl rfl (by kernel_rfl) (by kernel_rfl) (by kernel_rfl) (fun _ _ _ h => h) (yieldsIf_run (by kernel_rfl) (fun W _ => by kernel_rfl)) S0 ?_
  refine held_take (i := 6) (v := .slice ad2 ds2.length cap2) (some 17) rfl rfl (by kernel_rfl) (by kernel_rfl) (by kernel_rfl) (fun _ _ _ h => h) (yieldsIf_cell (by kernel_rfl) rfl (by kernel_rfl) (fun W h => hloadS W ((HC1.out W h).2.c1))) S0 ?_
  refine held_take (i := 7) (v := .int .i64 (ds2.length : Int)) (some 18) rfl rfl (by kernel_rfl) (by kernel_rfl) (by kernel_rfl) (fun _ _ _ h => h) (yieldsIf_run (by kernel_rfl) (fun W _ => by go_simp)) S0 ?_
  refine held_take (i := 8) (v := .int .i64 ((ds.length : Int) + (ds2.length : Int))) (some 19) rfl rfl (by kernel_rfl) (by kernel_rfl) (by kernel_rfl) (fun _ _ _ h => h) (yieldsIf_bin (by kernel_rfl) rfl (by kernel_rfl) (by kernel_rfl) (fun _ => rfl) (haddN hi1)) S0 ?_
  refine held_take (i := 9) (v := .int .i64 (N : Int)) (some 20) rfl rfl (by kernel_rfl) (by kernel_rfl) (by kernel_rfl) (fun _ _ _ h => h) (yieldsIf_bin (by kernel_rfl) rfl (by kernel_rfl) (by kernel_rfl) (fun _ => rfl) (hsubN hi2)) S0 ?_
  have hd0 : w1.drew.heap.size = w1.heap.size := rfl
  refine held_three (i := 10) (j := 11) (l := 13) (by kernel_rfl) ?ox10 ?ox11 ?ox13
  case' ox10 =>
    obtain ⟨V1, hV1⟩ : ∃ W', W' = w1.drew.alloc (.cells (madeCells #[.slice none 0 0] N) 195) := ⟨_, rfl⟩
    have hbV1 : Below w1.drew.heap.size w1.drew V1 := by rw [hV1]; exact below_alloc1 _ _
    have hzV1 : V1.heap.size = w1.drew.heap.size + 1 := by rw [hV1]; simp
    have SV1 : Below w1.heap.size w1 V1 := S0.trans (hbV1.mono S0.size)
    have hS0 : V1.rowIs w1.drew.heap.size 195 N (fun _ => .slice none 0 0) := by rw [hV1]; exact World.rowIs_made w1.drew _ _ _
    refine op_make (i := 10) (v := .slice (some ⟨w1.drew.heap.size, 0, none⟩) N N) (w' := V1) (x := .int .i64 (N : Int)) (y := .int .i64 (N : Int)) (some 21) 142 (.tmp 20) (.tmp 20) rfl rfl rfl rfl (by kernel_rfl) (by kernel_rfl) (by rw [hV1]; exact hmk _) ?_
    refine ⟨SV1, ?_⟩
    refine held_two (i := 11) (j := 13) (by kernel_rfl) ?oSx11 ?oSx13
    case' oSx11 =>
      obtain ⟨V2, hV2⟩ : ∃ W', W' = V1.alloc (.map #[] 0) := ⟨_, rfl⟩
      have hbV2 : Below V1.heap.size V1 V2 := by rw [hV2]; exact below_alloc1 _ _
      have hzV2 : V2.heap.size = V1.heap.size + 1 := by rw [hV2]; simp
      have SV2 : Below w1.heap.size w1 V2 := SV1.trans (hbV2.mono SV1.size)
      have hS1 := hS0.of_block (hbV2.block _ hS0.lt)
      have hM1 : Pl V2 V1.heap.size 0 [] := by rw [hV2]; exact Pl.made _
      refine op_mem (i := 11) (v := .map (some V1.heap.size)) (w' := V2) (some 22) rfl rfl rfl (by rw [hV2]; rfl) ?_
      refine ⟨SV2, ?_⟩
      refine held_take (i := 12) (v := .agg #[.int .i64 p, .slice ad ds.length cap, .slice am ms.length capm, .int .i64 p2, .slice ad2 ds2.length cap2, .slice am2 ms2.length capm2, .slice (some ⟨w1.drew.heap.size, 0, none⟩) N N, .map (some (V1.heap.size))]) (some 23) rfl rfl (by kernel_rfl) (by kernel_rfl) (by kernel_rfl) (fun _ _ _ h => h) (yieldsIf_run (by kernel_rfl) (fun W _ => by kernel_rfl)) SV2 ?_
      refine held_one (i := 13) (by kernel_rfl) ?_
      obtain ⟨V3, hV3⟩ : ∃ W', W' = V2.alloc (.cells #[.int .i64 0, .slice none 0 0, .slice none 0 0, .int .i64 0, .slice none 0 0, .slice none 0 0, .slice none 0 0, .map none] 145) := ⟨_, rfl⟩
      have hbV3 : Below V2.heap.size V2 V3 := by rw [hV3]; exact below_alloc1 _ _
      have hzV3 : V3.heap.size = V2.heap.size + 1 := by rw [hV3]; simp
      have SV3 : Below w1.heap.size w1 V3 := SV2.trans (hbV3.mono SV2.size)
      have hS2 := hS1.of_block (hbV3.block _ hS1.lt)
      have hM2 := hM1.below hbV3
      have hR2 : Rz V3 V2.heap.size 145 #[.int .i64 0, .slice none 0 0, .slice none 0 0, .int .i64 0, .slice none 0 0, .slice none 0 0, .slice none 0 0, .map none] := by rw [hV3]; exact Rz.new _ _ _
      refine op_mem (i := 13) (v := .pointer (some ⟨V2.heap.size, 0, none⟩)) (w' := V3) (some 5) rfl rfl rfl (by rw [hV3]; go_simp) ?_
      refine ⟨SV3, ?_⟩
      have T1 : Below w1.heap.size w1 (V3.setRow (V2.heap.size) #[.int .i64 p, .slice ad ds.length cap, .slice am ms.length capm, .int .i64 p2, .slice ad2 ds2.length cap2, .slice am2 ms2.length capm2, .slice (some ⟨w1.drew.heap.size, 0, none⟩) N N, .map (some (V1.heap.size))]) := below_setRow SV3 (by omega) _
      refine held_one (i := 14) (by kernel_rfl) ?_
      refine op_row (i := 14) rfl rfl rfl 145 (.tmp 5) (.tmp 23) rfl (V2.heap.size) #[.int .i64 p, .slice ad ds.length cap, .slice am ms.length capm, .int .i64 p2, .slice ad2 ds2.length cap2, .slice am2 ms2.length capm2, .slice (some ⟨w1.drew.heap.size, 0, none⟩) N N, .map (some (V1.heap.size))] (by kernel_rfl) (by kernel_rfl) 145 _ hR2 (infoTs _ _ _ _ _ _ _ _) (by kernel_rfl) (by kernel_rfl) ?_
      refine ⟨T1, ?_⟩
      refine wpAnyH_done (by kernel_rfl) ?_ _
      simp only [Act.put, List.setIfInBounds_toArray, List.set_cons_zero, List.set_cons_succ]
      obtain ⟨W4, hW4⟩ : ∃ W4, W4 = (V3.setRow (V2.heap.size) #[.int .i64 p, .slice ad ds.length cap, .slice am ms.length capm, .int .i64 p2, .slice ad2 ds2.length cap2, .slice am2 ms2.length capm2, .slice (some ⟨w1.drew.heap.size, 0, none⟩) N N, .map (some (V1.heap.size))]) := ⟨_, rfl⟩
      obtain ⟨T5, hT5⟩ : ∃ g, g = V2.heap.size := ⟨_, rfl⟩
      obtain ⟨G, hG⟩ : ∃ g, g = w1.drew.heap.size := ⟨_, rfl⟩
      obtain ⟨mb, hmb⟩ : ∃ g, g = V1.heap.size := ⟨_, rfl⟩
      have HB4 := Lib.hid T1
      have HT4 := Lib.hid (hR2.set #[.int .i64 p, .slice ad ds.length cap, .slice am ms.length capm, .int .i64 p2, .slice ad2 ds2.length cap2, .slice am2 ms2.length capm2, .slice (some ⟨w1.drew.heap.size, 0, none⟩) N N, .map (some (V1.heap.size))])
      have HG4 := Lib.hid (hS2.of_block (setRow_other V3 (V2.heap.size) (w1.drew.heap.size) #[.int .i64 p, .slice ad ds.length cap, .slice am ms.length capm, .int .i64 p2, .slice ad2 ds2.length cap2, .slice am2 ms2.length capm2, .slice (some ⟨w1.drew.heap.size, 0, none⟩) N N, .map (some (V1.heap.size))] (by omega)))
      have HM4 := Lib.hid (hM2.block (setRow_other V3 (V2.heap.size) (V1.heap.size) #[.int .i64 p, .slice ad ds.length cap, .slice am ms.length capm, .int .i64 p2, .slice ad2 ds2.length cap2, .slice am2 ms2.length capm2, .slice (some ⟨w1.drew.heap.size, 0, none⟩) N N, .map (some (V1.heap.size))] (by omega)))
      have HN4 : Hid ((w1.heap.size ≤ T5 ∧ w1.heap.size ≤ G ∧ w1.heap.size ≤ mb) ∧ T5 ≠ G ∧ T5 ≠ mb ∧ G ≠ mb) := Lib.hid (by omega)
      rw [← hW4] at HB4 HT4 HG4 HM4 ⊢
      rw [← hT5] at HT4 ⊢
      rw [← hG] at HT4 HG4 ⊢
      rw [← hmb] at HT4 HM4 ⊢
      clear hW4 hT5 hG hmb T1 hmk S0 hd0 hV1 hV2 hV3 hbV1 hbV2 hbV3 hzV1 hzV2 hzV3 SV1 SV2 SV3
    case' oSx13 =>
      obtain ⟨V2, hV2⟩ : ∃ W', W' = V1.alloc (.cells #[.int .i64 0, .slice none 0 0, .slice none 0 0, .int .i64 0, .slice none 0 0, .slice none 0 0, .slice none 0 0, .map none] 145) := ⟨_, rfl⟩
      have hbV2 : Below V1.heap.size V1 V2 := by rw [hV2]; exact below_alloc1 _ _
      have hzV2 : V2.heap.size = V1.heap.size + 1 := by rw [hV2]; simp
      have SV2 : Below w1.heap.size w1 V2 := SV1.trans (hbV2.mono SV1.size)
      have hS1 := hS0.of_block (hbV2.block _ hS0.lt)
      have hR1 : Rz V2 V1.heap.size 145 #[.int .i64 0, .slice none 0 0, .slice none 0 0, .int .i64 0, .slice none 0 0, .slice none 0 0, .slice none 0 0, .map none] := by rw [hV2]; exact Rz.new _ _ _
      refine op_mem (i := 13) (v := .pointer (some ⟨V1.heap.size, 0, none⟩)) (w' := V2) (some 5) rfl rfl rfl (by rw [hV2]; go_simp) ?_
      refine ⟨SV2, ?_⟩
      refine held_one (i := 11) (by kernel_rfl) ?_
      obtain ⟨V3, hV3⟩ : ∃ W', W' = V2.alloc (.map #[] 0) := ⟨_, rfl⟩
      have hbV3 : Below V2.heap.size V2 V3 := by rw [hV3]; exact below_alloc1 _ _
      have hzV3 : V3.heap.size = V2.heap.size + 1 := by rw [hV3]; simp
      have SV3 : Below w1.heap.size w1 V3 := SV2.trans (hbV3.mono SV2.size)
      have hS2 := hS1.of_block (hbV3.block _ hS1.lt)
      have hR2 := hR1.next hbV3
      have hM2 : Pl V3 V2.heap.size 0 [] := by rw [hV3]; exact Pl.made _
      refine op_mem (i := 11) (v := .map (some V2.heap.size)) (w' := V3) (some 22) rfl rfl rfl (by rw [hV3]; rfl) ?_
      refine ⟨SV3, ?_⟩
      refine held_take (i := 12) (v := .agg #[.int .i64 p, .slice ad ds.length cap, .slice am ms.length capm, .int .i64 p2, .slice ad2 ds2.length cap2, .slice am2 ms2.length capm2, .slice (some ⟨w1.drew.heap.size, 0, none⟩) N N, .map (some (V2.heap.size))]) (some 23) rfl rfl (by kernel_rfl) (by kernel_rfl) (by kernel_rfl) (fun _ _ _ h => h) (yieldsIf_run (by kernel_rfl) (fun W _ => by kernel_rfl)) SV3 ?_
      have T1 : Below w1.heap.size w1 (V3.setRow (V1.heap.size) #[.int .i64 p, .slice ad ds.length cap, .slice am ms.length capm, .int .i64 p2, .slice ad2 ds2.length cap2, .slice am2 ms2.length capm2, .slice (some ⟨w1.drew.heap.size, 0, none⟩) N N, .map (some (V2.heap.size))]) := below_setRow SV3 (by omega) _
      refine held_one (i := 14) (by kernel_rfl) ?_
      refine op_row (i := 14) rfl rfl rfl 145 (.tmp 5) (.tmp 23) rfl (V1.heap.size) #[.int .i64 p, .slice ad ds.length cap, .slice am ms.length capm, .int .i64 p2, .slice ad2 ds2.length cap2, .slice am2 ms2.length capm2, .slice (some ⟨w1.drew.heap.size, 0, none⟩) N N, .map (some (V2.heap.size))] (by kernel_rfl) (by kernel_rfl) 145 _ hR2 (infoTs _ _ _ _ _ _ _ _) (by kernel_rfl) (by kernel_rfl) ?_
      refine ⟨T1, ?_⟩
      refine wpAnyH_done (by kernel_rfl) ?_ _
      simp only [Act.put, List.setIfInBounds_toArray, List.set_cons_zero, List.set_cons_succ]
      obtain ⟨W4, hW4⟩ : ∃ W4, W4 = (V3.setRow (V1.heap.size) #[.int .i64 p, .slice ad ds.length cap, .slice am ms.length capm, .int .i64 p2, .slice ad2 ds2.length cap2, .slice am2 ms2.length capm2, .slice (some ⟨w1.drew.heap.size, 0, none⟩) N N, .map (some (V2.heap.size))]) := ⟨_, rfl⟩
      obtain ⟨T5, hT5⟩ : ∃ g, g = V1.heap.size := ⟨_, rfl⟩
      obtain ⟨G, hG⟩ : ∃ g, g = w1.drew.heap.size := ⟨_, rfl⟩
      obtain ⟨mb, hmb⟩ : ∃ g, g = V2.heap.size := ⟨_, rfl⟩
      have HB4 := Lib.hid T1
      have HT4 := Lib.hid (hR2.set #[.int .i64 p, .slice ad ds.length cap, .slice am ms.length capm, .int .i64 p2, .slice ad2 ds2.length cap2, .slice am2 ms2.length capm2, .slice (some ⟨w1.drew.heap.size, 0, none⟩) N N, .map (some (V2.heap.size))])
      have HG4 := Lib.hid (hS2.of_block (setRow_other V3 (V1.heap.size) (w1.drew.heap.size) #[.int .i64 p, .slice ad ds.length cap, .slice am ms.length capm, .int .i64 p2, .slice ad2 ds2.length cap2, .slice am2 ms2.length capm2, .slice (some ⟨w1.drew.heap.size, 0, none⟩) N N, .map (some (V2.heap.size))] (by omega)))
      have HM4 := Lib.hid (hM2.block (setRow_other V3 (V1.heap.size) (V2.heap.size) #[.int .i64 p, .slice ad ds.length cap, .slice am ms.length capm, .int .i64 p2, .slice ad2 ds2.length cap2, .slice am2 ms2.length capm2, .slice (some ⟨w1.drew.heap.size, 0, none⟩) N N, .map (some (V2.heap.size))] (by omega)))
      have HN4 : Hid ((w1.heap.size ≤ T5 ∧ w1.heap.size ≤ G ∧ w1.heap.size ≤ mb) ∧ T5 ≠ G ∧ T5 ≠ mb ∧ G ≠ mb) := Lib.hid (by omega)
      rw [← hW4] at HB4 HT4 HG4 HM4 ⊢
      rw [← hT5] at HT4 ⊢
      rw [← hG] at HT4 HG4 ⊢
      rw [← hmb] at HT4 HM4 ⊢
      clear hW4 hT5 hG hmb T1 hmk S0 hd0 hV1 hV2 hV3 hbV1 hbV2 hbV3 hzV1 hzV2 hzV3 SV1 SV2 SV3
  case' ox11 =>
    obtain ⟨V1, hV1⟩ : ∃ W', W' = w1.drew.alloc (.map #[] 0) := ⟨_, rfl⟩
    have hbV1 : Below w1.drew.heap.size w1.drew V1 := by rw [hV1]; exact below_alloc1 _ _
    have hzV1 : V1.heap.size = w1.drew.heap.size + 1 := by rw [hV1]; simp
    have SV1 : Below w1.heap.size w1 V1 := S0.trans (hbV1.mono S0.size)
    have hM0 : Pl V1 w1.drew.heap.size 0 [] := by rw [hV1]; exact Pl.made _
    refine op_mem (i := 11) (v := .map (some w1.drew.heap.size)) (w' := V1) (some 22) rfl rfl rfl (by rw [hV1]; rfl) ?_
    refine ⟨SV1, ?_⟩
    refine held_two (i := 10) (j := 13) (by kernel_rfl) ?oMx10 ?oMx13
    case' oMx10 =>
      obtain ⟨V2, hV2⟩ : ∃ W', W' = V1.alloc (.cells (madeCells #[.slice none 0 0] N) 195) := ⟨_, rfl⟩
      have hbV2 : Below V1.heap.size V1 V2 := by rw [hV2]; exact below_alloc1 _ _
      have hzV2 : V2.heap.size = V1.heap.size + 1 := by rw [hV2]; simp
      have SV2 : Below w1.heap.size w1 V2 := SV1.trans (hbV2.mono SV1.size)
      have hM1 := hM0.below hbV2
      have hS1 : V2.rowIs V1.heap.size 195 N (fun _ => .slice none 0 0) := by rw [hV2]; exact World.rowIs_made V1 _ _ _
      refine op_make (i := 10) (v := .slice (some ⟨V1.heap.size, 0, none⟩) N N) (w' := V2) (x := .int .i64 (N : Int)) (y := .int .i64 (N : Int)) (some 21) 142 (.tmp 20) (.tmp 20) rfl rfl rfl rfl (by kernel_rfl) (by kernel_rfl) (by rw [hV2]; exact hmk _) ?_
      refine ⟨SV2, ?_⟩
      refine held_take (i := 12) (v := .agg #[.int .i64 p, .slice ad ds.length cap, .slice am ms.length capm, .int .i64 p2, .slice ad2 ds2.length cap2, .slice am2 ms2.length capm2, .slice (some ⟨V1.heap.size, 0, none⟩) N N, .map (some (w1.drew.heap.size))]) (some 23) rfl rfl (by kernel_rfl) (by kernel_rfl) (by kernel_rfl) (fun _ _ _ h => h) (yieldsIf_run (by kernel_rfl) (fun W _ => by kernel_rfl)) SV2 ?_
      refine held_one (i := 13) (by kernel_rfl) ?_
      obtain ⟨V3, hV3⟩ : ∃ W', W' = V2.alloc (.cells #[.int .i64 0, .slice none 0 0, .slice none 0 0, .int .i64 0, .slice none 0 0, .slice none 0 0, .slice none 0 0, .map none] 145) := ⟨_, rfl⟩
      have hbV3 : Below V2.heap.size V2 V3 := by rw [hV3]; exact below_alloc1 _ _
      have hzV3 : V3.heap.size = V2.heap.size + 1 := by rw [hV3]; simp
      have SV3 : Below w1.heap.size w1 V3 := SV2.trans (hbV3.mono SV2.size)
      have hM2 := hM1.below hbV3
      have hS2 := hS1.of_block (hbV3.block _ hS1.lt)
      have hR2 : Rz V3 V2.heap.size 145 #[.int .i64 0, .slice none 0 0, .slice none 0 0, .int .i64 0, .slice none 0 0, .slice none 0 0, .slice none 0 0, .map none] := by rw [hV3]; exact Rz.new _ _ _
      refine op_mem (i := 13) (v := .pointer (some ⟨V2.heap.size, 0, none⟩)) (w' := V3) (some 5) rfl rfl rfl (by rw [hV3]; go_simp) ?_
      refine ⟨SV3, ?_⟩
      have T1 : Below w1.heap.size w1 (V3.setRow (V2.heap.size) #[.int .i64 p, .slice ad ds.length cap, .slice am ms.length capm, .int .i64 p2, .slice ad2 ds2.length cap2, .slice am2 ms2.length capm2, .slice (some ⟨V1.heap.size, 0, none⟩) N N, .map (some (w1.drew.heap.size))]) := below_setRow SV3 (by omega) _
      refine held_one (i := 14) (by kernel_rfl) ?_
      refine op_row (i := 14) rfl rfl rfl 145 (.tmp 5) (.tmp 23) rfl (V2.heap.size) #[.int .i64 p, .slice ad ds.length cap, .slice am ms.length capm, .int .i64 p2, .slice ad2 ds2.length cap2, .slice am2 ms2.length capm2, .slice (some ⟨V1.heap.size, 0, none⟩) N N, .map (some (w1.drew.heap.size))] (by kernel_rfl) (by kernel_rfl) 145 _ hR2 (infoTs _ _ _ _ _ _ _ _) (by kernel_rfl) (by kernel_rfl) ?_
      refine ⟨T1, ?_⟩
      refine wpAnyH_done (by kernel_rfl) ?_ _
      simp only [Act.put, List.setIfInBounds_toArray, List.set_cons_zero, List.set_cons_succ]
      obtain ⟨W4, hW4⟩ : ∃ W4, W4 = (V3.setRow (V2.heap.size) #[.int .i64 p, .slice ad ds.length cap, .slice am ms.length capm, .int .i64 p2, .slice ad2 ds2.length cap2, .slice am2 ms2.length capm2, .slice (some ⟨V1.heap.size, 0, none⟩) N N, .map (some (w1.drew.heap.size))]) := ⟨_, rfl⟩
      obtain ⟨T5, hT5⟩ : ∃ g, g = V2.heap.size := ⟨_, rfl⟩
      obtain ⟨G, hG⟩ : ∃ g, g = V1.heap.size := ⟨_, rfl⟩
      obtain ⟨mb, hmb⟩ : ∃ g, g = w1.drew.heap.size := ⟨_, rfl⟩
      have HB4 := Lib.hid T1
      have HT4 := Lib.hid (hR2.set #[.int .i64 p, .slice ad ds.length cap, .slice am ms.length capm, .int .i64 p2, .slice ad2 ds2.length cap2, .slice am2 ms2.length capm2, .slice (some ⟨V1.heap.size, 0, none⟩) N N, .map (some (w1.drew.heap.size))])
      have HG4 := Lib.hid (hS2.of_block (setRow_other V3 (V2.heap.size) (V1.heap.size) #[.int .i64 p, .slice ad ds.length cap, .slice am ms.length capm, .int .i64 p2, .slice ad2 ds2.length cap2, .slice am2 ms2.length capm2, .slice (some ⟨V1.heap.size, 0, none⟩) N N, .map (some (w1.drew.heap.size))] (by omega)))
      have HM4 := Lib.hid (hM2.block (setRow_other V3 (V2.heap.size) (w1.drew.heap.size) #[.int .i64 p, .slice ad ds.length cap, .slice am ms.length capm, .int .i64 p2, .slice ad2 ds2.length cap2, .slice am2 ms2.length capm2, .slice (some ⟨V1.heap.size, 0, none⟩) N N, .map (some (w1.drew.heap.size))] (by omega)))
      have HN4 : Hid ((w1.heap.size ≤ T5 ∧ w1.heap.size ≤ G ∧ w1.heap.size ≤ mb) ∧ T5 ≠ G ∧ T5 ≠ mb ∧ G ≠ mb) := Lib.hid (by omega)
      rw [← hW4] at HB4 HT4 HG4 HM4 ⊢
      rw [← hT5] at HT4 ⊢
      rw [← hG] at HT4 HG4 ⊢
      rw [← hmb] at HT4 HM4 ⊢
      clear hW4 hT5 hG hmb T1 hmk S0 hd0 hV1 hV2 hV3 hbV1 hbV2 hbV3 hzV1 hzV2 hzV3 SV1 SV2 SV3
    case' oMx13 =>
      obtain ⟨V2, hV2⟩ : ∃ W', W' = V1.alloc (.cells #[.int .i64 0, .slice none 0 0, .slice none 0 0, .int .i64 0, .slice none 0 0, .slice none 0 0, .slice none 0 0, .map none] 145) := ⟨_, rfl⟩
      have hbV2 : Below V1.heap.size V1 V2 := by rw [hV2]; exact below_alloc1 _ _
      have hzV2 : V2.heap.size = V1.heap.size + 1 := by rw [hV2]; simp
      have SV2 : Below w1.heap.size w1 V2 := SV1.trans (hbV2.mono SV1.size)
      have hM1 := hM0.below hbV2
      have hR1 : Rz V2 V1.heap.size 145 #[.int .i64 0, .slice none 0 0, .slice none 0 0, .int .i64 0, .slice none 0 0, .slice none 0 0, .slice none 0 0, .map none] := by rw [hV2]; exact Rz.new _ _ _
      refine op_mem (i := 13) (v := .pointer (some ⟨V1.heap.size, 0, none⟩)) (w' := V2) (some 5) rfl rfl rfl (by rw [hV2]; go_simp) ?_
      refine ⟨SV2, ?_⟩
      refine held_one (i := 10) (by kernel_rfl) ?_
      obtain ⟨V3, hV3⟩ : ∃ W', W' = V2.alloc (.cells (madeCells #[.slice none 0 0] N) 195) := ⟨_, rfl⟩
      have hbV3 : Below V2.heap.size V2 V3 := by rw [hV3]; exact below_alloc1 _ _
      have hzV3 : V3.heap.size = V2.heap.size + 1 := by rw [hV3]; simp
      have SV3 : Below w1.heap.size w1 V3 := SV2.trans (hbV3.mono SV2.size)
      have hM2 := hM1.below hbV3
      have hR2 := hR1.next hbV3
      have hS2 : V3.rowIs V2.heap.size 195 N (fun _ => .slice none 0 0) := by rw [hV3]; exact World.rowIs_made V2 _ _ _
      refine op_make (i := 10) (v := .slice (some ⟨V2.heap.size, 0, none⟩) N N) (w' := V3) (x := .int .i64 (N : Int)) (y := .int .i64 (N : Int)) (some 21) 142 (.tmp 20) (.tmp 20) rfl rfl rfl rfl (by kernel_rfl) (by kernel_rfl) (by rw [hV3]; exact hmk _) ?_
      refine ⟨SV3, ?_⟩
      refine held_take (i := 12) (v := .agg #[.int .i64 p, .slice ad ds.length cap, .slice am ms.length capm, .int .i64 p2, .slice ad2 ds2.length cap2, .slice am2 ms2.length capm2, .slice (some ⟨V2.heap.size, 0, none⟩) N N, .map (some (w1.drew.heap.size))]) (some 23) rfl rfl (by kernel_rfl) (by kernel_rfl) (by kernel_rfl) (fun _ _ _ h => h) (yieldsIf_run (by kernel_rfl) (fun W _ => by kernel_rfl)) SV3 ?_
      have T1 : Below w1.heap.size w1 (V3.setRow (V1.heap.size) #[.int .i64 p, .slice ad ds.length cap, .slice am ms.length capm, .int .i64 p2, .slice ad2 ds2.length cap2, .slice am2 ms2.length capm2, .slice (some ⟨V2.heap.size, 0, none⟩) N N, .map (some (w1.drew.heap.size))]) := below_setRow SV3 (by omega) _
      refine held_one (i := 14) (by kernel_rfl) ?_
      refine op_row (i := 14) rfl rfl rfl 145 (.tmp 5) (.tmp 23) rfl (V1.heap.size) #[.int .i64 p, .slice ad ds.length cap, .slice am ms.length capm, .int .i64 p2, .slice ad2 ds2.length cap2, .slice am2 ms2.length capm2, .slice (some ⟨V2.heap.size, 0, none⟩) N N, .map (some (w1.drew.heap.size))] (by kernel_rfl) (by kernel_rfl) 145 _ hR2 (infoTs _ _ _ _ _ _ _ _) (by kernel_rfl) (by kernel_rfl) ?_
      refine ⟨T1, ?_⟩
      refine wpAnyH_done (by kernel_rfl) ?_ _
      simp only [Act.put, List.setIfInBounds_toArray, List.set_cons_zero, List.set_cons_succ]
      obtain ⟨W4, hW4⟩ : ∃ W4, W4 = (V3.setRow (V1.heap.size) #[.int .i64 p, .slice ad ds.length cap, .slice am ms.length capm, .int .i64 p2, .slice ad2 ds2.length cap2, .slice am2 ms2.length capm2, .slice (some ⟨V2.heap.size, 0, none⟩) N N, .map (some (w1.drew.heap.size))]) := ⟨_, rfl⟩
      obtain ⟨T5, hT5⟩ : ∃ g, g = V1.heap.size := ⟨_, rfl⟩
      obtain ⟨G, hG⟩ : ∃ g, g = V2.heap.size := ⟨_, rfl⟩
      obtain ⟨mb, hmb⟩ : ∃ g, g = w1.drew.heap.size := ⟨_, rfl⟩
      have HB4 := Lib.hid T1
      have HT4 := Lib.hid (hR2.set #[.int .i64 p, .slice ad ds.length cap, .slice am ms.length capm, .int .i64 p2, .slice ad2 ds2.length cap2, .slice am2 ms2.length capm2, .slice (some ⟨V2.heap.size, 0, none⟩) N N, .map (some (w1.drew.heap.size))])
      have HG4 := Lib.hid (hS2.of_block (setRow_other V3 (V1.heap.size) (V2.heap.size) #[.int .i64 p, .slice ad ds.length cap, .slice am ms.length capm, .int .i64 p2, .slice ad2 ds2.length cap2, .slice am2 ms2.length capm2, .slice (some ⟨V2.heap.size, 0, none⟩) N N, .map (some (w1.drew.heap.size))] (by omega)))
      have HM4 := Lib.hid (hM2.block (setRow_other V3 (V1.heap.size) (w1.drew.heap.size) #[.int .i64 p, .slice ad ds.length cap, .slice am ms.length capm, .int .i64 p2, .slice ad2 ds2.length cap2, .slice am2 ms2.length capm2, .slice (some ⟨V2.heap.size, 0, none⟩) N N, .map (some (w1.drew.heap.size))] (by omega)))
      have HN4 : Hid ((w1.heap.size ≤ T5 ∧ w1.heap.size ≤ G ∧ w1.heap.size ≤ mb) ∧ T5 ≠ G ∧ T5 ≠ mb ∧ G ≠ mb) := Lib.hid (by omega)
      rw [← hW4] at HB4 HT4 HG4 HM4 ⊢
      rw [← hT5] at HT4 ⊢
      rw [← hG] at HT4 HG4 ⊢
      rw [← hmb] at HT4 HM4 ⊢
      clear hW4 hT5 hG hmb T1 hmk S0 hd0 hV1 hV2 hV3 hbV1 hbV2 hbV3 hzV1 hzV2 hzV3 SV1 SV2 SV3
  case' ox13 =>
    obtain ⟨V1, hV1⟩ : ∃ W', W' = w1.drew.alloc (.cells #[.int .i64 0, .slice none 0 0, .slice none 0 0, .int .i64 0, .slice none 0 0, .slice none 0 0, .slice none 0 0, .map none] 145) := ⟨_, rfl⟩
    have hbV1 : Below w1.drew.heap.size w1.drew V1 := by rw [hV1]; exact below_alloc1 _ _
    have hzV1 : V1.heap.size = w1.drew.heap.size + 1 := by rw [hV1]; simp
    have SV1 : Below w1.heap.size w1 V1 := S0.trans (hbV1.mono S0.size)
    have hR0 : Rz V1 w1.drew.heap.size 145 #[.int .i64 0, .slice none 0 0, .slice none 0 0, .int .i64 0, .slice none 0 0, .slice none 0 0, .slice none 0 0, .map none] := by rw [hV1]; exact Rz.new _ _ _
    refine op_mem (i := 13) (v := .pointer (some ⟨w1.drew.heap.size, 0, none⟩)) (w' := V1) (some 5) rfl rfl rfl (by rw [hV1]; go_simp) ?_
    refine ⟨SV1, ?_⟩
    refine held_two (i := 10) (j := 11) (by kernel_rfl) ?oRx10 ?oRx11
    case' oRx10 =>
      obtain ⟨V2, hV2⟩ : ∃ W', W' = V1.alloc (.cells (madeCells #[.slice none 0 0] N) 195) := ⟨_, rfl⟩
      have hbV2 : Below V1.heap.size V1 V2 := by rw [hV2]; exact below_alloc1 _ _
      have hzV2 : V2.heap.size = V1.heap.size + 1 := by rw [hV2]; simp
      have SV2 : Below w1.heap.size w1 V2 := SV1.trans (hbV2.mono SV1.size)
      have hR1 := hR0.next hbV2
      have hS1 : V2.rowIs V1.heap.size 195 N (fun _ => .slice none 0 0) := by rw [hV2]; exact World.rowIs_made V1 _ _ _
      refine op_make (i := 10) (v := .slice (some ⟨V1.heap.size, 0, none⟩) N N) (w' := V2) (x := .int .i64 (N : Int)) (y := .int .i64 (N : Int)) (some 21) 142 (.tmp 20) (.tmp 20) rfl rfl rfl rfl (by kernel_rfl) (by kernel_rfl) (by rw [hV2]; exact hmk _) ?_
      refine ⟨SV2, ?_⟩
      refine held_one (i := 11) (by kernel_rfl) ?_
      obtain ⟨V3, hV3⟩ : ∃ W', W' = V2.alloc (.map #[] 0) := ⟨_, rfl⟩
      have hbV3 : Below V2.heap.size V2 V3 := by rw [hV3]; exact below_alloc1 _ _
      have hzV3 : V3.heap.size = V2.heap.size + 1 := by rw [hV3]; simp
      have SV3 : Below w1.heap.size w1 V3 := SV2.trans (hbV3.mono SV2.size)
      have hR2 := hR1.next hbV3
      have hS2 := hS1.of_block (hbV3.block _ hS1.lt)
      have hM2 : Pl V3 V2.heap.size 0 [] := by rw [hV3]; exact Pl.made _
      refine op_mem (i := 11) (v := .map (some V2.heap.size)) (w' := V3) (some 22) rfl rfl rfl (by rw [hV3]; rfl) ?_
      refine ⟨SV3, ?_⟩
      refine held_take (i := 12) (v := .agg #[.int .i64 p, .slice ad ds.length cap, .slice am ms.length capm, .int .i64 p2, .slice ad2 ds2.length cap2, .slice am2 ms2.length capm2, .slice (some ⟨V1.heap.size, 0, none⟩) N N, .map (some (V2.heap.size))]) (some 23) rfl rfl (by kernel_rfl) (by kernel_rfl) (by kernel_rfl) (fun _ _ _ h => h) (yieldsIf_run (by kernel_rfl) (fun W _ => by kernel_rfl)) SV3 ?_
      have T1 : Below w1.heap.size w1 (V3.setRow (w1.drew.heap.size) #[.int .i64 p, .slice ad ds.length cap, .slice am ms.length capm, .int .i64 p2, .slice ad2 ds2.length cap2, .slice am2 ms2.length capm2, .slice (some ⟨V1.heap.size, 0, none⟩) N N, .map (some (V2.heap.size))]) := below_setRow SV3 (by omega) _
      refine held_one (i := 14) (by kernel_rfl) ?_
      refine op_row (i := 14) rfl rfl rfl 145 (.tmp 5) (.tmp 23) rfl (w1.drew.heap.size) #[.int .i64 p, .slice ad ds.length cap, .slice am ms.length capm, .int .i64 p2, .slice ad2 ds2.length cap2, .slice am2 ms2.length capm2, .slice (some ⟨V1.heap.size, 0, none⟩) N N, .map (some (V2.heap.size))] (by kernel_rfl) (by kernel_rfl) 145 _ hR2 (infoTs _ _ _ _ _ _ _ _) (by kernel_rfl) (by kernel_rfl) ?_
      refine ⟨T1, ?_⟩
      refine wpAnyH_done (by kernel_rfl) ?_ _
      simp only [Act.put, List.setIfInBounds_toArray, List.set_cons_zero, List.set_cons_succ]
      obtain ⟨W4, hW4⟩ : ∃ W4, W4 = (V3.setRow (w1.drew.heap.size) #[.int .i64 p, .slice ad ds.length cap, .slice am ms.length capm, .int .i64 p2, .slice ad2 ds2.length cap2, .slice am2 ms2.length capm2, .slice (some ⟨V1.heap.size, 0, none⟩) N N, .map (some (V2.heap.size))]) := ⟨_, rfl⟩
      obtain ⟨T5, hT5⟩ : ∃ g, g = w1.drew.heap.size := ⟨_, rfl⟩
      obtain ⟨G, hG⟩ : ∃ g, g = V1.heap.size := ⟨_, rfl⟩
      obtain ⟨mb, hmb⟩ : ∃ g, g = V2.heap.size := ⟨_, rfl⟩
      have HB4 := Lib.hid T1
      have HT4 := Lib.hid (hR2.set #[.int .i64 p, .slice ad ds.length cap, .slice am ms.length capm, .int .i64 p2, .slice ad2 ds2.length cap2, .slice am2 ms2.length capm2, .slice (some ⟨V1.heap.size, 0, none⟩) N N, .map (some (V2.heap.size))])
      have HG4 := Lib.hid (hS2.of_block (setRow_other V3 (w1.drew.heap.size) (V1.heap.size) #[.int .i64 p, .slice ad ds.length cap, .slice am ms.length capm, .int .i64 p2, .slice ad2 ds2.length cap2, .slice am2 ms2.length capm2, .slice (some ⟨V1.heap.size, 0, none⟩) N N, .map (some (V2.heap.size))] (by omega)))
      have HM4 := Lib.hid (hM2.block (setRow_other V3 (w1.drew.heap.size) (V2.heap.size) #[.int .i64 p, .slice ad ds.length cap, .slice am ms.length capm, .int .i64 p2, .slice ad2 ds2.length cap2, .slice am2 ms2.length capm2, .slice (some ⟨V1.heap.size, 0, none⟩) N N, .map (some (V2.heap.size))] (by omega)))
      have HN4 : Hid ((w1.heap.size ≤ T5 ∧ w1.heap.size ≤ G ∧ w1.heap.size ≤ mb) ∧ T5 ≠ G ∧ T5 ≠ mb ∧ G ≠ mb) := Lib.hid (by omega)
      rw [← hW4] at HB4 HT4 HG4 HM4 ⊢
      rw [← hT5] at HT4 ⊢
      rw [← hG] at HT4 HG4 ⊢
      rw [← hmb] at HT4 HM4 ⊢
      clear hW4 hT5 hG hmb T1 hmk S0 hd0 hV1 hV2 hV3 hbV1 hbV2 hbV3 hzV1 hzV2 hzV3 SV1 SV2 SV3
    case' oRx11 =>
      obtain ⟨V2, hV2⟩ : ∃ W', W' = V1.alloc (.map #[] 0) := ⟨_, rfl⟩
      have hbV2 : Below V1.heap.size V1 V2 := by rw [hV2]; exact below_alloc1 _ _
      have hzV2 : V2.heap.size = V1.heap.size + 1 := by rw [hV2]; simp
      have SV2 : Below w1.heap.size w1 V2 := SV1.trans (hbV2.mono SV1.size)
      have hR1 := hR0.next hbV2
      have hM1 : Pl V2 V1.heap.size 0 [] := by rw [hV2]; exact Pl.made _
      refine op_mem (i := 11) (v := .map (some V1.heap.size)) (w' := V2) (some 22) rfl rfl rfl (by rw [hV2]; rfl) ?_
      refine ⟨SV2, ?_⟩
      refine held_one (i := 10) (by kernel_rfl) ?_
      obtain ⟨V3, hV3⟩ : ∃ W', W' = V2.alloc (.cells (madeCells #[.slice none 0 0] N) 195) := ⟨_, rfl⟩
      have hbV3 : Below V2.heap.size V2 V3 := by rw [hV3]; exact below_alloc1 _ _
      have hzV3 : V3.heap.size = V2.heap.size + 1 := by rw [hV3]; simp
      have SV3 : Below w1.heap.size w1 V3 := SV2.trans (hbV3.mono SV2.size)
      have hR2 := hR1.next hbV3
      have hM2 := hM1.below hbV3
      have hS2 : V3.rowIs V2.heap.size 195 N (fun _ => .slice none 0 0) := by rw [hV3]; exact World.rowIs_made V2 _ _ _
      refine op_make (i := 10) (v := .slice (some ⟨V2.heap.size, 0, none⟩) N N) (w' := V3) (x := .int .i64 (N : Int)) (y := .int .i64 (N : Int)) (some 21) 142 (.tmp 20) (.tmp 20) rfl rfl rfl rfl (by kernel_rfl) (by kernel_rfl) (by rw [hV3]; exact hmk _) ?_
      refine ⟨SV3, ?_⟩
      refine held_take (i := 12) (v := .agg #[.int .i64 p, .slice ad ds.length cap, .slice am ms.length capm, .int .i64 p2, .slice ad2 ds2.length cap2, .slice am2 ms2.length capm2, .slice (some ⟨V2.heap.size, 0, none⟩) N N, .map (some (V1.heap.size))]) (some 23) rfl rfl (by kernel_rfl) (by kernel_rfl) (by kernel_rfl) (fun _ _ _ h => h) (yieldsIf_run (by kernel_rfl) (fun W _ => by kernel_rfl)) SV3 ?_
      have T1 : Below w1.heap.size w1 (V3.setRow (w1.drew.heap.size) #[.int .i64 p, .slice ad ds.length cap, .slice am ms.length capm, .int .i64 p2, .slice ad2 ds2.length cap2, .slice am2 ms2.length capm2, .slice (some ⟨V2.heap.size, 0, none⟩) N N, .map (some (V1.heap.size))]) := below_setRow SV3 (by omega) _
      refine held_one (i := 14) (by kernel_rfl) ?_
      refine op_row (i := 14) rfl rfl rfl 145 (.tmp 5) (.tmp 23) rfl (w1.drew.heap.size) #[.int .i64 p, .slice ad ds.length cap, .slice am ms.length capm, .int .i64 p2, .slice ad2 ds2.length cap2, .slice am2 ms2.length capm2, .slice (some ⟨V2.heap.size, 0, none⟩) N N, .map (some (V1.heap.size))] (by kernel_rfl) (by kernel_rfl) 145 _ hR2 (infoTs _ _ _ _ _ _ _ _) (by kernel_rfl) (by kernel_rfl) ?_
      refine ⟨T1, ?_⟩
      refine wpAnyH_done (by kernel_rfl) ?_ _
      simp only [Act.put, List.setIfInBounds_toArray, List.set_cons_zero, List.set_cons_succ]
      obtain ⟨W4, hW4⟩ : ∃ W4, W4 = (V3.setRow (w1.drew.heap.size) #[.int .i64 p, .slice ad ds.length cap, .slice am ms.length capm, .int .i64 p2, .slice ad2 ds2.length cap2, .slice am2 ms2.length capm2, .slice (some ⟨V2.heap.size, 0, none⟩) N N, .map (some (V1.heap.size))]) := ⟨_, rfl⟩
      obtain ⟨T5, hT5⟩ : ∃ g, g = w1.drew.heap.size := ⟨_, rfl⟩
      obtain ⟨G, hG⟩ : ∃ g, g = V2.heap.size := ⟨_, rfl⟩
      obtain ⟨mb, hmb⟩ : ∃ g, g = V1.heap.size := ⟨_, rfl⟩
      have HB4 := Lib.hid T1
      have HT4 := Lib.hid (hR2.set #[.int .i64 p, .slice ad ds.length cap, .slice am ms.length capm, .int .i64 p2, .slice ad2 ds2.length cap2, .slice am2 ms2.length capm2, .slice (some ⟨V2.heap.size, 0, none⟩) N N, .map (some (V1.heap.size))])
      have HG4 := Lib.hid (hS2.of_block (setRow_other V3 (w1.drew.heap.size) (V2.heap.size) #[.int .i64 p, .slice ad ds.length cap, .slice am ms.length capm, .int .i64 p2, .slice ad2 ds2.length cap2, .slice am2 ms2.length capm2, .slice (some ⟨V2.heap.size, 0, none⟩) N N, .map (some (V1.heap.size))] (by omega)))
      have HM4 := Lib.hid (hM2.block (setRow_other V3 (w1.drew.heap.size) (V1.heap.size) #[.int .i64 p, .slice ad ds.length cap, .slice am ms.length capm, .int .i64 p2, .slice ad2 ds2.length cap2, .slice am2 ms2.length capm2, .slice (some ⟨V2.heap.size, 0, none⟩) N N, .map (some (V1.heap.size))] (by omega)))
      have HN4 : Hid ((w1.heap.size ≤ T5 ∧ w1.heap.size ≤ G ∧ w1.heap.size ≤ mb) ∧ T5 ≠ G ∧ T5 ≠ mb ∧ G ≠ mb) := Lib.hid (by omega)
      rw [← hW4] at HB4 HT4 HG4 HM4 ⊢
      rw [← hT5] at HT4 ⊢
      rw [← hG] at HT4 HG4 ⊢
      rw [← hmb] at HT4 HM4 ⊢
      clear hW4 hT5 hG hmb T1 hmk S0 hd0 hV1 hV2 hV3 hbV1 hbV2 hbV3 hzV1 hzV2 hzV3 SV1 SV2 SV3
  all_goals
    · obtain ⟨base, hbase⟩ : ∃ b, b = W4.heap.size := ⟨_, rfl⟩
      obtain ⟨cs, hcs⟩ : ∃ c : Array Value, c = #[.int .i64 p, .slice ad ds.length cap, .slice am ms.length capm, .int .i64 p2, .slice ad2 ds2.length cap2, .slice am2 ms2.length capm2, .slice (some ⟨G, 0, none⟩) N N, .map (some mb)] := ⟨_, rfl⟩
      rw [← hcs] at HT4
      have HCS := Lib.hid hcs
      have HI4 : Hid (TsI w1 W4 base T5 G N mb cs (fun _ => .slice none 0 0) []) := Lib.hid ⟨HB4.out, Nat.le_of_eq hbase, HT4.out, ⟨HG4.out, by rw [hbase]; exact HG4.out.lt, fun n _ => ⟨rfl, Or.inl ⟨rfl, rfl⟩⟩, fun m n _ _ _ k hk => by simp [Value.ownBlock] at hk⟩, HM4.out⟩
      have hT5b : T5 < base := by rw [hbase]; exact HT4.out.lt
      have hGb : G < base := by rw [hbase]; exact HG4.out.lt
      have hmbb : mb < base := by rw [hbase]; exact HM4.out.lt
      obtain ⟨⟨hn1, hn2, hn3⟩, hn4, hn5, hn6⟩ := HN4.out
      have h1b : w1.heap.size ≤ base := by omega
      obtain ⟨X, hX⟩ : ∃ X, X = bsL ds ds.length := ⟨_, rfl⟩
      obtain ⟨Y, hY⟩ : ∃ Y, Y = bsL ds2 ds2.length := ⟨_, rfl⟩
      have HX := Lib.hid hX
      have HY := Lib.hid hY
      have HXN : Hid X.Nodup := Lib.hid (by rw [hX]; exact bsL_nodup _ _)
      have HYN : Hid Y.Nodup := Lib.hid (by rw [hY]; exact bsL_nodup _ _)
      have hXl : X.length ≤ 48 := by rw [hX]; have := bsL_len HCX.out ds.length; omega
      have hYl : Y.length ≤ 48 := by rw [hY]; have := bsL_len HCY.out ds2.length; omega
      obtain ⟨nx, hnx⟩ : ∃ n, n = X.length := ⟨_, rfl⟩
      obtain ⟨ny, hny⟩ : ∃ n, n = Y.length := ⟨_, rfl⟩
      have HNX := Lib.hid hnx
      have HNY := Lib.hid hny
      rw [← hnx] at hXl
      rw [← hny] at hYl
      have HC4 : Hid (∀ W, Below W4.heap.size W4 W → Below w1.heap.size w1 W) := Lib.hid (fun W h => HB4.out.trans (h.mono HB4.out.size))
      have HBX := Lib.hid (basisOf_any p _ _ ds ms W4 (HC1.out W4 HB4.out).1.cx HCX.out)
      rw [← hX] at HBX
      have HMY : Hid (∀ W, Below w1.heap.size w1 W → Calls Try.prog 190 #[.agg #[.int .i64 p2, .slice ad2 ds2.length cap2, .slice am2 ms2.length capm2]] W (BsR Y W)) := Lib.hid (fun W h => by rw [HY.out]; exact basisOf_any p2 _ _ ds2 ms2 W (HC1.out W h).2.cx HCY.out)
      have x0 := (HC1.out W4 HB4.out).1.c0
      have x1 := (HC1.out W4 HB4.out).1.c1
      have x2 := (HC1.out W4 HB4.out).1.c2
      have hb4s : base ≤ W4.heap.size := HI4.out.bs
      clear hX hY hnx hny hcs hbase
      go_wp2_with fail
      refine HBX.out.mono ?_
      rintro e W5 ⟨sx, rfl, hox, hb5⟩
      have hox' := owns_mono hox (base' := base) (by omega)
      obtain ⟨ax, cx, hsx⟩ := hox.shape
      rw [← HNX.out] at hsx
      subst hsx
      have HOX5 : Hid (Ob base W5 (.slice ax nx cx) X) := Lib.hid hox'
      have HI5 := Lib.hid (HI4.out.next h1b hb5)
      clear hox hox' hb5 HBX x0 x1 x2
      go_wp2
      go_loopw [27] (fun i wr => ∃ (a : Nat) (f : Nat → Value), a ≤ nx ∧ i = .int .i64 a ∧ Hid (TsI w1 wr base T5 G N mb cs f (tsA X Y a)) ∧ Hid (Ob base wr (.slice ax nx cx) X)) (fun i _ => nx - (intOf i).toNat)
      case atStart => exact ⟨0, _, Nat.zero_le _, rfl, HI5, HOX5⟩
      case round =>
        obtain ⟨a, f0, ha, rfl, HI, HOX⟩ := hrel
        obtain ⟨wx, hwx⟩ : ∃ wx : World, wx = wr := ⟨_, rfl⟩
        subst hwx
        by_cases hlt : a < nx
        · have hla : a < X.length := by rw [← HNX.out]; exact hlt
          obtain ⟨gx, cx', e1, hgx, hgx2, u0, u1⟩ := HOX.out.at' hla
          rw [← HNX.out] at e1
          injection e1 with e2 e3 e4
          clear e3
          subst e2 e4
          obtain ⟨k0, c0, hu, hk0, hc0⟩ := bsL_mem (n := ds.length) (by rw [← HX.out]; exact List.getElem_mem hla)
          rw [hu] at u0 u1
          obtain ⟨wq, hwq⟩ : ∃ wq, wq = wx.alloc (.cells #[.int .i64 (k0 : Int), .int .i64 (c0 : Int)] 191) := ⟨_, rfl⟩
          have hbq : Below wx.heap.size wx wq := by rw [hwq]; exact below_alloc1 _ _
          have HR7 : Hid (Rz wq wx.heap.size 191 #[.int .i64 (k0 : Int), .int .i64 (c0 : Int)]) := Lib.hid (by rw [hwq]; exact Rz.new _ _ _)
          have HIQ := Lib.hid (HI.out.next h1b hbq)
          have HOXQ := Lib.hid (HOX.out.below hbq)
          have HBY := Lib.hid (HMY.out wq HIQ.out.below)
          obtain ⟨b7, hb7⟩ : ∃ b, b = wx.heap.size := ⟨_, rfl⟩
          have hb7b : base ≤ b7 := by rw [hb7]; exact HI.out.bs
          have HU := Lib.hid hu
          have hcc := (HC1.out wq HIQ.out.below).2
          have y0 := hcc.c0
          have y1 := hcc.c1
          have y2 := hcc.c2
          clear hu hbq hcc
          go_upto_region 5 with fail
          rw [← hwq]
          clear hwq u0 u1
          rw [← hb7] at HR7 ⊢
          clear hb7
          go_wp2_with fail
          refine HBY.out.mono ?_
          rintro e W6 ⟨sy, rfl, hoy, hb6⟩
          have hqb : base ≤ wq.heap.size := HIQ.out.bs
          have hoy' := owns_mono hoy (base' := base) (by omega)
          obtain ⟨ay, cy, hsy⟩ := hoy.shape
          rw [← HNY.out] at hsy
          subst hsy
          have HOY6 : Hid (Ob base W6 (.slice ay ny cy) Y) := Lib.hid hoy'
          have HI6 := Lib.hid (HIQ.out.next h1b hb6)
          have HOX6 := Lib.hid (HOXQ.out.below hb6)
          have HR76 := Lib.hid (HR7.out.next hb6)
          have HI6' : Hid (TsI w1 W6 base T5 G N mb cs f0 (tsB X Y a 0)) := Lib.hid (by rw [tsB_zero]; exact HI6.out)
          clear hoy hoy' hb6 HBY y0 y1 y2
          go_wp2
          go_loopw [34] (fun i wr => ∃ (b : Nat) (f : Nat → Value), b ≤ ny ∧ i = .int .i64 b ∧ Hid (TsI w1 wr base T5 G N mb cs f (tsB X Y a b)) ∧ Hid (Ob base wr (.slice (some ⟨gx, 0, none⟩) nx cx) X) ∧ Hid (Ob base wr (.slice ay ny cy) Y) ∧ Hid (Rz wr b7 191 #[.int .i64 (k0 : Int), .int .i64 (c0 : Int)])) (fun i _ => ny - (intOf i).toNat)
          case atStart => exact ⟨0, f0, Nat.zero_le _, rfl, HI6', HOX6, HOY6, HR76⟩
          case round =>
            obtain ⟨b, f, hb, rfl, HI, HOX, HOY, HR7⟩ := hrel
            obtain ⟨wy, hwy⟩ : ∃ wy : World, wy = wr := ⟨_, rfl⟩
            subst hwy
            by_cases hltb : b < ny
            · have hlb : b < Y.length := by rw [← HNY.out]; exact hltb
              obtain ⟨gy, cy', e1, hgy, hgy2, u0, u1⟩ := HOY.out.at' hlb
              rw [← HNY.out] at e1
              injection e1 with e2 e3 e4
              clear e3
              subst e2 e4
              obtain ⟨j0, d0, hu, hj0, hd0'⟩ := bsL_mem (n := ds2.length) (by rw [← HY.out]; exact List.getElem_mem hlb)
              rw [hu] at u0 u1
              obtain ⟨n, hn⟩ : ∃ n, n = k0 + j0 := ⟨_, rfl⟩
              have hnN : n < N := by have := HNE.out; omega
              have HDG : Hid (dg (((k0 : Int), (c0 : Int)), ((j0 : Int), (d0 : Int))) = (n : Int)) := Lib.hid (by simp only [dg]; omega)
              have HTE : Hid (tsB X Y a (b + 1) = tsB X Y a b ++ [(((k0 : Int), (c0 : Int)), ((j0 : Int), (d0 : Int)))]) := Lib.hid (by rw [tsB_succ X Y hla hlb, HU.out, hu])
              have HNW : Hid ((((k0 : Int), (c0 : Int)), ((j0 : Int), (d0 : Int))) ∉ tsB X Y a b) := Lib.hid (by have := tsB_new HXN.out HYN.out hla hlb; rwa [HU.out, hu] at this)
              have hdk := HCX.out.1.dim k0
              have hdj := HCY.out.1.dim j0
              have HWF : Hid (Wf4 (((k0 : Int), (c0 : Int)), ((j0 : Int), (d0 : Int)))) := Lib.hid ⟨small_wf (by simp only []; omega) (by simp only []; omega), small_wf (by simp only []; omega) (by simp only []; omega), small_wf (by simp only []; omega) (by simp only []; omega), small_wf (by simp only []; omega) (by simp only []; omega)⟩
              have HSL : Hid ((tsB X Y a b).length < maxLen) := Lib.hid (by have h1 := tsB_len X Y a b; rw [← HNX.out, ← HNY.out] at h1; have h2 : (nx + 1) * (ny + 1) ≤ 49 * 49 := Nat.mul_le_mul (by omega) (by omega); unfold maxLen; omega)
              obtain ⟨m, hm⟩ : ∃ m, m = (prF (tsB X Y a b) (n : Int)).length := ⟨_, rfl⟩
              have HM := Lib.hid hm
              have hm8 : m ≤ 1048576 := by rw [hm]; have h0 : (prF (tsB X Y a b) (n : Int)).length ≤ (tsB X Y a b).length := List.length_filter_le _ _; have h1 := tsB_len X Y a b; rw [← HNX.out, ← HNY.out] at h1; have h2 : (nx + 1) * (ny + 1) ≤ 49 * 49 := Nat.mul_le_mul (by omega) (by omega); omega
              obtain ⟨apr, cpr, hfn⟩ := HI.out.prs.shape hnN
              rw [← hm] at hfn
              have HFN := Lib.hid hfn
              obtain ⟨W7, hW7⟩ : ∃ W7, W7 = wy.alloc (.cells #[.int .i64 (j0 : Int), .int .i64 (d0 : Int)] 191) := ⟨_, rfl⟩
              have hb7y : Below wy.heap.size wy W7 := by rw [hW7]; exact below_alloc1 _ _
              obtain ⟨b9, hb9⟩ : ∃ b, b = wy.heap.size := ⟨_, rfl⟩
              have HR9 : Hid (Rz W7 b9 191 #[.int .i64 (j0 : Int), .int .i64 (d0 : Int)]) := Lib.hid (by rw [hW7, hb9]; exact Rz.new _ _ _)
              have hb9b : base ≤ b9 := by rw [hb9]; exact HI.out.bs
              have HI7 := Lib.hid (HI.out.next h1b hb7y)
              have HOX7 := Lib.hid (HOX.out.below hb7y)
              have HOY7 := Lib.hid (HOY.out.below hb7y)
              have HR77 := Lib.hid (HR7.out.next hb7y)
              have HF9 : Hid (∀ W, But mb W7 W → Rz W T5 145 #[.int .i64 p, .slice ad ds.length cap, .slice am ms.length capm, .int .i64 p2, .slice ad2 ds2.length cap2, .slice am2 ms2.length capm2, .slice (some ⟨G, 0, none⟩) N N, .map (some mb)] ∧ Rz W b7 191 #[.int .i64 (k0 : Int), .int .i64 (c0 : Int)] ∧ Rz W b9 191 #[.int .i64 (j0 : Int), .int .i64 (d0 : Int)] ∧ W.cell? ⟨G, n, none⟩ = some (.slice apr m cpr)) := Lib.hid (fun W h => ⟨by rw [← HCS.out]; exact (h.block T5 HI7.out.box.lt hn5).trans HI7.out.box, (h.block b7 HR77.out.lt (by omega)).trans HR77.out, (h.block b9 HR9.out.lt (by omega)).trans HR9.out, by rw [h.cell HI7.out.prs.row.lt hn6, HI7.out.prs.row.cell hnN, HFN.out]⟩)
              have CELL6 : ∀ W, Rz W T5 145 cs → W.cell? ⟨T5, 6, none⟩ = some (.slice (some ⟨G, 0, none⟩) N N) := fun W h => by rw [HCS.out] at h; exact h.cell (i := 6) rfl
              have k70 : W7.cell? ⟨b7, 0, none⟩ = some (.int .i64 (k0 : Int)) := HR77.out.cell (i := 0) rfl
              have k90 : W7.cell? ⟨b9, 0, none⟩ = some (.int .i64 (j0 : Int)) := HR9.out.cell (i := 0) rfl
              have hwn : IntKind.i64.wrap ((k0 : Int) + (j0 : Int)) = (n : Int) := by rw [show (k0 : Int) + (j0 : Int) = (n : Int) by omega]; exact IntWalk.i64_in _ (by omega)
              clear hu hb7y hdk hdj hm hfn hn
              go_upto_region 8 with fail
              rw [← hW7]
              rw [← hb9]
              clear hW7 hb9 u0 u1
              go_upto_region 9 with fail
              clear k70 k90 hwn
              refine wp_region_held (S := fun W => Hid (But mb W7 W)) (by kernel_rfl) ?_
              have S0 : Hid (But mb W7 W7.drew) := Lib.hid (But.refl _ _).drew
              refine held_take (i := 0) (v := .pointer (some ⟨T5, 7, none⟩)) (some 43) rfl rfl (by kernel_rfl) (by kernel_rfl) (by kernel_rfl) (fun _ _ _ h => h) (yieldsIf_run (by kernel_rfl) (fun W _ => by kernel_rfl)) S0 ?_
              refine held_take (i := 1) (v := .map (some mb)) (some 44) rfl rfl (by kernel_rfl) (by kernel_rfl) (by kernel_rfl) (fun _ _ _ h => h) (yieldsIf_cell (by kernel_rfl) rfl (by kernel_rfl) (fun W h => hloadMp W ((HF9.out W h.out).1.cell (i := 7) rfl))) S0 ?_
              refine held_take (i := 2) (v := .agg #[.int .i64 (k0 : Int), .int .i64 (c0 : Int)]) (some 45) rfl rfl (by kernel_rfl) (by kernel_rfl) (by kernel_rfl) (fun _ _ _ h => h) (yieldsIf_cell (by kernel_rfl) rfl (by kernel_rfl) (fun W h => hload2B W ((HF9.out W h.out).2.1.cell (i := 0) rfl) ((HF9.out W h.out).2.1.cell (i := 1) rfl))) S0 ?_
              refine held_take (i := 3) (v := .agg #[.int .i64 (j0 : Int), .int .i64 (d0 : Int)]) (some 46) rfl rfl (by kernel_rfl) (by kernel_rfl) (by kernel_rfl) (fun _ _ _ h => h) (yieldsIf_cell (by kernel_rfl) rfl (by kernel_rfl) (fun W h => hload2B W ((HF9.out W h.out).2.2.1.cell (i := 0) rfl) ((HF9.out W h.out).2.2.1.cell (i := 1) rfl))) S0 ?_
              refine held_take (i := 4) (v := .agg #[.int .i64 (k0 : Int), .int .i64 (c0 : Int), .int .i64 (j0 : Int), .int .i64 (d0 : Int)]) (some 47) rfl rfl (by kernel_rfl) (by kernel_rfl) (by kernel_rfl) (fun _ _ _ h => h) (yieldsIf_run (by kernel_rfl) (fun W _ => by kernel_rfl)) S0 ?_
              refine held_take (i := 5) (v := .agg #[.int .i64 p, .slice ad ds.length cap, .slice am ms.length capm, .int .i64 p2, .slice ad2 ds2.length cap2, .slice am2 ms2.length capm2, .slice (some ⟨G, 0, none⟩) N N, .map (some mb)]) (some 48) rfl rfl (by kernel_rfl) (by kernel_rfl) (by kernel_rfl) (fun _ _ _ h => h) (yieldsIf_cell (by kernel_rfl) rfl (by kernel_rfl) (fun W h => hload8T W (HF9.out W h.out).1)) S0 ?_
              refine held_take (i := 6) (v := .int .i64 (n : Int)) (some 49) rfl rfl (by kernel_rfl) (by kernel_rfl) (by kernel_rfl) (fun _ _ _ h => h) (yieldsIf_move (by kernel_rfl) rfl (by kernel_rfl)) S0 ?_
              refine held_enter (i := 7) (some 50) (f := 191) (args := #[.agg #[.int .i64 p, .slice ad ds.length cap, .slice am ms.length capm, .int .i64 p2, .slice ad2 ds2.length cap2, .slice am2 ms2.length capm2, .slice (some ⟨G, 0, none⟩) N N, .map (some mb)], .int .i64 (n : Int)]) (by kernel_rfl) rfl rfl rfl (by kernel_rfl) (dim_any p p2 _ _ _ _ G N n mb m cpr apr W7.drew (HF9.out _ S0.out).2.2.2 hnN) ?_ (fun c w' h => by cases h.1) (fun w' h => by cases h.1)
              rintro e8 W8 ⟨he8, hb8⟩
              injection he8 with he8
              subst he8
              have S1 : Hid (But mb W7 W8) := Lib.hid (S0.out.trans (But.of_below hb8))
              refine ⟨S1, ?_⟩
              have HI8 := Lib.hid (HI7.out.next h1b ((Below.refl W7.heap.size W7).drew.trans (hb8.mono (Nat.le_refl _))))
              refine held_one (i := 8) (by kernel_rfl) ?_
              refine op_mapPut (i := 8) rfl rfl rfl (.tmp 44) (.tmp 47) (.tmp 50) rfl mb _ (tsB X Y a b) (by kernel_rfl) HI8.out.map HSL.out (((k0 : Int), (c0 : Int)), ((j0 : Int), (d0 : Int))) (by kernel_rfl) (by rw [HDG.out, ← HM.out]; kernel_rfl) (by rw [HDG.out, ← HM.out]; omega) HWF.out HNW.out ?_
              intro W9 hpl9 hgr9
              have S2 : Hid (But mb W7 W9) := Lib.hid (S1.out.trans (But.of_grown hgr9))
              refine ⟨S2, ?_⟩
              refine wpAnyH_done (by kernel_rfl) ?_ _
              simp only [Act.put, List.setIfInBounds_toArray, List.set_cons_zero, List.set_cons_succ]
              have HPL9 : Hid (Pl W9 mb ((tsB X Y a b).length + 1) ((tsB X Y a b) ++ [(((k0 : Int), (c0 : Int)), ((j0 : Int), (d0 : Int)))])) := Lib.hid hpl9
              have hbk : ∀ k, k < N → (f k).ownBlock ≠ some mb := fun k hk e => by have := World.ownsRow.lt (HI8.out.prs.own k hk) mb e; omega
              have HP9 : Hid (Prs W9 base G N f (tsB X Y a b)) := Lib.hid (HI8.out.prs.kept hgr9 hn6 hbk)
              have hs9 : W7.heap.size ≤ W9.heap.size := S2.out.size
              have HB9 : Hid (Below w1.heap.size w1 W9) := Lib.hid (HI7.out.below.trans (S2.out.below HI7.out.below.size (by omega)))
              have HF10 := Lib.hid (HF9.out W9 S2.out)
              have HOX9 : Hid (Ob base W9 (.slice (some ⟨gx, 0, none⟩) nx cx) X) := Lib.hid (((HOX7.out.below (Below.refl W7.heap.size W7).drew).below hb8).kept hgr9 (Or.inr (fun e => by simp [Value.ownBlock] at e; omega)))
              have HOY9 : Hid (Ob base W9 (.slice (some ⟨gy, 0, none⟩) ny cy) Y) := Lib.hid (((HOY7.out.below (Below.refl W7.heap.size W7).drew).below hb8).kept hgr9 (Or.inr (fun e => by simp [Value.ownBlock] at e; omega)))
              clear S0 S1 S2 hb8 hgr9 hpl9 hbk
              rw [HCS.out.symm] at HF10
              go_upto_region 10 with fail
              have S0 : Hid ((Rz W9.drew T5 145 cs ∧ Rz W9.drew b7 191 #[.int .i64 (k0 : Int), .int .i64 (c0 : Int)] ∧ Rz W9.drew b9 191 #[.int .i64 (j0 : Int), .int .i64 (d0 : Int)] ∧ W9.drew.cell? ⟨G, 0 + n, none⟩ = some (.slice apr m cpr))) := Lib.hid ⟨HF10.out.1.next (Below.refl _ _).drew, HF10.out.2.1.next (Below.refl _ _).drew, HF10.out.2.2.1.next (Below.refl _ _).drew, by rw [Nat.zero_add]; exact later (Below.refl _ _).drew (Nat.le_refl _) HF10.out.2.2.2⟩
              refine wp_region_last (fun W => Hid (Rz W T5 145 cs ∧ Rz W b7 191 #[.int .i64 (k0 : Int), .int .i64 (c0 : Int)] ∧ Rz W b9 191 #[.int .i64 (j0 : Int), .int .i64 (d0 : Int)] ∧ W.cell? ⟨G, 0 + n, none⟩ = some (.slice apr m cpr))) 14 (by kernel_rfl) rfl (by kernel_rfl) ?_
              refine held_take (i := 0) (v := .pointer (some ⟨T5, 6, none⟩)) (some 51) rfl rfl (by kernel_rfl) (by kernel_rfl) (by kernel_rfl) (fun _ _ _ h => h) (yieldsIf_run (by kernel_rfl) (fun W _ => by kernel_rfl)) S0 ?_
              refine held_take (i := 1) (v := .slice (some ⟨G, 0, none⟩) N N) (some 52) rfl rfl (by kernel_rfl) (by kernel_rfl) (by kernel_rfl) (fun _ _ _ h => h) (yieldsIf_cell (by kernel_rfl) rfl (by kernel_rfl) (fun W h => hloadPP W (CELL6 W h.out.1))) S0 ?_
              refine held_take (i := 2) (v := .int .i64 (n : Int)) (some 53) rfl rfl (by kernel_rfl) (by kernel_rfl) (by kernel_rfl) (fun _ _ _ h => h) (yieldsIf_move (by kernel_rfl) rfl (by kernel_rfl)) S0 ?_
              refine held_take (i := 3) (v := .pointer (some ⟨T5, 6, none⟩)) (some 54) rfl rfl (by kernel_rfl) (by kernel_rfl) (by kernel_rfl) (fun _ _ _ h => h) (yieldsIf_run (by kernel_rfl) (fun W _ => by kernel_rfl)) S0 ?_
              refine held_take (i := 4) (v := .slice (some ⟨G, 0, none⟩) N N) (some 55) rfl rfl (by kernel_rfl) (by kernel_rfl) (by kernel_rfl) (fun _ _ _ h => h) (yieldsIf_cell (by kernel_rfl) rfl (by kernel_rfl) (fun W h => hloadPP W (CELL6 W h.out.1))) S0 ?_
              refine held_take (i := 5) (v := .int .i64 (n : Int)) (some 56) rfl rfl (by kernel_rfl) (by kernel_rfl) (by kernel_rfl) (fun _ _ _ h => h) (yieldsIf_move (by kernel_rfl) rfl (by kernel_rfl)) S0 ?_
              refine held_take (i := 6) (v := .pointer (some ⟨G, 0 + n, none⟩)) (some 57) rfl rfl (by kernel_rfl) (by kernel_rfl) (by kernel_rfl) (fun _ _ _ h => h) (yieldsIf_index (by kernel_rfl) rfl (by kernel_rfl) (by kernel_rfl) (hidxPP G 0 N hnN)) S0 ?_
              refine held_take (i := 7) (v := .slice apr m cpr) (some 58) rfl rfl (by kernel_rfl) (by kernel_rfl) (by kernel_rfl) (fun _ _ _ h => h) (yieldsIf_cell (by kernel_rfl) rfl (by kernel_rfl) (fun W h => hloadPr W h.out.2.2.2)) S0 ?_
              refine held_take (i := 8) (v := .agg #[.int .i64 (k0 : Int), .int .i64 (c0 : Int)]) (some 59) rfl rfl (by kernel_rfl) (by kernel_rfl) (by kernel_rfl) (fun _ _ _ h => h) (yieldsIf_cell (by kernel_rfl) rfl (by kernel_rfl) (fun W h => hload2B W (h.out.2.1.cell (i := 0) rfl) (h.out.2.1.cell (i := 1) rfl))) S0 ?_
              refine held_take (i := 9) (v := .agg #[.int .i64 (j0 : Int), .int .i64 (d0 : Int)]) (some 60) rfl rfl (by kernel_rfl) (by kernel_rfl) (by kernel_rfl) (fun _ _ _ h => h) (yieldsIf_cell (by kernel_rfl) rfl (by kernel_rfl) (fun W h => hload2B W (h.out.2.2.1.cell (i := 0) rfl) (h.out.2.2.1.cell (i := 1) rfl))) S0 ?_
              refine held_take (i := 10) (v := .agg #[.int .i64 (k0 : Int), .int .i64 (c0 : Int), .int .i64 (j0 : Int), .int .i64 (d0 : Int)]) (some 61) rfl rfl (by kernel_rfl) (by kernel_rfl) (by kernel_rfl) (fun _ _ _ h => h) (yieldsIf_run (by kernel_rfl) (fun W _ => by kernel_rfl)) S0 ?_
              obtain ⟨WA, hWA⟩ : ∃ W', W' = W9.drew.alloc (.cells #[.int .i64 (k0 : Int), .int .i64 (c0 : Int), .int .i64 (j0 : Int), .int .i64 (d0 : Int)] 194) := ⟨_, rfl⟩
              have hbA : Below W9.drew.heap.size W9.drew WA := by rw [hWA]; exact below_alloc1 _ _
              have v0 : WA.cell? ⟨W9.drew.heap.size, 0, none⟩ = some (.int .i64 (k0 : Int)) := by rw [hWA]; exact cell_newP0 _ _ _ _ _ _
              have v1 : WA.cell? ⟨W9.drew.heap.size, 1, none⟩ = some (.int .i64 (c0 : Int)) := by rw [hWA]; exact cell_newP1 _ _ _ _ _ _
              have v2 : WA.cell? ⟨W9.drew.heap.size, 2, none⟩ = some (.int .i64 (j0 : Int)) := by rw [hWA]; exact cell_newP2 _ _ _ _ _ _
              have v3 : WA.cell? ⟨W9.drew.heap.size, 3, none⟩ = some (.int .i64 (d0 : Int)) := by rw [hWA]; exact cell_newP3 _ _ _ _ _ _
              have S1 : Hid ((Rz WA T5 145 cs ∧ Rz WA b7 191 #[.int .i64 (k0 : Int), .int .i64 (c0 : Int)] ∧ Rz WA b9 191 #[.int .i64 (j0 : Int), .int .i64 (d0 : Int)] ∧ WA.cell? ⟨G, 0 + n, none⟩ = some (.slice apr m cpr))) := Lib.hid ⟨S0.out.1.next hbA, S0.out.2.1.next hbA, S0.out.2.2.1.next hbA, later hbA (Nat.le_refl _) S0.out.2.2.2⟩
              refine held_mem (i := 11) (v := .slice (some ⟨W9.drew.heap.size, 0, none⟩) 1 1) (w' := WA) (some 62) (by kernel_rfl) rfl rfl rfl (by rw [hWA]; go_simp) S1 ?_
              simp only [Act.put, List.setIfInBounds_toArray, List.set_cons_zero, List.set_cons_succ]
              have HPA : Hid (Prs WA base G N f (tsB X Y a b)) := Lib.hid ((HP9.out.below (Below.refl W9.heap.size W9).drew).below hbA)
              have hown := HPA.out.own n hnN
              rw [HFN.out, ← HM.out] at hown
              have hsA : base ≤ WA.heap.size := by have := HPA.out.lo; have := hbA.size; have := HI7.out.bs; have hq : W9.drew.heap.size = W9.heap.size := rfl; omega
              have hsA2 : W9.heap.size ≤ WA.heap.size := hbA.size
              have HPLA := Lib.hid ((HPL9.out.below (Below.refl W9.heap.size W9).drew).below hbA)
              have HOXA := Lib.hid ((HOX9.out.below (Below.refl W9.heap.size W9).drew).below hbA)
              have HOYA := Lib.hid ((HOY9.out.below (Below.refl W9.heap.size W9).drew).below hbA)
              refine held_call (i := 12) (by kernel_rfl) rfl rfl ?_
              refine wp_appendPr (some 63) rfl (.tmp 58) (.tmp 62) rfl base (.slice apr m cpr) m _ (by kernel_rfl) hown W9.drew.heap.size (by kernel_rfl) (((k0 : Int), (c0 : Int)), ((j0 : Int), (d0 : Int))) v0 v1 v2 v3 hm8 hsA ?_
              intro g9 c9 WB ho9 hg9 hl9 hlt9
              have hneT : ∀ k, k < base → (Value.slice apr m cpr).ownBlock ≠ some k := fun k hk e => by have := World.ownsRow.lt hown k e; omega
              have hne7 : some b7 ≠ (Value.slice apr m cpr).ownBlock := fun e => rz_ne S1.out.2.1 hown (by decide) e.symm
              have hne9 : some b9 ≠ (Value.slice apr m cpr).ownBlock := fun e => rz_ne S1.out.2.2.1 hown (by decide) e.symm
              have S2 : Hid ((Rz WB T5 145 cs ∧ Rz WB b7 191 #[.int .i64 (k0 : Int), .int .i64 (c0 : Int)] ∧ Rz WB b9 191 #[.int .i64 (j0 : Int), .int .i64 (d0 : Int)] ∧ WB.cell? ⟨G, 0 + n, none⟩ = some (.slice apr m cpr))) := Lib.hid ⟨S1.out.1.grown hg9 (fun e => hneT T5 hT5b e.symm), S1.out.2.1.grown hg9 hne7, S1.out.2.2.1.grown hg9 hne9, by rw [World.cell?_of_block (w := WA) (hg9.block G (cell_lt S1.out.2.2.2) (fun e => hneT G hGb e.symm))]; exact S1.out.2.2.2⟩
              refine ⟨S2, ?_⟩
              refine held_take (i := 13) (v := .pointer (some ⟨G, 0 + n, none⟩)) (some 64) rfl rfl (by kernel_rfl) (by kernel_rfl) (by kernel_rfl) (fun _ _ _ h => h) (yieldsIf_index (by kernel_rfl) rfl (by kernel_rfl) (by kernel_rfl) (hidxPP G 0 N hnN)) S2 ?_
              refine held_none (i := 14) (v := .bool false) rfl rfl (by kernel_rfl) (by kernel_rfl) (by kernel_rfl) (fun _ _ _ h => h) (yieldsIf_move (by kernel_rfl) rfl (by kernel_rfl)) S2 ?_
              have hgs := hg9.size
              have HPB := Lib.hid (HPA.out.step (q := (((k0 : Int), (c0 : Int)), ((j0 : Int), (d0 : Int)))) (g := g9) (cap := c9) hnN HDG.out (by rw [← HM.out]; exact ho9) (by rw [HFN.out]; exact hg9) (by rw [HFN.out]; exact hl9))
              rw [← HM.out] at HPB
              have z1 : WB.cell? ⟨G, 0 + n, none⟩ = some (.slice apr m cpr) := S2.out.2.2.2
              have z2 : WB.frozen? ⟨G, 0 + n, none⟩ = false := by rw [World.frozen?_of_block (w := WA) (a := ⟨G, 0 + n, none⟩) (hg9.block G (cell_lt S1.out.2.2.2) (fun e => hneT G hGb e.symm))]; exact HPA.out.row.frozen _
              refine wpAnyH_done (by kernel_rfl) (lastQ_of rfl (by kernel_rfl) ?_) _
              simp only [Act.put, List.setIfInBounds_toArray, List.set_cons_zero, List.set_cons_succ]
              have HPLB : Hid (Pl (WB.setCell ⟨G, n, none⟩ (.slice (some ⟨g9, 0, none⟩) (m + 1) c9)) mb (tsB X Y a (b + 1)).length (tsB X Y a (b + 1))) := Lib.hid (by rw [HTE.out, List.length_append]; exact (HPLA.out.kept hg9 (fun e => hneT mb hmbb e.symm)).block (Below.heap_setCell _ _ _ _ (by show mb ≠ G; omega)))
              have HOXB : Hid (Ob base (WB.setCell ⟨G, n, none⟩ (.slice (some ⟨g9, 0, none⟩) (m + 1) c9)) (.slice (some ⟨gx, 0, none⟩) nx cx) X) := Lib.hid (ownsRow_setCell_below (owns_grown HOXA.out hown (by decide) hg9) (by show G < base; exact hGb) _)
              have HOYB : Hid (Ob base (WB.setCell ⟨G, n, none⟩ (.slice (some ⟨g9, 0, none⟩) (m + 1) c9)) (.slice (some ⟨gy, 0, none⟩) ny cy) Y) := Lib.hid (ownsRow_setCell_below (owns_grown HOYA.out hown (by decide) hg9) (by show G < base; exact hGb) _)
              have HBB : Hid (Below w1.heap.size w1 (WB.setCell ⟨G, n, none⟩ (.slice (some ⟨g9, 0, none⟩) (m + 1) c9))) := Lib.hid ((((HB9.out.drew).trans (hbA.mono HB9.out.size)).grown hg9 (Nat.le_trans HB9.out.size hsA2) (fun k hk => by have := World.ownsRow.lt hown k hk; omega)).setCell (by show w1.heap.size ≤ G; exact hn2) _)
              have HRB : Hid (Rz (WB.setCell ⟨G, n, none⟩ (.slice (some ⟨g9, 0, none⟩) (m + 1) c9)) T5 145 cs ∧ Rz (WB.setCell ⟨G, n, none⟩ (.slice (some ⟨g9, 0, none⟩) (m + 1) c9)) b7 191 #[.int .i64 (k0 : Int), .int .i64 (c0 : Int)]) := Lib.hid ⟨(Below.heap_setCell _ _ _ _ (by show T5 ≠ G; exact hn4)).trans S2.out.1, (Below.heap_setCell _ _ _ _ (by show b7 ≠ G; omega)).trans S2.out.2.1⟩
              have HSB : Hid (base ≤ (WB.setCell ⟨G, n, none⟩ (.slice (some ⟨g9, 0, none⟩) (m + 1) c9)).heap.size) := Lib.hid (by simp only [World.size_setCell]; omega)
              have HIB : Hid (TsI w1 (WB.setCell ⟨G, n, none⟩ (.slice (some ⟨g9, 0, none⟩) (m + 1) c9)) base T5 G N mb cs (fun m2 => if m2 = n then .slice (some ⟨g9, 0, none⟩) (m + 1) c9 else f m2) (tsB X Y a (b + 1))) := Lib.hid ⟨HBB.out, HSB.out, HRB.out.1, by rw [HTE.out]; exact HPB.out, HPLB.out⟩
              clear S0 S1 S2 hbA hown ho9 hg9 hl9 hlt9 hneT hne7 hne9 hWA v0 v1 v2 v3 hgs
              rw [Nat.zero_add] at z1 z2 ⊢
              go_simp
              go_wp2 -- AFTER
              go_roundw
              case rel => exact ⟨b + 1, _, by omega, by go_num, HIB, HOXB, HOYB, Lib.hid HRB.out.2⟩
              case measure => simp [intOf]; omega
            · have hbe : b = ny := by omega
              have HIF : Hid (TsI w1 wy base T5 G N mb cs f (tsA X Y (a + 1))) := Lib.hid (by have := HI.out; rw [hbe, HNY.out, tsB_full X Y hla] at this; exact this)
              clear hbe
              go_wp2
              go_roundw
              case rel => exact ⟨a + 1, f, by omega, by go_num, HIF, HOX⟩
              case measure => simp [intOf]; omega
        · have hae : a = nx := by omega
          have HT4R : Hid (Rz wx (w.heap.size + 1 + 1) 145 #[.int .i64 0, .slice none 0 0, .slice none 0 0, .int .i64 0, .slice none 0 0, .slice none 0 0, .slice none 0 0, .map none]) := Lib.hid ((HZ4.out).next HI.out.below)
          have HBT : Hid (Rz wx T5 145 #[.int .i64 p, .slice ad ds.length cap, .slice am ms.length capm, .int .i64 p2, .slice ad2 ds2.length cap2, .slice am2 ms2.length capm2, .slice (some ⟨G, 0, none⟩) N N, .map (some mb)]) := Lib.hid (by have := HI.out.box; rwa [HCS.out] at this)
          have s0 : wx.cell? ⟨T5, 0, none⟩ = some (.int .i64 p) := HBT.out.cell (i := 0) rfl
          have s1 : wx.cell? ⟨T5, 1, none⟩ = some (.slice ad ds.length cap) := HBT.out.cell (i := 1) rfl
          have s2 : wx.cell? ⟨T5, 2, none⟩ = some (.slice am ms.length capm) := HBT.out.cell (i := 2) rfl
          have s3 : wx.cell? ⟨T5, 3, none⟩ = some (.int .i64 p2) := HBT.out.cell (i := 3) rfl
          have s4 : wx.cell? ⟨T5, 4, none⟩ = some (.slice ad2 ds2.length cap2) := HBT.out.cell (i := 4) rfl
          have s5 : wx.cell? ⟨T5, 5, none⟩ = some (.slice am2 ms2.length capm2) := HBT.out.cell (i := 5) rfl
          have s6 : wx.cell? ⟨T5, 6, none⟩ = some (.slice (some ⟨G, 0, none⟩) N N) := HBT.out.cell (i := 6) rfl
          have s7 : wx.cell? ⟨T5, 7, none⟩ = some (.map (some mb)) := HBT.out.cell (i := 7) rfl
          have hw12 : w.heap.size + 1 + 1 < w1.heap.size := HZ4.out.lt
          obtain ⟨WF, hWF⟩ : ∃ W, W = wx.setRow (w.heap.size + 1 + 1) #[.int .i64 p, .slice ad ds.length cap, .slice am ms.length capm, .int .i64 p2, .slice ad2 ds2.length cap2, .slice am2 ms2.length capm2, .slice (some ⟨G, 0, none⟩) N N, .map (some mb)] := ⟨_, rfl⟩
          have hoth : ∀ k, k ≠ w.heap.size + 1 + 1 → WF.heap[k]? = wx.heap[k]? := fun k hk => by rw [hWF]; exact setRow_other _ _ _ _ hk
          have HBF : Hid (Below w.heap.size w WF) := Lib.hid (by rw [hWF]; exact below_setRow (HB01.out.trans (HI.out.below.mono HB01.out.size)) (by omega) _)
          have HPF : Hid (Prs WF base G N f0 (tsA X Y a)) := Lib.hid ⟨HI.out.prs.row.of_block (hoth G (by omega)), HI.out.prs.lo, fun n hn => owns_block (HI.out.prs.own n hn) (fun k hk => hoth k (by have := World.ownsRow.lt (HI.out.prs.own n hn) k hk; omega)), HI.out.prs.sep⟩
          have HMF : Hid (Pl WF mb (tsA X Y a).length (tsA X Y a)) := Lib.hid (HI.out.map.block (hoth mb (by omega)))
          have HRF : Hid (Rz WF (w.heap.size + 1 + 1) 145 #[.int .i64 p, .slice ad ds.length cap, .slice am ms.length capm, .int .i64 p2, .slice ad2 ds2.length cap2, .slice am2 ms2.length capm2, .slice (some ⟨G, 0, none⟩) N N, .map (some mb)]) := Lib.hid (by rw [hWF]; exact HT4R.out.set _)
          have HAE : Hid (a = X.length) := Lib.hid (by rw [hae, HNX.out])
          have HRES : Hid (Try.f139.results = #[.cell 4 145]) := Lib.hid (by kernel_rfl)
          have r0 : WF.cell? ⟨w.heap.size + 1 + 1, 0, none⟩ = some (.int .i64 p) := HRF.out.cell (i := 0) rfl
          have r1 : WF.cell? ⟨w.heap.size + 1 + 1, 1, none⟩ = some (.slice ad ds.length cap) := HRF.out.cell (i := 1) rfl
          have r2 : WF.cell? ⟨w.heap.size + 1 + 1, 2, none⟩ = some (.slice am ms.length capm) := HRF.out.cell (i := 2) rfl
          have r3 : WF.cell? ⟨w.heap.size + 1 + 1, 3, none⟩ = some (.int .i64 p2) := HRF.out.cell (i := 3) rfl
          have r4 : WF.cell? ⟨w.heap.size + 1 + 1, 4, none⟩ = some (.slice ad2 ds2.length cap2) := HRF.out.cell (i := 4) rfl
          have r5 : WF.cell? ⟨w.heap.size + 1 + 1, 5, none⟩ = some (.slice am2 ms2.length capm2) := HRF.out.cell (i := 5) rfl
          have r6 : WF.cell? ⟨w.heap.size + 1 + 1, 6, none⟩ = some (.slice (some ⟨G, 0, none⟩) N N) := HRF.out.cell (i := 6) rfl
          have r7 : WF.cell? ⟨w.heap.size + 1 + 1, 7, none⟩ = some (.map (some mb)) := HRF.out.cell (i := 7) rfl
          have HGG : Hid (w.heap.size ≤ G ∧ w.heap.size ≤ mb) := Lib.hid (by omega)
          clear hae hoth hi1 hi2
          have HT4H : Hid (wx.heap[w.heap.size + 1 + 1]? = some (.cells #[.int .i64 0, .slice none 0 0, .slice none 0 0, .int .i64 0, .slice none 0 0, .slice none 0 0, .slice none 0 0, .map none] 145 (0, 0))) := Lib.hid HT4R.out
          have HINF : Hid ((Try.prog.info? 145).map (·.size) = some (#[.int .i64 p, .slice ad ds.length cap, .slice am ms.length capm, .int .i64 p2, .slice ad2 ds2.length cap2, .slice am2 ms2.length capm2, .slice (some ⟨G, 0, none⟩) N N, .map (some mb)] : Array Value).size) := Lib.hid (infoTs _ _ _ _ _ _ _ _)
          have HOS : Hid ((#[.int .i64 0, .slice none 0 0, .slice none 0 0, .int .i64 0, .slice none 0 0, .slice none 0 0, .slice none 0 0, .map none] : Array Value).size = (#[.int .i64 p, .slice ad ds.length cap, .slice am ms.length capm, .int .i64 p2, .slice ad2 ds2.length cap2, .slice am2 ms2.length capm2, .slice (some ⟨G, 0, none⟩) N N, .map (some mb)] : Array Value).size) := Lib.hid (by first | rfl | kernel_rfl | simp [Value.oneCell'])
          have HALL : Hid ((#[.int .i64 p, .slice ad ds.length cap, .slice am ms.length capm, .int .i64 p2, .slice ad2 ds2.length cap2, .slice am2 ms2.length capm2, .slice (some ⟨G, 0, none⟩) N N, .map (some mb)] : Array Value).all (·.oneCell') = true) := Lib.hid (by first | rfl | kernel_rfl | simp [Value.oneCell'])
          go_wp2_with (with_reducible refine wpList_store_row rfl 145 (.tmp 4) (.tmp 67) rfl (w.heap.size + 1 + 1) #[.int .i64 p, .slice ad ds.length cap, .slice am ms.length capm, .int .i64 p2, .slice ad2 ds2.length cap2, .slice am2 ms2.length capm2, .slice (some ⟨G, 0, none⟩) N N, .map (some mb)] rfl rfl 145 #[.int .i64 0, .slice none 0 0, .slice none 0 0, .int .i64 0, .slice none 0 0, .slice none 0 0, .slice none 0 0, .map none] HT4H.out HINF.out HOS.out HALL.out ?_)
          rw [← hWF]
          clear hWF s0 s1 s2 s3 s4 s5 s6 s7
          go_wp2
          refine bodyPost_ret (v := .agg #[.int .i64 p, .slice ad ds.length cap, .slice am ms.length capm, .int .i64 p2, .slice ad2 ds2.length cap2, .slice am2 ms2.length capm2, .slice (some ⟨G, 0, none⟩) N N, .map (some mb)]) ?_ rfl ⟨G, mb, N, base, _, f0, rfl, HNE.out, HGG.out.1, HGG.out.2, by rw [← HX.out, ← HY.out, ← HAE.out]; exact HPF.out, by rw [← HX.out, ← HY.out, ← HAE.out]; exact HMF.out, HBF.out⟩
          simp only [results, HRES.out]
          go_simp
end Go.Proofs.Ythfcadgbipnemaa


namespace Go.Proofs.Ythfcadgbipnemaa
open Go.RowKit

/-- A row when a numbers of us are done, and of the next one b of vs. -/
def adpZ (p f : Int) (S0 : Nat) (us vs : List Int) (Z : Nat → Int) (a b k : Nat) : Int := if S0 ≤ k ∧ k < S0 + a * vs.length + b then (Z k + f * us.getD ((k - S0) / vs.length) 0 * vs.getD ((k - S0) % vs.length) 0) % p else Z k
theorem adpZ_zero (p f : Int) (S0 : Nat) (us vs : List Int) (Z : Nat → Int) (k : Nat) : adpZ p f S0 us vs Z 0 0 k = Z k := by
  unfold adpZ
  rw [if_neg (by rintro ⟨h1, h2⟩; rw [Nat.zero_mul] at h2; omega)]
theorem adpZ_next (p f : Int) (S0 : Nat) (us vs : List Int) (Z : Nat → Int) (a k : Nat) : adpZ p f S0 us vs Z a vs.length k = adpZ p f S0 us vs Z (a + 1) 0 k := by
  unfold adpZ
  rw [show S0 + (a + 1) * vs.length + 0 = S0 + a * vs.length + vs.length by rw [Nat.succ_mul]; omega]
theorem adpZ_at (p f : Int) (S0 : Nat) (us vs : List Int) (Z : Nat → Int) (a b : Nat) : adpZ p f S0 us vs Z a b (S0 + a * vs.length + b) = Z (S0 + a * vs.length + b) := by
  unfold adpZ
  rw [if_neg (by omega)]
theorem adpZ_step (p f : Int) (S0 : Nat) (us vs : List Int) (Z : Nat → Int) {a b : Nat} (hb : b < vs.length) (k : Nat) :
    (if k = S0 + a * vs.length + b then (Z k + f * us.getD a 0 * vs.getD b 0) % p else adpZ p f S0 us vs Z a b k) = adpZ p f S0 us vs Z a (b + 1) k := by
  by_cases e : k = S0 + a * vs.length + b
  · subst e
    rw [if_pos rfl]
    unfold adpZ
    have h1 : S0 + a * vs.length + b - S0 = b + a * vs.length := by omega
    have h2 : (b + a * vs.length) / vs.length = a := by rw [Nat.add_mul_div_right _ _ (by omega), Nat.div_eq_of_lt hb, Nat.zero_add]
    have h3 : (b + a * vs.length) % vs.length = b := by rw [Nat.add_mul_mod_self_right, Nat.mod_eq_of_lt hb]
    rw [if_pos (by omega), h1, h2, h3]
  · rw [if_neg e]
    unfold adpZ
    by_cases h : S0 ≤ k ∧ k < S0 + a * vs.length + b
    · rw [if_pos h, if_pos (by omega)]
    · rw [if_neg h, if_neg (by omega)]

set_option maxHeartbeats 3200000 in
set_option maxRecDepth 100000 in
theorem addPair_any (p p2 f di dj : Int) (dv mv dv2 mv2 pv' uv vv : Value) (S0 g N mb nm : Nat) (Z : Nat → Int) (us vs : List Int) (S : List PV) (w : World) (hp : IsP p) (hf : 0 ≤ f ∧ f ≤ 6)
    (hr : w.rowIs g 2 N (fun k => .int .i64 (Z k))) (hmap : ∀ W, But g w W → Pl W mb nm S) (hou : ∀ W, But g w W → L1 0 W uv us) (hov : ∀ W, But g w W → L1 0 W vv vs)
    (hun : ∀ x ∈ us, 0 ≤ x ∧ x ≤ p - 1) (hvn : ∀ x ∈ vs, 0 ≤ x ∧ x ≤ p - 1) (hZ : ∀ k, k < N → 0 ≤ Z k ∧ Z k ≤ p - 1)
    (hpl : ∀ a b : Nat, a < us.length → b < vs.length → Wf4 ((di, (a : Int)), (dj, (b : Int))) ∧ ((di, (a : Int)), (dj, (b : Int))) ∈ S ∧ plc S ((di, (a : Int)), (dj, (b : Int))) = S0 + a * vs.length + b)
    (hN : S0 + us.length * vs.length ≤ N) (hul : us.length ≤ 1048576) (hvl : vs.length ≤ 1048576) :
    Calls Try.prog 143 #[.agg #[.int .i64 p, dv, mv, .int .i64 p2, dv2, mv2, pv', .map (some mb)], .slice (some ⟨g, 0, none⟩) N N, .int .i64 f, .agg #[.int .i64 di, uv], .agg #[.int .i64 dj, vv]] w (AddR g N (adpZ p f S0 us vs Z us.length 0) w) := by
  obtain ⟨au, cu, rfl⟩ := Sl.shape (hou w (But.refl _ _))
  obtain ⟨av, cv, rfl⟩ := Sl.shape (hov w (But.refl _ _))
  have hgl : g < w.heap.size := hr.lt
  obtain ⟨w1, hw1⟩ : ∃ w1, w1 = (((w.alloc (.cells #[.int .i64 p, dv, mv, .int .i64 p2, dv2, mv2, pv', .map (some mb)] 145)).alloc (.cells #[.int .i64 di, .slice au us.length cu] 152)).alloc (.cells #[.int .i64 dj, .slice av vs.length cv] 152)) := ⟨_, rfl⟩
  have hb01 : Below w.heap.size w w1 := by rw [hw1]; exact (((Below.refl _ _).alloc (Nat.le_refl _) _).alloc (by simp) _).alloc (by simp; omega) _
  have hs1 : w1.heap.size = w.heap.size + 3 := by rw [hw1]; simp
  have hbt : But g w w1 := But.of_below hb01
  obtain ⟨wa, hwa⟩ : ∃ wa, wa = w.alloc (.cells #[.int .i64 p, dv, mv, .int .i64 p2, dv2, mv2, pv', .map (some mb)] 145) := ⟨_, rfl⟩
  obtain ⟨wb, hwb⟩ : ∃ wb, wb = wa.alloc (.cells #[.int .i64 di, .slice au us.length cu] 152) := ⟨_, rfl⟩
  have hsa : wa.heap.size = w.heap.size + 1 := by rw [hwa]; simp
  have hsb : wb.heap.size = w.heap.size + 2 := by rw [hwb]; simp [hsa]
  have hw1b : w1 = wb.alloc (.cells #[.int .i64 dj, .slice av vs.length cv] 152) := by rw [hw1, hwb, hwa]
  have bab : Below wa.heap.size wa wb := by rw [hwb]; exact below_alloc1 _ _
  have bb1 : Below wb.heap.size wb w1 := by rw [hw1b]; exact below_alloc1 _ _
  have ba1 : Below wa.heap.size wa w1 := bab.trans (bb1.mono (by omega))
  have a0 : w1.cell? ⟨w.heap.size, 0, none⟩ = some (.int .i64 p) := later ba1 (Nat.le_refl _) (by rw [hwa]; simp)
  have a7 : w1.cell? ⟨w.heap.size, 7, none⟩ = some (.map (some mb)) := later ba1 (Nat.le_refl _) (by rw [hwa]; simp)
  have e0 : w1.cell? ⟨w.heap.size + 1, 0, none⟩ = some (.int .i64 di) := later bb1 (Nat.le_refl _) (by rw [hwb, ← hsa]; simp)
  have e1 : w1.cell? ⟨w.heap.size + 1, 1, none⟩ = some (.slice au us.length cu) := later bb1 (Nat.le_refl _) (by rw [hwb, ← hsa]; simp)
  have h0 : w1.cell? ⟨w.heap.size + 2, 0, none⟩ = some (.int .i64 dj) := by rw [hw1b, ← hsb]; simp
  have h1 : w1.cell? ⟨w.heap.size + 2, 1, none⟩ = some (.slice av vs.length cv) := by rw [hw1b, ← hsb]; simp
  clear hw1b hwa hwb hsa hsb bab bb1 ba1
  have HBT := Lib.hid hbt
  have HOU : Hid (∀ W, But g w1 W → L1 0 W (.slice au us.length cu) us) := Lib.hid (fun W h => hou W (hbt.trans h))
  have HOV : Hid (∀ W, But g w1 W → L1 0 W (.slice av vs.length cv) vs) := Lib.hid (fun W h => hov W (hbt.trans h))
  have HMP : Hid (∀ W, But g w1 W → Pl W mb nm S) := Lib.hid (fun W h => hmap W (hbt.trans h))
  have HKE : Hid (∀ W, But g w1 W → W.cell? ⟨w.heap.size, 7, none⟩ = some (.map (some mb)) ∧ W.cell? ⟨w.heap.size + 1, 0, none⟩ = some (.int .i64 di) ∧ W.cell? ⟨w.heap.size + 1, 1, none⟩ = some (.slice au us.length cu) ∧ W.cell? ⟨w.heap.size + 2, 0, none⟩ = some (.int .i64 dj) ∧ W.cell? ⟨w.heap.size + 2, 1, none⟩ = some (.slice av vs.length cv)) := Lib.hid (fun W h =>
    ⟨(h.cell (by omega) (by omega)).trans a7, (h.cell (by omega) (by omega)).trans e0, (h.cell (by omega) (by omega)).trans e1, (h.cell (by omega) (by omega)).trans h0, (h.cell (by omega) (by omega)).trans h1⟩)
  have A0 : Hid (∀ W, But g w1 W → W.cell? ⟨w.heap.size, 0, none⟩ = some (.int .i64 p)) := Lib.hid (fun W h => (h.cell (by omega) (by omega)).trans a0)
  have HR1 : Hid (w1.rowIs g 2 N (fun k => .int .i64 (Z k))) := Lib.hid (hr.of_block (hb01.block _ hgl))
  have HUN := Lib.hid hun
  have HVN := Lib.hid hvn
  have HZB := Lib.hid hZ
  have HPL := Lib.hid hpl
  have HNN := Lib.hid hN
  have hp2 := hp.lo
  have hp7 := hp.hi
  obtain ⟨hf0, hf1⟩ := hf
  have HRES : Hid (Try.f143.results = #[]) := Lib.hid (by kernel_rfl)
  clear hr hmap hou hov hun hvn hZ hpl hN hp a0 a7 e0 e1 h0 h1 hbt
  go_enter Try.func143, Try.ntmps143
  go_upto_region 1 with fail
  rw [← hw1]
  clear hw1 hb01 hs1
  have e1 := (HKE.out _ (But.refl _ _)).2.2.1
  go_wp2
  clear e1
  go_loopw [10, 11, 12, 13, 14, 18, 26] (fun _ _ _ _ _ i _ wr => ∃ (a : Nat), a ≤ us.length ∧ i = .int .i64 a ∧ Hid (But g w1 wr) ∧ Hid (wr.rowIs g 2 N (fun k => .int .i64 (adpZ p f S0 us vs Z a 0 k)))) (fun _ _ _ _ _ i _ _ => us.length - (intOf i).toNat)
  case atStart => exact ⟨0, Nat.zero_le _, rfl, Lib.hid (But.refl _ _), Lib.hid (HR1.out.congr (fun k _ => by rw [adpZ_zero]))⟩
  case round =>
    obtain ⟨a, ha, rfl, HB, HROW⟩ := hrel
    obtain ⟨wx, hwx⟩ : ∃ wx : World, wx = wr := ⟨_, rfl⟩
    subst hwx
    by_cases hlt : a < us.length
    · have hai : (a : Int) < (us.length : Int) := by omega
      refine Sl.cases (HOU.out _ HB.out) (fun _ _ hx _ => absurd hlt (by simp [hx])) (fun bu ou cu2 hvu _ _ hcl => ?_)
      injection hvu with k1 k2 k3
      clear k2
      subst k1 k3
      obtain ⟨u, hu, hru⟩ := hcl a hlt
      obtain ⟨x, hx⟩ : ∃ x, x = us[a] := ⟨_, rfl⟩
      have hux : wx.cell? ⟨bu, ou + a, none⟩ = some (.int .i64 x) := by rw [hu, hru, hx]
      have hxb := HUN.out _ (List.getElem_mem hlt)
      rw [← hx] at hxb
      have HX : Hid (us.getD a 0 = x) := Lib.hid (by rw [getD_of_lt _ hlt, hx])
      have h1 := (HKE.out _ HB.out).2.2.2.2
      clear hcl hu hru hx
      go_wp2
      clear hux h1
      go_loopw [12, 13, 14, 26] (fun _ _ _ i wr => ∃ (b : Nat), b ≤ vs.length ∧ i = .int .i64 b ∧ Hid (But g w1 wr) ∧ Hid (wr.rowIs g 2 N (fun k => .int .i64 (adpZ p f S0 us vs Z a b k)))) (fun _ _ _ i _ => vs.length - (intOf i).toNat)
      case atStart => exact ⟨0, Nat.zero_le _, rfl, HB, HROW⟩
      case round =>
        clear HB HROW
        obtain ⟨b, hb, rfl, HB, HROW⟩ := hrel
        obtain ⟨wy, hwy⟩ : ∃ wy : World, wy = wr := ⟨_, rfl⟩
        subst hwy
        by_cases hltb : b < vs.length
        · have hbi : (b : Int) < (vs.length : Int) := by omega
          refine Sl.cases (HOV.out _ HB.out) (fun _ _ hx _ => absurd hltb (by simp [hx])) (fun bv ov cv2 hvv _ _ hcl => ?_)
          injection hvv with k1 k2 k3
          clear k2
          subst k1 k3
          obtain ⟨u, hu, hru⟩ := hcl b hltb
          obtain ⟨y, hy⟩ : ∃ y, y = vs[b] := ⟨_, rfl⟩
          have huy : wy.cell? ⟨bv, ov + b, none⟩ = some (.int .i64 y) := by rw [hu, hru, hy]
          have hyb := HVN.out _ (List.getElem_mem hltb)
          rw [← hy] at hyb
          have HY : Hid (vs.getD b 0 = y) := Lib.hid (by rw [getD_of_lt _ hltb, hy])
          obtain ⟨k7, k10, k11, k20, k21⟩ := HKE.out _ HB.out
          obtain ⟨hw4, hmem, hplc⟩ := HPL.out a b hlt hltb
          have hkey : keyOf Try.prog 194 (pv di a dj b) = some (keyV ((di, (a : Int)), (dj, (b : Int)))) := keyOf_pv hw4.a hw4.b hw4.c hw4.d
          have hz := zeroI' wy
          obtain ⟨D, hown, hD⟩ := HMP.out _ HB.out
          have hh := hD.yes _ hw4 hmem
          rw [hplc] at hh
          have HH := Lib.hid hh
          obtain ⟨pl, hple⟩ : ∃ pl, pl = S0 + a * vs.length + b := ⟨_, rfl⟩
          have hab : a * vs.length + vs.length ≤ us.length * vs.length := by
            have := Nat.mul_le_mul_right vs.length (show a + 1 ≤ us.length from hlt)
            rwa [Nat.succ_mul] at this
          have hpn : pl < N := by have := HNN.out; omega
          rw [← hple] at HH
          have HPE := Lib.hid hple
          clear hcl hu hru hy hw4 hmem hplc hD hh hple hab
          go_wp2_with (at_lookup; refine wpList_lookup_own_int wy rfl _ _ 143 rfl 194 2 .i64 Try.keyedPr Try.underlying143 Try.underlying2 hz mb nm D rfl hown (pv di a dj b) (keyV ((di, (a : Int)), (dj, (b : Int)))) rfl hkey ?_; intro c hat hwc)
          have hc : c = (pl : Int) := by have := HH.out (.lit (.int .i64 0)); rw [this] at hat; injection hat with e; injection e with _ e; exact e.symm
          subst hc
          clear hat hwc hown hkey hz huy k7 k10 k11 k20 k21 HH
          obtain ⟨z, hzv⟩ : ∃ z, z = Z pl := ⟨_, rfl⟩
          have hzb := HZB.out pl hpn
          rw [← hzv] at hzb
          obtain ⟨hz0, hz1⟩ := hzb
          obtain ⟨hx0, hx1⟩ := hxb
          obtain ⟨hy0, hy1⟩ := hyb
          have m0 : 0 ≤ f * x := Int.mul_nonneg hf0 hx0
          have m1 : f * x ≤ 36 := Int.le_trans (Int.mul_le_mul hf1 (show x ≤ 6 by omega) hx0 (by omega)) (by omega)
          have m2 : 0 ≤ f * x * y := Int.mul_nonneg m0 hy0
          have m3 : f * x * y ≤ 216 := Int.le_trans (Int.mul_le_mul m1 (show y ≤ 6 by omega) hy0 (by omega)) (by omega)
          have HACC : Hid (∀ W : World, W.rowIs g 2 N (fun k => .int .i64 (adpZ p f S0 us vs Z a b k)) → W.cell? ⟨g, 0 + pl, none⟩ = some (.int .i64 z)) := Lib.hid (fun W h => by have h2 := h.cell hpn; rw [Nat.zero_add, h2, HPE.out, adpZ_at, ← HPE.out, ← hzv])
          have HST2 : Hid (∀ W : World, W.rowIs g 2 N (fun k => .int .i64 (adpZ p f S0 us vs Z a b k)) → (W.setCell ⟨g, 0 + pl, none⟩ (.int .i64 ((z + f * x * y) % p))).rowIs g 2 N (fun k => .int .i64 (adpZ p f S0 us vs Z a (b + 1) k))) := Lib.hid (fun W h => by
            rw [Nat.zero_add]
            refine (h.set pl _).congr (fun k _ => ?_)
            rw [← adpZ_step p f S0 us vs Z hltb k, HX.out, HY.out]
            by_cases e : k = pl
            · rw [if_pos e, if_pos (e.trans HPE.out), e, ← hzv]
            · rw [if_neg e, if_neg (fun e2 => e (e2.trans HPE.out.symm))])
          clear hzv
          go_upto_region 8 with fail
          have S0' : Hid (But g w1 wy.drew ∧ wy.drew.rowIs g 2 N (fun k => .int .i64 (adpZ p f S0 us vs Z a b k))) := Lib.hid ⟨HB.out.drew, HROW.out.drew⟩
          refine wp_region_last (fun W => Hid (But g w1 W ∧ W.rowIs g 2 N (fun k => .int .i64 (adpZ p f S0 us vs Z a b k)))) 17 (by kernel_rfl) rfl (by kernel_rfl) ?_
          refine held_take (i := 0) (v := .slice (some ⟨g, 0, none⟩) N N) (some 43) rfl rfl (by kernel_rfl) (by kernel_rfl) (by kernel_rfl) (fun _ _ _ h => h) (yieldsIf_move (by kernel_rfl) rfl (by kernel_rfl)) S0' ?_
          refine held_take (i := 1) (v := .int .i64 (pl : Int)) (some 44) rfl rfl (by kernel_rfl) (by kernel_rfl) (by kernel_rfl) (fun _ _ _ h => h) (yieldsIf_move (by kernel_rfl) rfl (by kernel_rfl)) S0' ?_
          refine held_take (i := 2) (v := .slice (some ⟨g, 0, none⟩) N N) (some 45) rfl rfl (by kernel_rfl) (by kernel_rfl) (by kernel_rfl) (fun _ _ _ h => h) (yieldsIf_move (by kernel_rfl) rfl (by kernel_rfl)) S0' ?_
          refine held_take (i := 3) (v := .int .i64 (pl : Int)) (some 46) rfl rfl (by kernel_rfl) (by kernel_rfl) (by kernel_rfl) (fun _ _ _ h => h) (yieldsIf_move (by kernel_rfl) rfl (by kernel_rfl)) S0' ?_
          refine held_take (i := 4) (v := .pointer (some ⟨g, 0 + pl, none⟩)) (some 47) rfl rfl (by kernel_rfl) (by kernel_rfl) (by kernel_rfl) (fun _ _ _ h => h) (yieldsIf_index (by kernel_rfl) rfl (by kernel_rfl) (by kernel_rfl) (hidxI g 0 N hpn)) S0' ?_
          refine held_take (i := 5) (v := .int .i64 z) (some 48) rfl rfl (by kernel_rfl) (by kernel_rfl) (by kernel_rfl) (fun _ _ _ h => h) (yieldsIf_cell (by kernel_rfl) rfl (by kernel_rfl) (fun W h => hload W (HACC.out W h.out.2))) S0' ?_
          refine held_take (i := 6) (v := .int .i64 f) (some 49) rfl rfl (by kernel_rfl) (by kernel_rfl) (by kernel_rfl) (fun _ _ _ h => h) (yieldsIf_move (by kernel_rfl) rfl (by kernel_rfl)) S0' ?_
          refine held_take (i := 7) (v := .int .i64 x) (some 50) rfl rfl (by kernel_rfl) (by kernel_rfl) (by kernel_rfl) (fun _ _ _ h => h) (yieldsIf_move (by kernel_rfl) rfl (by kernel_rfl)) S0' ?_
          refine held_take (i := 8) (v := .int .i64 (f * x)) (some 51) rfl rfl (by kernel_rfl) (by kernel_rfl) (by kernel_rfl) (fun _ _ _ h => h) (yieldsIf_bin (by kernel_rfl) rfl (by kernel_rfl) (by kernel_rfl) (fun _ => rfl) (hmulA (IntWalk.i64_in _ (by omega)))) S0' ?_
          refine held_take (i := 9) (v := .int .i64 y) (some 52) rfl rfl (by kernel_rfl) (by kernel_rfl) (by kernel_rfl) (fun _ _ _ h => h) (yieldsIf_move (by kernel_rfl) rfl (by kernel_rfl)) S0' ?_
          refine held_take (i := 10) (v := .int .i64 (f * x * y)) (some 53) rfl rfl (by kernel_rfl) (by kernel_rfl) (by kernel_rfl) (fun _ _ _ h => h) (yieldsIf_bin (by kernel_rfl) rfl (by kernel_rfl) (by kernel_rfl) (fun _ => rfl) (hmulA (IntWalk.i64_in _ (by omega)))) S0' ?_
          refine held_take (i := 11) (v := .int .i64 (z + f * x * y)) (some 54) rfl rfl (by kernel_rfl) (by kernel_rfl) (by kernel_rfl) (fun _ _ _ h => h) (yieldsIf_bin (by kernel_rfl) rfl (by kernel_rfl) (by kernel_rfl) (fun _ => rfl) (haddA (IntWalk.i64_in _ (by omega)))) S0' ?_
          refine held_take (i := 12) (v := .pointer (some ⟨w.heap.size, 0, none⟩)) (some 55) rfl rfl (by kernel_rfl) (by kernel_rfl) (by kernel_rfl) (fun _ _ _ h => h) (yieldsIf_run (by kernel_rfl) (fun W _ => by kernel_rfl)) S0' ?_
          refine held_take (i := 13) (v := .pointer (some ⟨w.heap.size, 0, none⟩)) (some 56) rfl rfl (by kernel_rfl) (by kernel_rfl) (by kernel_rfl) (fun _ _ _ h => h) (yieldsIf_run (by kernel_rfl) (fun W _ => by kernel_rfl)) S0' ?_
          refine held_take (i := 14) (v := .int .i64 p) (some 57) rfl rfl (by kernel_rfl) (by kernel_rfl) (by kernel_rfl) (fun _ _ _ h => h) (yieldsIf_cell (by kernel_rfl) rfl (by kernel_rfl) (fun W h => hload W (A0.out _ h.out.1))) S0' ?_
          refine held_take (i := 15) (v := .int .i64 ((z + f * x * y) % p)) (some 58) rfl rfl (by kernel_rfl) (by kernel_rfl) (by kernel_rfl) (fun _ _ _ h => h) (yieldsIf_bin (by kernel_rfl) rfl (by kernel_rfl) (by kernel_rfl) (fun _ => rfl) (hremI (by omega) (by omega) (by omega))) S0' ?_
          refine held_take (i := 16) (v := .pointer (some ⟨g, 0 + pl, none⟩)) (some 59) rfl rfl (by kernel_rfl) (by kernel_rfl) (by kernel_rfl) (fun _ _ _ h => h) (yieldsIf_index (by kernel_rfl) rfl (by kernel_rfl) (by kernel_rfl) (hidxI g 0 N hpn)) S0' ?_
          refine held_none (i := 17) (v := .bool false) rfl rfl (by kernel_rfl) (by kernel_rfl) (by kernel_rfl) (fun _ _ _ h => h) (yieldsIf_move (by kernel_rfl) rfl (by kernel_rfl)) S0' ?_
          have hac2 : wy.drew.cell? ⟨g, 0 + pl, none⟩ = some (.int .i64 z) := HACC.out _ S0'.out.2
          have hfz2 : wy.drew.frozen? ⟨g, 0 + pl, none⟩ = false := S0'.out.2.frozen _
          have hBN := S0'.out.1.trans (But.set wy.drew (0 + pl) (.int .i64 ((z + f * x * y) % p)) (b := g))
          have HRN := Lib.hid (HST2.out _ S0'.out.2)
          refine wpAnyH_done (by kernel_rfl) (lastQ_storeI rfl (by kernel_rfl) (by kernel_rfl) (.tmp 59) (.tmp 58) (by kernel_rfl) g (0 + pl) ((z + f * x * y) % p) _ (by kernel_rfl) (by kernel_rfl) hac2 hfz2 ?_) _
          simp only [Act.put, List.setIfInBounds_toArray, List.set_cons_zero, List.set_cons_succ]
          obtain ⟨WN, hWN⟩ : ∃ WN, WN = wy.drew.setCell ⟨g, 0 + pl, none⟩ (.int .i64 ((z + f * x * y) % p)) := ⟨_, rfl⟩
          rw [← hWN] at hBN HRN ⊢
          have HBN := Lib.hid hBN
          clear hBN S0' hWN hac2 hfz2
          go_wp2
          go_roundw
          case rel => exact ⟨b + 1, by omega, by go_num, HBN, HRN⟩
          case measure => simp [intOf]; omega
        · have hbi : ¬ (b : Int) < (vs.length : Int) := by omega
          have hbe : b = vs.length := by omega
          have HR2 : Hid (wy.rowIs g 2 N (fun k => .int .i64 (adpZ p f S0 us vs Z (a + 1) 0 k))) := Lib.hid (HROW.out.congr (fun k _ => by rw [hbe, adpZ_next]))
          clear hbe
          go_wp2
          go_roundw
          case rel => exact ⟨a + 1, by omega, by go_num, HB, HR2⟩
          case measure => simp [intOf]; omega
    · have hai : ¬ (a : Int) < (us.length : Int) := by omega
      have hae : a = us.length := by omega
      have HBF : Hid (But g w wx) := Lib.hid (HBT.out.trans HB.out)
      have HRF : Hid (wx.rowIs g 2 N (fun k => .int .i64 (adpZ p f S0 us vs Z us.length 0 k))) := Lib.hid (by have := HROW.out; rwa [hae] at this)
      clear hae
      go_wp2
      refine bodyPost_ret (v := .tuple #[]) ?_ rfl ⟨rfl, HBF.out, HRF.out⟩
      simp only [results, HRES.out]
      go_simp
end Go.Proofs.Ythfcadgbipnemaa


namespace Go.Proofs.Ythfcadgbipnemaa
open Go.RowKit

/-- While a table is being made row by row: k rows are there. -/
structure Sc (w w' : World) (r c k : Nat) (Z : Nat → Nat → Int) : Prop where
  below : Below w.heap.size w w'
  size : w'.heap.size = w.heap.size + 1 + k
  top : w'.rowIs w.heap.size 22 r (fun j => if j < k then .slice (some ⟨w.heap.size + 1 + j, 0, none⟩) c c else .slice none 0 0)
  rows : ∀ j, j < k → w'.rowIs (w.heap.size + 1 + j) 2 c (fun i => .int .i64 (Z j i))
theorem Sc.start (w : World) (r c : Nat) (Z : Nat → Nat → Int) : Sc w (w.alloc (.cells (madeCells #[.slice none 0 0] r) 22)) r c 0 Z :=
  ⟨(Below.refl _ _).alloc (Nat.le_refl _) _, by simp, (World.rowIs_made w _ r _).congr (fun j _ => by simp), fun j hj => absurd hj (Nat.not_lt_zero _)⟩
theorem Sc.congr {w w' : World} {r c k : Nat} {Z Z' : Nat → Nat → Int} (h : Sc w w' r c k Z) (e : ∀ j, j < k → ∀ i, i < c → Z j i = Z' j i) : Sc w w' r c k Z' :=
  ⟨h.below, h.size, h.top, fun j hj => (h.rows j hj).congr (fun i hi => by rw [e j hj i hi])⟩
theorem Sc.drew {w w' : World} {r c k : Nat} {Z : Nat → Nat → Int} (h : Sc w w' r c k Z) : Sc w w'.drew r c k Z := ⟨h.below.drew, h.size, h.top.drew, fun j hj => (h.rows j hj).drew⟩
theorem Sc.step {w w' : World} {r c k : Nat} {Z : Nat → Nat → Int} (h : Sc w w' r c k Z) : Sc w ((w'.alloc (.cells (madeCells #[.int .i64 0] c) 2)).setCell ⟨w.heap.size, k, none⟩ (.slice (some ⟨w'.heap.size, 0, none⟩) c c)) r c (k + 1) (fun j i => if j < k then Z j i else 0) := by
  have hnew := World.rowIs_made w' (.int .i64 0) c 2
  have hs := h.size
  refine ⟨(h.below.alloc (by omega) _).setCell (Nat.le_refl _) _, by simp [h.size]; omega, ((h.top.alloc _).set k _).congr (fun j _ => ?_), fun j hj => ?_⟩
  · by_cases e : j = k
    · subst e
      rw [if_pos rfl, if_pos (Nat.lt_succ_self _), hs]
    · rw [if_neg e]
      by_cases h2 : j < k
      · rw [if_pos h2, if_pos (by omega)]
      · rw [if_neg h2, if_neg (by omega)]
  · by_cases e : j = k
    · subst e
      rw [← hs]
      exact (hnew.setOther (by show w'.heap.size ≠ w.heap.size; omega) _).congr (fun i _ => by simp)
    · exact (((h.rows j (by omega)).alloc _).setOther (by show w.heap.size + 1 + j ≠ w.heap.size; omega) _).congr (fun i _ => by rw [if_pos (show j < k by omega)])
theorem Sc.put {w w' : World} {r c k : Nat} {Z : Nat → Nat → Int} (h : Sc w w' r c k Z) {j i : Nat} (hj : j < k) (x : Int) :
    Sc w (w'.setCell ⟨w.heap.size + 1 + j, i, none⟩ (.int .i64 x)) r c k (fun j2 i2 => if j2 = j ∧ i2 = i then x else Z j2 i2) := by
  refine ⟨h.below.setCell (by show w.heap.size ≤ w.heap.size + 1 + j; omega) _, by simp [h.size], h.top.setOther (by show w.heap.size ≠ w.heap.size + 1 + j; omega) _, fun j2 hj2 => ?_⟩
  by_cases e : j2 = j
  · subst e
    exact ((h.rows j2 hj2).set i _).congr (fun i2 _ => by by_cases e2 : i2 = i <;> simp [e2])
  · exact ((h.rows j2 hj2).setOther (by show w.heap.size + 1 + j2 ≠ w.heap.size + 1 + j; omega) _).congr (fun i2 _ => by simp [e])
theorem Sc.done {w w' : World} {r c : Nat} {Z : Nat → Nat → Int} (h : Sc w w' r c r Z) : Mat w w' r c Z :=
  ⟨h.below, h.size, h.top.congr (fun j hj => by rw [if_pos hj]), h.rows⟩

theorem signNumber_any (p k : Int) (w : World) (hp0 : 0 ≤ p) (hp1 : p ≤ 1048576) (hk : 0 ≤ k ∧ k ≤ 1048576) : Calls Try.prog 145 #[.int .i64 p, .int .i64 k] w (QW (.int .i64 (if k % 2 = 0 then 1 else p - 1)) w) := by
  have h1 : k.tmod 2 = k % 2 := Int.tmod_eq_emod_of_nonneg hk.1
  have h2 : IntKind.i64.wrap (p - 1) = p - 1 := IntWalk.i64_in _ (by omega)
  have h3 : IntKind.i64.wrap (k % 2) = k % 2 := IntWalk.i64_in _ (by omega)
  by_cases h0 : k % 2 = 0
  · have h4 : (k % 2 == 0) = true := by simp [h0]
    go_enter Try.func145, Try.ntmps145
    go_wp2
    go_ret
    exact ⟨rfl, rfl⟩
  · have h4 : (k % 2 == 0) = false := by simp [h0]
    go_enter Try.func145, Try.ntmps145
    go_wp2
    go_ret
    exact ⟨rfl, rfl⟩
end Go.Proofs.Ythfcadgbipnemaa


namespace Go.Proofs.Ythfcadgbipnemaa
open Go.RowKit

theorem idxOf_blocks {α : Type} [BEq α] [LawfulBEq α] (F : Nat → List α) {x : α} {i : Nat} (hx : x ∈ F i) (hno : ∀ k, k < i → x ∉ F k) : ∀ n, i < n → ((List.range n).flatMap F).idxOf x = ((List.range i).flatMap F).length + (F i).idxOf x := by
  intro n
  induction n with
  | zero => intro h; exact absurd h (Nat.not_lt_zero _)
  | succ n ih =>
    intro h
    rw [List.range_succ, List.flatMap_append, List.idxOf_append]
    by_cases e : i < n
    · rw [if_pos (List.mem_flatMap.2 ⟨i, List.mem_range.2 e, hx⟩)]
      exact ih e
    · have e2 : i = n := by omega
      subst e2
      rw [if_neg]
      · simp; omega
      · intro hm
        obtain ⟨k, hk, hk2⟩ := List.mem_flatMap.1 hm
        exact hno k (List.mem_range.1 hk) hk2
theorem bsL_iff {ds : List Int} {n : Nat} {i a : Int} : (i, a) ∈ bsL ds n ↔ 0 ≤ i ∧ i < (n : Int) ∧ 0 ≤ a ∧ a < ((ds.getD i.toNat 0).toNat : Int) := by
  constructor
  · intro h
    obtain ⟨k, c, e, hk, hc⟩ := bsL_mem h
    injection e with e1 e2
    subst e1 e2
    rw [Int.toNat_natCast]
    omega
  · intro h
    unfold bsL
    refine List.mem_flatMap.2 ⟨i.toNat, List.mem_range.2 (by omega), List.mem_map.2 ⟨a.toNat, List.mem_range.2 (by omega), ?_⟩⟩
    rw [Int.toNat_of_nonneg h.1, Int.toNat_of_nonneg h.2.2.1]
theorem tsA_full (X Y : List (Int × Int)) : tsA X Y X.length = X.flatMap fun u => Y.map fun v => (u, v) := by
  unfold tsA
  rw [List.take_length]
theorem tsA_mem {X Y : List (Int × Int)} {q : PV} : q ∈ tsA X Y X.length ↔ q.1 ∈ X ∧ q.2 ∈ Y := by
  rw [tsA_full]
  constructor
  · intro h
    obtain ⟨u, hu, hq⟩ := List.mem_flatMap.1 h
    obtain ⟨v, hv, rfl⟩ := List.mem_map.1 hq
    exact ⟨hu, hv⟩
  · intro h
    exact List.mem_flatMap.2 ⟨q.1, h.1, List.mem_map.2 ⟨q.2, h.2, rfl⟩⟩
/-- The basis vectors of one degree. -/
theorem bsL_filter (ds : List Int) (d : Int) (n : Nat) : (bsL ds n).filter (fun v => v.1 == d) = if 0 ≤ d ∧ d < (n : Int) then (List.range (ds.getD d.toNat 0).toNat).map (fun (c : Nat) => (d, (c : Int))) else [] := by
  induction n with
  | zero => simp [bsL]; omega
  | succ n ih =>
    rw [bsL_succ, List.filter_append, ih]
    by_cases e : d = (n : Int)
    · subst e
      rw [if_neg (by omega), if_pos (by omega), List.nil_append, Int.toNat_natCast]
      rw [List.filter_eq_self.2]
      intro v hv
      obtain ⟨c, _, rfl⟩ := List.mem_map.1 hv
      simp
    · have e2 : ((List.range (ds.getD n 0).toNat).map (fun (a : Nat) => ((n : Int), (a : Int)))).filter (fun v => v.1 == d) = [] := by
        rw [List.filter_eq_nil_iff]
        intro v hv
        obtain ⟨c, _, rfl⟩ := List.mem_map.1 hv
        simp
        omega
      rw [e2, List.append_nil]
      by_cases e3 : 0 ≤ d ∧ d < (n : Int)
      · rw [if_pos e3, if_pos (by omega)]
      · rw [if_neg e3, if_neg (by omega)]
theorem prF_tsA (X Y : List (Int × Int)) (n : Int) : prF (tsA X Y X.length) n = X.flatMap fun u => (Y.filter (fun v => v.1 == n - u.1)).map fun v => (u, v) := by
  rw [tsA_full]
  unfold prF
  rw [List.filter_flatMap]
  congr 1
  funext u
  rw [List.filter_map]
  congr 1
  refine List.filter_congr fun v _ => ?_
  show (u.1 + v.1 == n) = (v.1 == n - u.1)
  by_cases h : v.1 = n - u.1
  · rw [beq_iff_eq.2 h, beq_iff_eq.2 (by omega)]
  · rw [beq_eq_false_iff_ne.2 h, beq_eq_false_iff_ne.2 (by omega)]
/-- The pairs of the degree n with the first basis vector u, told by dimensions. -/
def blk (ds2 : List Int) (n : Int) (u : Int × Int) : List PV := (List.range (dimZ ds2 (n - u.1)).toNat).map fun (c : Nat) => (u, (n - u.1, (c : Int)))
def blkD (ds ds2 : List Int) (n : Int) (k : Nat) : List PV := (List.range (ds.getD k 0).toNat).flatMap fun (a : Nat) => blk ds2 n ((k : Int), (a : Int))
theorem prF_blk (ds ds2 : List Int) (n : Int) : prF (tsA (bsL ds ds.length) (bsL ds2 ds2.length) (bsL ds ds.length).length) n = (List.range ds.length).flatMap (blkD ds ds2 n) := by
  rw [prF_tsA]
  have e : (fun u : Int × Int => ((bsL ds2 ds2.length).filter (fun v => v.1 == n - u.1)).map fun v => (u, v)) = blk ds2 n := by
    funext u
    rw [bsL_filter]
    unfold blk
    by_cases h : 0 ≤ n - u.1 ∧ n - u.1 < (ds2.length : Int)
    · rw [if_pos h, List.map_map]
      have hd : dimZ ds2 (n - u.1) = ds2.getD (n - u.1).toNat 0 := by
        unfold dimZ
        rw [if_pos ⟨h.1, by omega⟩]
      rw [hd]
      rfl
    · rw [if_neg h]
      have hd : dimZ ds2 (n - u.1) = 0 := by
        unfold dimZ
        rw [if_neg (by omega)]
      rw [hd]
      rfl
  rw [e]
  unfold bsL blkD
  rw [List.flatMap_assoc]
  congr 1
  funext k
  rw [List.flatMap_map]
theorem blk_length (ds2 : List Int) (n : Int) (u : Int × Int) : (blk ds2 n u).length = (dimZ ds2 (n - u.1)).toNat := by simp [blk]
theorem flat_const {α : Type} (F : Nat → List α) (c : Nat) (h : ∀ k, (F k).length = c) (n : Nat) : ((List.range n).flatMap F).length = n * c := by
  induction n with
  | zero => simp
  | succ n ih => rw [List.range_succ, List.flatMap_append, List.length_append, ih, List.flatMap_cons, List.flatMap_nil, List.append_nil, h n, Nat.succ_mul]
theorem blkD_length (ds ds2 : List Int) (n : Int) (k : Nat) : (blkD ds ds2 n k).length = (ds.getD k 0).toNat * (dimZ ds2 (n - (k : Int))).toNat :=
  flat_const (fun (a : Nat) => blk ds2 n ((k : Int), (a : Int))) _ (fun a => blk_length ds2 n ((k : Int), (a : Int))) _
/-- The pairs of the degree n with a smaller first degree than i. -/
def plS (ds ds2 : List Int) (n : Int) : Nat → Nat
  | 0 => 0
  | k + 1 => plS ds ds2 n k + (ds.getD k 0).toNat * (dimZ ds2 (n - (k : Int))).toNat
theorem plS_flat (ds ds2 : List Int) (n : Int) (i : Nat) : ((List.range i).flatMap (blkD ds ds2 n)).length = plS ds ds2 n i := by
  induction i with
  | zero => simp [plS]
  | succ i ih => rw [List.range_succ, List.flatMap_append, List.length_append, ih, List.flatMap_cons, List.flatMap_nil, List.append_nil, blkD_length, plS]
theorem blk_mem {ds2 : List Int} {n : Int} {u : Int × Int} {q : PV} (h : q ∈ blk ds2 n u) : q.1 = u := by
  obtain ⟨c, _, rfl⟩ := List.mem_map.1 h
  rfl
theorem blkD_mem {ds ds2 : List Int} {n : Int} {k : Nat} {q : PV} (h : q ∈ blkD ds ds2 n k) : q.1.1 = (k : Int) := by
  obtain ⟨a, _, hq⟩ := List.mem_flatMap.1 h
  rw [blk_mem hq]
theorem plc_at {ds ds2 : List Int} {i a j b : Nat} (hi : i < ds.length) (ha : a < (ds.getD i 0).toNat) (hb : b < (dimZ ds2 (j : Int)).toNat) :
    plc (tsA (bsL ds ds.length) (bsL ds2 ds2.length) (bsL ds ds.length).length) (((i : Int), (a : Int)), ((j : Int), (b : Int))) = plS ds ds2 ((i : Int) + (j : Int)) i + (a * (dimZ ds2 (j : Int)).toNat + b) := by
  have ej : (i : Int) + (j : Int) - (i : Int) = (j : Int) := by omega
  have m1 : (((i : Int), (a : Int)), ((j : Int), (b : Int))) ∈ blk ds2 ((i : Int) + (j : Int)) ((i : Int), (a : Int)) := by
    unfold blk
    simp only [ej]
    exact List.mem_map.2 ⟨b, List.mem_range.2 hb, rfl⟩
  have m2 : (((i : Int), (a : Int)), ((j : Int), (b : Int))) ∈ blkD ds ds2 ((i : Int) + (j : Int)) i := List.mem_flatMap.2 ⟨a, List.mem_range.2 ha, m1⟩
  unfold plc
  rw [show dg (((i : Int), (a : Int)), ((j : Int), (b : Int))) = (i : Int) + (j : Int) from rfl, prF_blk]
  rw [idxOf_blocks (blkD ds ds2 ((i : Int) + (j : Int))) m2 (fun k hk hm => by have := blkD_mem hm; simp only at this; omega) _ hi, plS_flat]
  congr 1
  unfold blkD
  rw [idxOf_blocks (fun (a : Nat) => blk ds2 ((i : Int) + (j : Int)) ((i : Int), (a : Int))) m1 (fun k hk hm => by have := blk_mem hm; injection this with _ e; omega) _ ha]
  rw [flat_const _ (dimZ ds2 (j : Int)).toNat (fun k => by rw [blk_length]; simp only [ej]) a]
  congr 1
  unfold blk
  simp only [ej]
  have e3 : ∀ n, b < n → ((List.range n).map fun (c : Nat) => ((((i : Int), (a : Int)), ((j : Int), (c : Int))) : PV)).idxOf (((i : Int), (a : Int)), ((j : Int), (b : Int))) = b := by
    intro n hn
    have hm : (List.range n).map (fun (c : Nat) => ((((i : Int), (a : Int)), ((j : Int), (c : Int))) : PV)) = (List.range n).flatMap (fun (c : Nat) => [((((i : Int), (a : Int)), ((j : Int), (c : Int))) : PV)]) := by
      rw [List.map_eq_flatMap]
    rw [hm, idxOf_blocks (fun (c : Nat) => [((((i : Int), (a : Int)), ((j : Int), (c : Int))) : PV)]) (i := b) (by simp) (fun k hk hm2 => by simp at hm2; omega) n hn, flat_const _ 1 (fun _ => rfl)]
    simp
  exact e3 _ hb
end Go.Proofs.Ythfcadgbipnemaa


namespace Go.Proofs.Ythfcadgbipnemaa
open Go.RowKit

theorem plS_bd {p p2 : Int} {ds : List Int} {ms : List (List (List Int))} {ds2 : List Int} {ms2 : List (List (List Int))} (h : IsCx p ds ms) (h2 : IsCx p2 ds2 ms2) (n : Int) (k : Nat) : plS ds ds2 n k ≤ 64 * k := by
  induction k with
  | zero => simp [plS]
  | succ k ih =>
    rw [plS]
    have h1 := h.1.dim k
    have h3 := dimZ_b h2 (n - (k : Int))
    have : (ds.getD k 0).toNat * (dimZ ds2 (n - (k : Int))).toNat ≤ 8 * 8 := Nat.mul_le_mul (by omega) (by omega)
    omega

set_option maxHeartbeats 3200000 in
set_option maxRecDepth 100000 in
theorem l06Place_any (p p2 : Int) (i a j b : Nat) (dv mv dv2 mv2 : Value) (ds : List Int) (ms : List (List (List Int))) (ds2 : List Int) (ms2 : List (List (List Int))) (w : World) (h : Cx 0 w dv mv ds ms) (h2 : Cx 0 w dv2 mv2 ds2 ms2) (hcx : IsCx p ds ms) (hcy : IsCx p2 ds2 ms2) (hi : i < ds.length) (ha : a ≤ 8) (hj : j ≤ 8) (hb : b ≤ 8) :
    Calls Try.prog 185 #[.agg #[.int .i64 p, dv, mv], .agg #[.int .i64 p2, dv2, mv2], .int .i64 (i : Int), .int .i64 (a : Int), .int .i64 (j : Int), .int .i64 (b : Int)] w (BR (.int .i64 ((plS ds ds2 ((i : Int) + (j : Int)) i + (a * (dimZ ds2 (j : Int)).toNat + b) : Nat) : Int)) w) := by
  obtain ⟨ad, cap, rfl⟩ := Sl.shape h.dims
  obtain ⟨am, capm, rfl⟩ := Sl.shape h.maps
  obtain ⟨ad2, cap2, rfl⟩ := Sl.shape h2.dims
  obtain ⟨am2, capm2, rfl⟩ := Sl.shape h2.maps
  obtain ⟨k1, k2⟩ := bx_two (p := p) (p2 := p2) 30 h h2
  have HX0 := Lib.hid k1
  have HY0 := Lib.hid k2
  obtain ⟨w1, hw1⟩ : ∃ w1, w1 = ((w.alloc (.cells #[.int .i64 p, .slice ad ds.length cap, .slice am ms.length capm] 30)).alloc (.cells #[.int .i64 p2, .slice ad2 ds2.length cap2, .slice am2 ms2.length capm2] 30)) := ⟨_, rfl⟩
  rw [← hw1] at HX0 HY0
  have HN : Hid (∀ W, Below w1.heap.size w1 W → Bx w W w.heap.size p (.slice ad ds.length cap) (.slice am ms.length capm) ds ms ∧ Bx w W (w.heap.size + 1) p2 (.slice ad2 ds2.length cap2) (.slice am2 ms2.length capm2) ds2 ms2) := Lib.hid (fun W hb => ⟨HX0.out.next hb, HY0.out.next hb⟩)
  have HCX := Lib.hid hcx
  have HCY := Lib.hid hcy
  have hl6 := hcx.1.len1
  have hl7 := hcy.1.len1
  clear h h2 k1 k2 hcx hcy
  go_enter Try.func185, Try.ntmps185
  go_upto_region 1 with fail
  rw [← hw1]
  clear hw1
  go_wp2
  go_loopw [13, 14] (fun s i0 wr => ∃ (k : Nat), k ≤ i ∧ i0 = .int .i64 k ∧ s = .int .i64 (plS ds ds2 ((i : Int) + (j : Int)) k : Nat) ∧ Hid (Below w1.heap.size w1 wr)) (fun _ i0 _ => i - (intOf i0).toNat)
  case atStart => exact ⟨0, Nat.zero_le _, rfl, rfl, Lib.hid (Below.refl _ _)⟩
  case round =>
    obtain ⟨k, hk, rfl, rfl, HB⟩ := hrel
    obtain ⟨wx, hwx⟩ : ∃ wx : World, wx = wr := ⟨_, rfl⟩
    subst hwx
    have hbd := plS_bd HCX.out HCY.out ((i : Int) + (j : Int)) k
    by_cases hlt : k < i
    · obtain ⟨s, hs⟩ : ∃ s, s = plS ds ds2 ((i : Int) + (j : Int)) k := ⟨_, rfl⟩
      rw [← hs] at hbd
      have HS := Lib.hid hs
      obtain ⟨x, hx⟩ : ∃ x, x = (ds.getD k 0).toNat := ⟨_, rfl⟩
      obtain ⟨y, hy⟩ : ∃ y, y = (dimZ ds2 ((i : Int) + (j : Int) - (k : Int))).toNat := ⟨_, rfl⟩
      have hd1 := HCX.out.1.dim k
      have hd2 := dimZ_b HCY.out ((i : Int) + (j : Int) - (k : Int))
      have HDX : Hid (dimZ ds (k : Int) = (x : Int)) := Lib.hid (by unfold dimZ; rw [if_pos ⟨by omega, by omega⟩, Int.toNat_natCast]; omega)
      have HDY : Hid (dimZ ds2 ((i : Int) + (j : Int) - (k : Int)) = (y : Int)) := Lib.hid (by omega)
      have hx8 : x ≤ 8 := by omega
      have hy8 : y ≤ 8 := by omega
      have hxy : x * y ≤ 64 := Nat.le_trans (Nat.mul_le_mul hx8 hy8) (by omega)
      have hm : (x : Int) * (y : Int) = ((x * y : Nat) : Int) := by simp
      have HSN : Hid (s + x * y = plS ds ds2 ((i : Int) + (j : Int)) (k + 1)) := Lib.hid (by rw [plS, hs, hx, hy])
      have HM := Lib.hid hm
      clear hs hx hy hd1 hd2 hm
      rw [← HS.out]
      go_upto_region 5 with fail
      refine wp_region_held (S := fun W => Below w1.heap.size w1 W) (by kernel_rfl) ?_
      have S0 : Below w1.heap.size w1 wx.drew := HB.out.drew
      refine held_take (i := 0) (v := .int .i64 (s : Int)) (some 20) rfl rfl (by kernel_rfl) (by kernel_rfl) (by kernel_rfl) (fun _ _ _ h => h) (yieldsIf_move (by kernel_rfl) rfl (by kernel_rfl)) S0 ?_
      refine held_take (i := 1) (v := .agg #[.int .i64 p, .slice ad ds.length cap, .slice am ms.length capm]) (some 21) rfl rfl (by kernel_rfl) (by kernel_rfl) (by kernel_rfl) (fun _ _ _ h => h) (yieldsIf_cell (by kernel_rfl) rfl (by kernel_rfl) (fun W h => hload3x (HN.out W h).1)) S0 ?_
      refine held_take (i := 2) (v := .int .i64 (k : Int)) (some 22) rfl rfl (by kernel_rfl) (by kernel_rfl) (by kernel_rfl) (fun _ _ _ h => h) (yieldsIf_move (by kernel_rfl) rfl (by kernel_rfl)) S0 ?_
      refine held_take (i := 4) (v := .agg #[.int .i64 p2, .slice ad2 ds2.length cap2, .slice am2 ms2.length capm2]) (some 24) rfl rfl (by kernel_rfl) (by kernel_rfl) (by kernel_rfl) (fun _ _ _ h => h) (yieldsIf_cell (by kernel_rfl) rfl (by kernel_rfl) (fun W h => hload3x (HN.out W h).2)) S0 ?_
      refine held_take (i := 5) (v := .int .i64 (i : Int)) (some 25) rfl rfl (by kernel_rfl) (by kernel_rfl) (by kernel_rfl) (fun _ _ _ h => h) (yieldsIf_move (by kernel_rfl) rfl (by kernel_rfl)) S0 ?_
      refine held_take (i := 6) (v := .int .i64 (j : Int)) (some 26) rfl rfl (by kernel_rfl) (by kernel_rfl) (by kernel_rfl) (fun _ _ _ h => h) (yieldsIf_move (by kernel_rfl) rfl (by kernel_rfl)) S0 ?_
      refine held_take (i := 7) (v := .int .i64 ((i : Int) + (j : Int))) (some 27) rfl rfl (by kernel_rfl) (by kernel_rfl) (by kernel_rfl) (fun _ _ _ h => h) (yieldsIf_bin (by kernel_rfl) rfl (by kernel_rfl) (by kernel_rfl) (fun _ => rfl) (haddA (IntWalk.i64_in _ (by omega)))) S0 ?_
      refine held_take (i := 8) (v := .int .i64 (k : Int)) (some 28) rfl rfl (by kernel_rfl) (by kernel_rfl) (by kernel_rfl) (fun _ _ _ h => h) (yieldsIf_move (by kernel_rfl) rfl (by kernel_rfl)) S0 ?_
      refine held_take (i := 9) (v := .int .i64 ((i : Int) + (j : Int) - (k : Int))) (some 29) rfl rfl (by kernel_rfl) (by kernel_rfl) (by kernel_rfl) (fun _ _ _ h => h) (yieldsIf_bin (by kernel_rfl) rfl (by kernel_rfl) (by kernel_rfl) (fun _ => rfl) (hsubA (IntWalk.i64_in _ (by omega)))) S0 ?_
      refine held_enter (i := 3) (some 23) (f := 135) (args := #[.agg #[.int .i64 p, .slice ad ds.length cap, .slice am ms.length capm], .int .i64 (k : Int)]) (by kernel_rfl) rfl rfl rfl (by kernel_rfl) (l01Dim_any p (k : Int) _ _ ds ms _ (HN.out _ S0).1.cx (by omega)) ?_ (fun c w' h => by cases h.1) (fun w' h => by cases h.1)
      rintro e1 W1 ⟨he1, hb1⟩
      injection he1 with he1
      subst he1
      have S1 : Below w1.heap.size w1 W1 := S0.trans (hb1.mono S0.size)
      refine ⟨S1, ?_⟩
      refine held_enter (i := 10) (some 30) (f := 135) (args := #[.agg #[.int .i64 p2, .slice ad2 ds2.length cap2, .slice am2 ms2.length capm2], .int .i64 ((i : Int) + (j : Int) - (k : Int))]) (by kernel_rfl) rfl rfl rfl (by kernel_rfl) (l01Dim_any p2 ((i : Int) + (j : Int) - (k : Int)) _ _ ds2 ms2 _ (HN.out _ S1).2.cx (by omega)) ?_ (fun c w' h => by cases h.1) (fun w' h => by cases h.1)
      rintro e2 W2 ⟨he2, hb2⟩
      injection he2 with he2
      subst he2
      have S2 : Below w1.heap.size w1 W2 := S1.trans (hb2.mono S1.size)
      refine ⟨S2, ?_⟩
      rw [HDX.out, HDY.out]
      refine held_take (i := 11) (v := .int .i64 ((x * y : Nat) : Int)) (some 31) rfl rfl (by kernel_rfl) (by kernel_rfl) (by kernel_rfl) (fun _ _ _ h => h) (yieldsIf_bin (by kernel_rfl) rfl (by kernel_rfl) (by kernel_rfl) (fun _ => rfl) (hmulA (by rw [HM.out]; exact IntWalk.i64_in _ (by omega)))) S2 ?_
      refine held_take (i := 12) (v := .int .i64 ((s + x * y : Nat) : Int)) (some 32) rfl rfl (by kernel_rfl) (by kernel_rfl) (by kernel_rfl) (fun _ _ _ h => h) (yieldsIf_bin (by kernel_rfl) rfl (by kernel_rfl) (by kernel_rfl) (fun _ => rfl) (haddA (by rw [show (s : Int) + ((x * y : Nat) : Int) = ((s + x * y : Nat) : Int) by simp]; exact IntWalk.i64_in _ (by omega)))) S2 ?_
      refine held_take (i := 13) (v := .int .i64 ((s + x * y : Nat) : Int)) (some 13) rfl rfl (by kernel_rfl) (by kernel_rfl) (by kernel_rfl) (fun _ _ _ h => h) (yieldsIf_assign (by kernel_rfl) rfl (by kernel_rfl)) S2 ?_
      refine wpAnyH_done (by kernel_rfl) ?_ _
      simp only [Act.put, List.setIfInBounds_toArray, List.set_cons_zero, List.set_cons_succ]
      have HB2 := Lib.hid S2
      clear S0 S1 S2 hb1 hb2
      rw [HSN.out]
      go_wp2
      go_roundw
      case rel => first | exact ⟨k + 1, by omega, by go_num, rfl, HB2⟩ | exact ⟨k + 1, ⟨by omega, by go_num, HB2⟩, rfl⟩ | ((repeat apply Exists.intro); exact ⟨⟨k + 1, by omega, by go_num, rfl, HB2⟩, rfl⟩)
      case measure => simp [intOf]; omega
    · have HKI : Hid (k = i) := Lib.hid (by omega)
      have hXX := HN.out _ HB.out
      have HXX := Lib.hid hXX
      have c0 := hXX.2.c0
      have c1 := hXX.2.c1
      have c2 := hXX.2.c2
      have hd2 := dimZ_b HCY.out (j : Int)
      obtain ⟨y, hy⟩ : ∃ y, y = (dimZ ds2 (j : Int)).toNat := ⟨_, rfl⟩
      have HDY : Hid (dimZ ds2 (j : Int) = (y : Int)) := Lib.hid (by omega)
      have HYE := Lib.hid hy
      have hy8 : y ≤ 8 := by omega
      obtain ⟨s, hs⟩ : ∃ s, s = plS ds ds2 ((i : Int) + (j : Int)) k := ⟨_, rfl⟩
      rw [← hs] at hbd
      have HS := Lib.hid hs
      have hay : a * y ≤ 64 := Nat.le_trans (Nat.mul_le_mul ha hy8) (by omega)
      have hm1 : IntKind.i64.wrap ((a : Int) * (y : Int)) = ((a * y : Nat) : Int) := by rw [show (a : Int) * (y : Int) = ((a * y : Nat) : Int) by simp]; exact IntWalk.i64_in _ (by omega)
      have hm2 : IntKind.i64.wrap ((s : Int) + ((a * y : Nat) : Int)) = ((s + a * y : Nat) : Int) := by rw [show (s : Int) + ((a * y : Nat) : Int) = ((s + a * y : Nat) : Int) by simp]; exact IntWalk.i64_in _ (by omega)
      have hm3 : IntKind.i64.wrap (((s + a * y : Nat) : Int) + (b : Int)) = ((s + a * y + b : Nat) : Int) := by rw [show ((s + a * y : Nat) : Int) + (b : Int) = ((s + a * y + b : Nat) : Int) by simp]; exact IntWalk.i64_in _ (by omega)
      have HM1 := Lib.hid hm1
      have HM2 := Lib.hid hm2
      have HM3 := Lib.hid hm3
      rw [← HS.out]
      clear hs hy hd2 hXX hm1 hm2 hm3
      go_wp2_with fail
      refine (l01Dim_any p2 (j : Int) _ _ ds2 ms2 _ HXX.out.2.cx (by omega)).mono ?_
      rintro e4 w4 ⟨rfl, hb4⟩
      have HX4 := Lib.hid (HXX.out.1.next hb4)
      have hm1 := HM1.out
      have hm2 := HM2.out
      have hm3 := HM3.out
      rw [HDY.out]
      clear hb4 c0 c1 c2
      go_wp2
      go_ret
      refine ⟨ret_int ?_, HX4.out.below⟩
      rw [← HYE.out, ← HKI.out, HS.out, HKI.out]
      omega
end Go.Proofs.Ythfcadgbipnemaa


namespace Go.Proofs.Ythfcadgbipnemaa
open Go.RowKit

/-- What PlaceOfPair answers for the pair q. -/
structure PlO (p p2 : Int) (ds : List Int) (ms : List (List (List Int))) (ds2 : List Int) (ms2 : List (List (List Int))) (q : PV) (x c : Int) : Prop where
  good : prCode p p2 ds ms ds2 ms2 = 0 → q ∈ tsA (bsL ds ds.length) (bsL ds2 ds2.length) (bsL ds ds.length).length → x = (plc (tsA (bsL ds ds.length) (bsL ds2 ds2.length) (bsL ds ds.length).length) q : Int) ∧ c = 0
  range : prCode p p2 ds ms ds2 ms2 = 0 → q ∉ tsA (bsL ds ds.length) (bsL ds2 ds2.length) (bsL ds ds.length).length → x = 0 ∧ c = 2
  bad : prCode p p2 ds ms ds2 ms2 ≠ 0 → x = 0 ∧ c = prCode p p2 ds ms ds2 ms2
theorem PlO.unique {p p2 : Int} {ds : List Int} {ms : List (List (List Int))} {ds2 : List Int} {ms2 : List (List (List Int))} {q : PV} {x c y d : Int} (h : PlO p p2 ds ms ds2 ms2 q x c) (k : PlO p p2 ds ms ds2 ms2 q y d) : x = y ∧ c = d := by
  by_cases h0 : prCode p p2 ds ms ds2 ms2 = 0
  · by_cases hq : q ∈ tsA (bsL ds ds.length) (bsL ds2 ds2.length) (bsL ds ds.length).length
    · obtain ⟨a, b⟩ := h.good h0 hq
      obtain ⟨a', b'⟩ := k.good h0 hq
      exact ⟨a.trans a'.symm, b.trans b'.symm⟩
    · obtain ⟨a, b⟩ := h.range h0 hq
      obtain ⟨a', b'⟩ := k.range h0 hq
      exact ⟨a.trans a'.symm, b.trans b'.symm⟩
  · obtain ⟨a, b⟩ := h.bad h0
    obtain ⟨a', b'⟩ := k.bad h0
    exact ⟨a.trans a'.symm, b.trans b'.symm⟩

end Go.Proofs.Ythfcadgbipnemaa


namespace Go.Proofs.Ythfcadgbipnemaa
open Go.RowKit

theorem pl_mem {ds ds2 : List Int} {i a j b : Int} : (((i, a), (j, b)) : PV) ∈ tsA (bsL ds ds.length) (bsL ds2 ds2.length) (bsL ds ds.length).length ↔ (0 ≤ i ∧ i ≤ (ds.length : Int) - 1) ∧ (0 ≤ a ∧ a ≤ dimZ ds i - 1) ∧ (0 ≤ j ∧ j ≤ (ds2.length : Int) - 1) ∧ (0 ≤ b ∧ b ≤ dimZ ds2 j - 1) := by
  rw [tsA_mem]
  simp only [bsL_iff]
  have e1 : 0 ≤ i ∧ i < (ds.length : Int) → dimZ ds i = ds.getD i.toNat 0 := fun h => by unfold dimZ; rw [if_pos ⟨h.1, by omega⟩]
  have e2 : 0 ≤ j ∧ j < (ds2.length : Int) → dimZ ds2 j = ds2.getD j.toNat 0 := fun h => by unfold dimZ; rw [if_pos ⟨h.1, by omega⟩]
  constructor
  · rintro ⟨⟨h1, h2, h3, h4⟩, h5, h6, h7, h8⟩
    rw [e1 ⟨h1, h2⟩, e2 ⟨h5, h6⟩]
    omega
  · rintro ⟨⟨h1, h2⟩, ⟨h3, h4⟩, ⟨h5, h6⟩, h7, h8⟩
    rw [e1 ⟨h1, by omega⟩] at h4
    rw [e2 ⟨h5, by omega⟩] at h8
    omega

end Go.Proofs.Ythfcadgbipnemaa


namespace Go.Proofs.Ythfcadgbipnemaa
open Go.RowKit

def Fam3R (out : List (List (List Int))) (w : World) (e : Ending) (w' : World) : Prop := ∃ u, e = .returned u ∧ Rw3 w.heap.size w'.heap.size w' u out ∧ Below w.heap.size w w'
def Fam3D (n : Nat) (out : List (List (List Int))) (w : World) (e : Ending) (w' : World) : Prop := ∃ g, e = .returned (.slice (some ⟨g, 0, none⟩) n n) ∧ w.heap.size ≤ g ∧ Rw3 w.heap.size w'.heap.size w' (.slice (some ⟨g, 0, none⟩) n n) out ∧ Below w.heap.size w w'
theorem Fam3D.r {n : Nat} {out : List (List (List Int))} {w : World} {e : Ending} {w' : World} (h : Fam3D n out w e w') : Fam3R out w e w' := by
  obtain ⟨g, he, _, hr, hb⟩ := h
  exact ⟨_, he, hr, hb⟩
/-- Dimensions of at most six degrees, each at most 8. -/
structure DsOk (ds : List Int) : Prop where
  len1 : ds.length ≤ 6
  dims : ∀ d ∈ ds, 0 ≤ d ∧ d ≤ 8
theorem DsOk.dim {ds : List Int} (h : DsOk ds) (k : Nat) : 0 ≤ ds.getD k 0 ∧ ds.getD k 0 ≤ 8 := by
  by_cases e : k < ds.length
  · rw [getD_of_lt _ e]
    exact h.dims _ (List.getElem_mem e)
  · rw [List.getD_eq_getElem?_getD, List.getElem?_eq_none (by omega)]
    simp
theorem DsOk.dimZ {ds : List Int} (h : DsOk ds) (n : Int) : 0 ≤ dimZ ds n ∧ dimZ ds n ≤ 8 := by
  unfold Go.Proofs.Ythfcadgbipnemaa.dimZ
  by_cases hr : 0 ≤ n ∧ n ≤ (ds.length : Int) - 1
  · rw [if_pos hr]
    exact h.dim _
  · rw [if_neg hr]
    omega
end Go.Proofs.Ythfcadgbipnemaa


namespace Go.Proofs.Ythfcadgbipnemaa
open Go.RowKit

/-- The first k tables of m, in order, each in blocks of its own. -/
structure FamT (W : World) (G m k : Nat) (f : Nat → Value) (gs rs cs : Nat → Nat) (Z : Nat → Nat → Nat → Int) : Prop where
  row : W.rowIs G 27 m f
  val : ∀ j, j < k → f j = .slice (some ⟨gs j, 0, none⟩) (rs j) (rs j)
  lo : ∀ j, j < k → G < gs j
  inc : ∀ j, j + 1 < k → gs j + 1 + rs j ≤ gs (j + 1)
  tb : ∀ j, j < k → Tb W (gs j) (rs j) (cs j) (Z j)
theorem FamT.start {W : World} {G m : Nat} {f : Nat → Value} {gs rs cs : Nat → Nat} {Z : Nat → Nat → Nat → Int} (h : W.rowIs G 27 m f) : FamT W G m 0 f gs rs cs Z :=
  ⟨h, fun _ h => absurd h (Nat.not_lt_zero _), fun _ h => absurd h (Nat.not_lt_zero _), fun _ h => absurd h (Nat.not_lt_zero _), fun _ h => absurd h (Nat.not_lt_zero _)⟩
theorem FamT.below {W W' : World} {G m k : Nat} {f : Nat → Value} {gs rs cs : Nat → Nat} {Z : Nat → Nat → Nat → Int} (h : FamT W G m k f gs rs cs Z) (hb : Below W.heap.size W W') : FamT W' G m k f gs rs cs Z :=
  ⟨h.row.of_block (hb.block _ h.row.lt), h.val, h.lo, h.inc, fun j hj => (h.tb j hj).below hb⟩
theorem FamT.step {W w1 : World} {G m k r c : Nat} {f : Nat → Value} {gs rs cs : Nat → Nat} {Z : Nat → Nat → Nat → Int} (h : FamT W G m k f gs rs cs Z) (_hk : k < m) (hr : r = rs k) (hc : c = cs k) (hm : Mat W w1 r c (Z k)) :
    FamT (w1.setCell ⟨G, k, none⟩ (.slice (some ⟨W.heap.size, 0, none⟩) r r)) G m (k + 1) (fun j => if j = k then .slice (some ⟨W.heap.size, 0, none⟩) r r else f j) (fun j => if j = k then W.heap.size else gs j) rs cs Z := by
  subst hr hc
  have hlt := h.row.lt
  have hb := hm.below
  refine ⟨(h.row.of_block (hb.block _ hlt)).set k _, fun j hj => ?_, fun j hj => ?_, fun j hj => ?_, fun j hj => ?_⟩
  · by_cases e : j = k
    · subst e; simp
    · simp only [if_neg e]; exact h.val j (by omega)
  · by_cases e : j = k
    · simp only [if_pos e]; exact hlt
    · simp only [if_neg e]; exact h.lo j (by omega)
  · have hjk : ¬ j = k := by omega
    simp only [if_neg hjk]
    by_cases e : j + 1 = k
    · simp only [if_pos e]; exact (h.tb j (by omega)).lt
    · simp only [if_neg e]; exact h.inc j (by omega)
  · by_cases e : j = k
    · subst e
      simp only [if_true]
      exact hm.tb.out (Or.inl hlt) _
    · simp only [if_neg e]
      exact ((h.tb j (by omega)).below hb).out (Or.inl (h.lo j (by omega))) _
theorem FamT.ord {W : World} {G m k : Nat} {f : Nat → Value} {gs rs cs : Nat → Nat} {Z : Nat → Nat → Nat → Int} (h : FamT W G m k f gs rs cs Z) {i j : Nat} (hij : i < j) (hj : j < k) : gs i + 1 + rs i ≤ gs j := by
  induction j with
  | zero => exact absurd hij (Nat.not_lt_zero _)
  | succ j ih =>
    have h1 := h.inc j hj
    by_cases e : i = j
    · subst e; exact h1
    · have := ih (by omega) (by omega)
      omega
theorem FamT.congr {W : World} {G m k : Nat} {f : Nat → Value} {gs rs cs : Nat → Nat} {Z Z' : Nat → Nat → Nat → Int} (h : FamT W G m k f gs rs cs Z) (e : ∀ n, n < k → ∀ j, j < rs n → ∀ i, i < cs n → Z n j i = Z' n j i) : FamT W G m k f gs rs cs Z' :=
  ⟨h.row, h.val, h.lo, h.inc, fun j hj => (h.tb j hj).congr (e j hj)⟩
/-- One row is laid anew. -/
theorem FamT.put {W W' : World} {G m k : Nat} {f : Nat → Value} {gs rs cs : Nat → Nat} {Z : Nat → Nat → Nat → Int} (h : FamT W G m k f gs rs cs Z) {n i : Nat} (hn : n < k) (hi : i < rs n) {y : Nat → Int} (hb : But (gs n + 1 + i) W W') (hr : W'.rowIs (gs n + 1 + i) 2 (cs n) (fun q => .int .i64 (y q))) :
    FamT W' G m k f gs rs cs (fun n2 i2 q => if n2 = n ∧ i2 = i then y q else Z n2 i2 q) := by
  have hl := h.lo n hn
  refine ⟨h.row.of_block (hb.block _ h.row.lt (by omega)), h.val, h.lo, h.inc, fun j hj => ?_⟩
  have hT := h.tb j hj
  by_cases e : j = n
  · subst e
    refine ⟨hT.top.of_block (hb.block _ hT.top.lt (by omega)), fun i2 hi2 => ?_, Nat.le_trans hT.lt hb.size⟩
    by_cases e2 : i2 = i
    · subst e2
      exact hr.congr (fun q _ => by simp)
    · exact ((hT.rows i2 hi2).of_block (hb.block _ (hT.rows i2 hi2).lt (by omega))).congr (fun q _ => by simp [e2])
  · have hd : gs j + 1 + rs j ≤ gs n ∨ gs n + 1 + rs n ≤ gs j := by
      by_cases e3 : j < n
      · exact Or.inl (h.ord e3 hn)
      · exact Or.inr (h.ord (by omega) hj)
    refine ⟨hT.top.of_block (hb.block _ hT.top.lt (by omega)), fun i2 hi2 => ?_, Nat.le_trans hT.lt hb.size⟩
    exact ((hT.rows i2 hi2).of_block (hb.block _ (hT.rows i2 hi2).lt (by omega))).congr (fun q _ => by simp [e])
end Go.Proofs.Ythfcadgbipnemaa


namespace Go.Proofs.Ythfcadgbipnemaa
open Go.RowKit

section
variable {P : Program} {md : Region.Mode} {ops : Array Oper} {Q : Exit → Act → World → Prop} {S : World → Prop}
end
end Go.Proofs.Ythfcadgbipnemaa

namespace Go.Proofs.Ythfcadgbipnemaa
open Go.RowKit

section
variable {p p2 : Int} {ds : List Int} {ms : List (List (List Int))} {ds2 : List Int} {ms2 : List (List (List Int))} {i : Int} {us : List Int} {j : Int} {vs : List Int}
end
theorem plS_mono (ds ds2 : List Int) (n : Int) {k m : Nat} (h : k ≤ m) : plS ds ds2 n k ≤ plS ds ds2 n m := by
  induction m with
  | zero => rw [Nat.le_zero.1 h]; exact Nat.le_refl _
  | succ m ih =>
    by_cases e : k = m + 1
    · rw [e]; exact Nat.le_refl _
    · rw [plS]
      have := ih (by omega)
      omega
theorem pv_len {ds : List Int} {us : List Int} {i : Nat} (hi : i < ds.length) (hu : (us.length : Int) = dimZ ds (i : Int)) : (ds.getD i 0).toNat = us.length := by
  rw [dimZ_in rfl hi] at hu
  rw [List.getD_eq_getElem?_getD, List.getElem?_eq_getElem hi]
  simp only [Option.getD_some]
  omega
theorem pv_fit {ds ds2 us vs : List Int} {i j : Nat} (hi : i < ds.length) (hu : (us.length : Int) = dimZ ds (i : Int)) (hv : (vs.length : Int) = dimZ ds2 (j : Int)) : plS ds ds2 ((i : Int) + (j : Int)) i + us.length * vs.length ≤ plS ds ds2 ((i : Int) + (j : Int)) ds.length := by
  have h := plS_mono ds ds2 ((i : Int) + (j : Int)) (show i + 1 ≤ ds.length by omega)
  rw [plS, show (i : Int) + (j : Int) - (i : Int) = (j : Int) by omega, pv_len hi hu, ← hv] at h
  simpa using h
theorem pv_place {ds ds2 us vs : List Int} {i j a b : Nat} (hi : i < ds.length) (hu : (us.length : Int) = dimZ ds (i : Int)) (hv : (vs.length : Int) = dimZ ds2 (j : Int)) (ha : a < us.length) (hb : b < vs.length) :
    plc (tsA (bsL ds ds.length) (bsL ds2 ds2.length) (bsL ds ds.length).length) (((i : Int), (a : Int)), ((j : Int), (b : Int))) = plS ds ds2 ((i : Int) + (j : Int)) i + a * vs.length + b := by
  rw [plc_at hi (by rw [pv_len hi hu]; exact ha) (by omega), show (dimZ ds2 (j : Int)).toNat = vs.length by omega]
  omega
theorem pv_mem {ds ds2 us vs : List Int} {i j a b : Nat} (hi : i < ds.length) (hj : j < ds2.length) (hu : (us.length : Int) = dimZ ds (i : Int)) (hv : (vs.length : Int) = dimZ ds2 (j : Int)) (ha : a < us.length) (hb : b < vs.length) :
    ((((i : Int), (a : Int)), ((j : Int), (b : Int))) : PV) ∈ tsA (bsL ds ds.length) (bsL ds2 ds2.length) (bsL ds ds.length).length := pl_mem.2 ⟨by omega, by omega, by omega, by omega⟩
theorem pv_n (ds ds2 : List Int) (n : Int) : (prF (tsA (bsL ds ds.length) (bsL ds2 ds2.length) (bsL ds ds.length).length) n).length = plS ds ds2 n ds.length := by rw [prF_blk, plS_flat]

end Go.Proofs.Ythfcadgbipnemaa

namespace Go.Proofs.Ythfcadgbipnemaa
open Go.RowKit

theorem td_pl {ds ds2 : List Int} (h : ∀ n, 0 ≤ dimZ ds n ∧ dimZ ds n ≤ 8) (h2 : ∀ n, 0 ≤ dimZ ds2 n ∧ dimZ ds2 n ≤ 8) (n : Nat) : ∀ k : Nat, k ≤ ds.length → tdS ds ds2 n k = (plS ds ds2 (n : Int) k : Int) := by
  intro k
  induction k with
  | zero => intro _; rfl
  | succ k ih =>
    intro hk
    have e : (ds.getD k 0).toNat = (dimZ ds (k : Int)).toNat := by rw [dimZ_in rfl (show k < ds.length by omega), getD_of_lt _ (by omega)]
    rw [tdS, plS, ih (by omega), e]
    have h1 := h (k : Int)
    have h3 := h2 ((n : Int) - (k : Int))
    rw [Int.natCast_add, Int.natCast_mul, Int.toNat_of_nonneg h1.1, Int.toNat_of_nonneg h3.1]

end Go.Proofs.Ythfcadgbipnemaa


namespace Go.Proofs.Ythfcadgbipnemaa
open Go.RowKit

def MaxR (xs : List Int) (w : World) (e : Ending) (w' : World) : Prop := ∃ m : Int, e = .returned (.int .i64 m) ∧ Below w.heap.size w w' ∧ ∀ B : Int, B < m ↔ ∃ j, j < xs.length ∧ B < xs.getD j 0
theorem max_step {xs : List Int} {k : Nat} {m : Int} (h : ∀ B : Int, B < m ↔ ∃ j, j < k ∧ B < xs.getD j 0) (B : Int) : B < max m (xs.getD k 0) ↔ ∃ j, j < k + 1 ∧ B < xs.getD j 0 := by
  constructor
  · intro hb
    by_cases hm : B < m
    · obtain ⟨j, hj, hx⟩ := (h B).1 hm
      exact ⟨j, by omega, hx⟩
    · exact ⟨k, by omega, by omega⟩
  · rintro ⟨j, hj, hx⟩
    by_cases e : j = k
    · subst e
      omega
    · have := (h B).2 ⟨j, by omega, hx⟩
      omega

set_option maxHeartbeats 1600000 in
set_option maxRecDepth 100000 in
theorem slicesMax_any (vv : Value) (xs : List Int) (w : World) (hv : L1 0 w vv xs) (hne : 0 < xs.length) (hl : xs.length ≤ 1048576) : Calls Try.prog 187 #[vv] w (MaxR xs w) := by
  have HV := Lib.hid (fun W (h : Below w.heap.size w W) => hv.below h)
  refine Sl.cases hv (fun _ _ hx _ => absurd hne (by simp [hx])) (fun bd od cap hvd _ _ hcl => ?_)
  subst hvd
  have HC : Hid (∀ W, Below w.heap.size w W → ∀ j (h : j < xs.length), W.cell? ⟨bd, od + j, none⟩ = some (.int .i64 (xs.getD j 0))) := Lib.hid (fun W hb j hj => by
    refine Sl.cases (HV.out W hb) (fun _ _ hx _ => absurd hne (by simp [hx])) (fun b2 o2 c2 hv2 _ _ hc2 => ?_)
    injection hv2 with k1 _ _
    injection k1 with k1
    injection k1 with k1 k2 _
    subst k1 k2
    obtain ⟨u, hu, hru⟩ := hc2 j hj
    rw [hu, hru, getD_of_lt _ hj])
  have c0 := HC.out w (Below.refl _ _) 0 hne
  rw [Nat.add_zero] at c0
  have hne2 : ¬ (xs.length : Int) < 1 := by omega
  have hne3 : (0 : Int) < (xs.length : Int) := by omega
  have HST : Hid (∀ B : Int, B < xs.getD 0 0 ↔ ∃ j, j < 1 ∧ B < xs.getD j 0) := Lib.hid (fun B => ⟨fun h => ⟨0, by omega, h⟩, fun ⟨j, hj, h⟩ => by rwa [show j = 0 by omega] at h⟩)
  obtain ⟨x0, hx0⟩ : ∃ x, x = xs.getD 0 0 := ⟨_, rfl⟩
  rw [← hx0] at c0
  have HX0 := Lib.hid hx0
  clear hx0
  clear hv hcl HV
  go_enter Try.func187, Try.ntmps187
  go_wp2
  clear c0
  go_loopw [3, 4] (fun s i wr => ∃ (k : Nat) (m : Int), k ≤ xs.length ∧ i = .int .i64 (k : Int) ∧ s = .int .i64 m ∧ Hid (Below w.heap.size w wr) ∧ Hid (∀ B : Int, B < m ↔ ∃ j, j < k ∧ B < xs.getD j 0)) (fun _ i _ => xs.length - (intOf i).toNat)
  case atStart => exact ⟨1, x0, hne, by go_num, rfl, Lib.hid (Below.refl _ _), by rw [HX0.out]; exact HST⟩
  case round =>
    clear HST
    obtain ⟨k, m, hk, rfl, rfl, HB, HM⟩ := hrel
    by_cases hlt : k < xs.length
    · have hki : (k : Int) < (xs.length : Int) := by omega
      have ck := HC.out _ HB.out k hlt
      obtain ⟨x, hx⟩ : ∃ x, x = xs.getD k 0 := ⟨_, rfl⟩
      rw [← hx] at ck
      have HN : Hid (∀ B : Int, B < max m x ↔ ∃ j, j < k + 1 ∧ B < xs.getD j 0) := Lib.hid (by rw [hx]; exact max_step HM.out)
      clear hx
      go_wp2
      go_roundw
      case rel => exact ⟨k + 1, max m x, by omega, by go_num, rfl, HB, HN⟩
      case measure => simp [intOf]; omega
    · have hki : ¬ (k : Int) < (xs.length : Int) := by omega
      have hke : k = xs.length := by omega
      go_wp2
      go_ret
      exact ⟨m, rfl, HB.out, by rw [← hke]; exact HM.out⟩

/-- Beyond the limits of a complex. -/
def Exc (ds : List Int) : Prop := 6 < ds.length ∨ ∃ j, j < ds.length ∧ 8 < ds.getD j 0

set_option maxHeartbeats 1600000 in
set_option maxRecDepth 100000 in
theorem exceedsLimits_any (p : Int) (dv mv : Value) (ds : List Int) (w : World) (h : L1 0 w dv ds) (hne : 0 < ds.length) (hl : ds.length ≤ 1048576) : Calls Try.prog 137 #[.agg #[.int .i64 p, dv, mv]] w (BB (Exc ds) w) := by
  obtain ⟨ad, cap, rfl⟩ := Sl.shape h
  obtain ⟨w1, hw1⟩ : ∃ w1, w1 = w.alloc (.cells #[.int .i64 p, .slice ad ds.length cap, mv] 30) := ⟨_, rfl⟩
  have hb1 : Below w.heap.size w w1 := by rw [hw1]; exact below_alloc1 _ _
  have c0 : w1.cell? ⟨w.heap.size, 0, none⟩ = some (.int .i64 p) := by rw [hw1]; simp
  have c1 : w1.cell? ⟨w.heap.size, 1, none⟩ = some (.slice ad ds.length cap) := by rw [hw1]; simp
  have c2 : w1.cell? ⟨w.heap.size, 2, none⟩ = some mv := by rw [hw1]; simp
  have HL := Lib.hid (h.below hb1)
  have HB1 := Lib.hid hb1
  have HC1 : Hid (∀ W, Below w1.heap.size w1 W → W.cell? ⟨w.heap.size, 1, none⟩ = some (.slice ad ds.length cap)) := Lib.hid (fun W h => later h (by rw [hw1]; simp) c1)
  clear h hb1
  go_enter Try.func137, Try.ntmps137
  go_upto_region 1 with fail
  rw [← hw1]
  clear hw1
  go_wp2_with fail
  refine (topOf_any p _ _ ds.length ad cap w1 rfl hl).mono ?_
  rintro ee w2 ⟨rfl, hb2⟩
  have HL2 := Lib.hid (HL.out.below hb2)
  have HB2 := Lib.hid (HB1.out.trans (hb2.mono HB1.out.size))
  have c1' := HC1.out w2 hb2
  clear c0 c1 c2
  by_cases h6 : 6 < ds.length
  · have hg : (5 : Int) < (ds.length : Int) - 1 := by omega
    clear hb2
    go_wp2
    go_ret
    exact bb_true HB2.out (Or.inl h6)
  · have hg : ¬ (5 : Int) < (ds.length : Int) - 1 := by omega
    clear hb2
    go_wp2_with fail
    refine (slicesMax_any _ ds w2 HL2.out hne hl).mono ?_
    rintro ee w3 ⟨m, rfl, hb3, hm⟩
    have HB3 := Lib.hid (HB2.out.trans (hb3.mono HB2.out.size))
    have HM := Lib.hid (hm 8)
    clear hb3 hm c1'
    by_cases h8 : 8 < m
    · have h8' := Lib.hid h8
      go_wp2
      go_ret
      exact bb_true HB3.out (Or.inr (HM.out.1 h8'.out))
    · have h8' := Lib.hid h8
      go_wp2
      go_ret
      refine ⟨decide ((5 : Int) < (ds.length : Int) - 1) || decide ((8 : Int) < m), rfl, HB3.out, ?_⟩
      have e1 : decide ((5 : Int) < (ds.length : Int) - 1) = false := decide_eq_false (by omega)
      have e2 : decide ((8 : Int) < m) = false := decide_eq_false (by omega)
      rw [e1, e2]
      refine ⟨fun hh => (by cases hh), ?_⟩
      rintro (hh | hh)
      · exact absurd hh (by omega)
      · exact absurd (HM.out.2 hh) (by omega)

set_option maxHeartbeats 1600000 in
set_option maxRecDepth 100000 in
theorem tensorExceeds_any (p p2 : Int) (dv mv dv2 mv2 : Value) (ds : List Int) (ms : List (List (List Int))) (ds2 : List Int) (ms2 : List (List (List Int))) (w : World) (h : Cx 0 w dv mv ds ms) (h2 : Cx 0 w dv2 mv2 ds2 ms2) (hc : IsCx p ds ms) (hc2 : IsCx p2 ds2 ms2) : Calls Try.prog 79 #[.agg #[.int .i64 p, dv, mv], .agg #[.int .i64 p2, dv2, mv2]] w (BB (Exc (tdD ds ds2)) w) := by
  obtain ⟨ad, cap, rfl⟩ := Sl.shape h.dims
  obtain ⟨am, capm, rfl⟩ := Sl.shape h.maps
  obtain ⟨ad2, cap2, rfl⟩ := Sl.shape h2.dims
  obtain ⟨am2, capm2, rfl⟩ := Sl.shape h2.maps
  obtain ⟨k1, k2⟩ := bx_two (p := p) (p2 := p2) 30 h h2
  have HX0 := Lib.hid k1
  have HY0 := Lib.hid k2
  have HC := Lib.hid hc
  have HC2 := Lib.hid hc2
  have hl6 := hc.1.len1
  have hl60 := hc.1.len0
  have hl70 := hc2.1.len0
  have hl7 := hc2.1.len1
  obtain ⟨w1, hw1⟩ : ∃ w1, w1 = ((w.alloc (.cells #[.int .i64 p, .slice ad ds.length cap, .slice am ms.length capm] 30)).alloc (.cells #[.int .i64 p2, .slice ad2 ds2.length cap2, .slice am2 ms2.length capm2] 30)) := ⟨_, rfl⟩
  rw [← hw1] at HX0 HY0
  have c0 := HX0.out.c0
  have c1 := HX0.out.c1
  have c2 := HX0.out.c2
  have d0 := HY0.out.c0
  have d1 := HY0.out.c1
  have d2 := HY0.out.c2
  clear h h2 k1 k2 hc hc2
  go_enter Try.func79, Try.ntmps79
  go_upto_region 1 with fail
  rw [← hw1]
  clear hw1
  go_wp2_with fail
  refine (tensorDims_any p p2 _ _ _ _ ds ms ds2 ms2 w1 HX0.out.cx HY0.out.cx HC.out HC2.out).mono ?_
  rintro ee w2 ⟨u, rfl, hrw, hb2⟩
  obtain ⟨au, cu, rfl⟩ := hrw.shape
  have HR := Lib.hid hrw.l
  have HB := Lib.hid (HX0.out.next hb2).below
  clear hrw hb2 c0 c1 c2 d0 d1 d2
  go_wp2_with fail
  refine (exceedsLimits_any 0 _ _ (tdD ds ds2) w2 HR.out (by rw [tdD_length]; unfold tdL; omega) (by rw [tdD_length]; unfold tdL; omega)).mono ?_
  rintro ee w3 ⟨b, rfl, hb3, hbb⟩
  have HB3 := Lib.hid (HB.out.trans (hb3.mono HB.out.size))
  have HBB := Lib.hid hbb
  clear hb3 hbb
  go_wp2
  go_ret
  exact ⟨b, rfl, HB3.out, HBB.out⟩
end Go.Proofs.Ythfcadgbipnemaa

namespace Go.Proofs.Ythfcadgbipnemaa
open Go.RowKit

/-- The basis vector a of the degree k, with n numbers in a row of its own. -/
def UelR (k a n : Nat) (w : World) (e : Ending) (w' : World) : Prop := ∃ g, e = .returned (.agg #[.int .i64 (k : Int), .slice (some ⟨g, 0, none⟩) n n]) ∧ w.heap.size ≤ g ∧ Below w.heap.size w w' ∧ w'.rowIs g 2 n (fun q => .int .i64 (if q = a then 1 else 0))

set_option maxHeartbeats 1600000 in
set_option maxRecDepth 100000 in
theorem unitElement_any (p : Int) (k a n : Nat) (dv mv : Value) (ds : List Int) (w : World) (h : L1 0 w dv ds) (hk : k < ds.length) (hn : ds.getD k 0 = (n : Int)) (ha : a < n) (hn8 : n ≤ 1048576) :
    Calls Try.prog 193 #[.agg #[.int .i64 p, dv, mv], .agg #[.int .i64 (k : Int), .int .i64 (a : Int)]] w (UelR k a n w) := by
  have hres : Try.f193.results = #[.cell 4 152] := by kernel_rfl
  have HRES := Lib.hid hres
  obtain ⟨wa, hwa⟩ : ∃ wa, wa = w.alloc (.cells #[.int .i64 p, dv, mv] 30) := ⟨_, rfl⟩
  have hba : Below w.heap.size w wa := by rw [hwa]; exact below_alloc1 _ _
  have hsa : wa.heap.size = w.heap.size + 1 := by rw [hwa]; simp
  obtain ⟨wb, hwb⟩ : ∃ wb, wb = wa.alloc (.cells #[.int .i64 (k : Int), .int .i64 (a : Int)] 191) := ⟨_, rfl⟩
  have hbb : Below wa.heap.size wa wb := by rw [hwb]; exact below_alloc1 _ _
  have hsb : wb.heap.size = w.heap.size + 2 := by rw [hwb]; simp [hsa]
  obtain ⟨w1, hw1⟩ : ∃ w1, w1 = wb.alloc (.cells #[.int .i64 0, .slice none 0 0] 152) := ⟨_, rfl⟩
  have hb1 : Below wb.heap.size wb w1 := by rw [hw1]; exact below_alloc1 _ _
  have hs1 : w1.heap.size = w.heap.size + 3 := by rw [hw1]; simp [hsb]
  have hw1b : w1 = ((w.alloc (.cells #[.int .i64 p, dv, mv] 30)).alloc (.cells #[.int .i64 (k : Int), .int .i64 (a : Int)] 191)).alloc (.cells #[.int .i64 0, .slice none 0 0] 152) := by rw [hw1, hwb, hwa]
  have hbab : Below wa.heap.size wa w1 := hbb.trans (hb1.mono (by omega))
  have hb01 : Below w.heap.size w w1 := hba.trans (hbab.mono (by omega))
  have x1 : w1.cell? ⟨w.heap.size, 1, none⟩ = some dv := later hbab (Nat.le_refl _) (by rw [hwa]; simp)
  have b0 : w1.cell? ⟨w.heap.size + 1, 0, none⟩ = some (.int .i64 (k : Int)) := later hb1 (Nat.le_refl _) (by rw [hwb, ← hsa]; simp)
  have b1 : w1.cell? ⟨w.heap.size + 1, 1, none⟩ = some (.int .i64 (a : Int)) := later hb1 (Nat.le_refl _) (by rw [hwb, ← hsa]; simp)
  have hr1 : Rz w1 (w.heap.size + 2) 152 #[.int .i64 0, .slice none 0 0] := by rw [hw1, ← hsb]; exact Rz.new _ _ _
  refine Sl.cases (h.below hb01) (fun _ _ hx _ => absurd hk (by simp [hx])) (fun bd od cap hvd _ _ hcl => ?_)
  subst hvd
  obtain ⟨u, hu, hru⟩ := hcl k hk
  have hxk : w1.cell? ⟨bd, od + k, none⟩ = some (.int .i64 (n : Int)) := by rw [hu, hru, ← hn, getD_of_lt _ hk]
  have hki : (k : Int) < (ds.length : Int) := by omega
  have hmk := run_make_row' (P := Try.prog) 22 2 (.int .i64 0) 8 Try.underlying22 Try.infoI rfl .i64 .i64 n (by omega) (by omega)
  have HB1 := Lib.hid hb01
  have HR1 := Lib.hid hr1
  have HS1 := Lib.hid hs1
  clear hw1 hwb hwa hba hbb hb1 hbab hb01 hsa hsb hr1 h hcl hu hru hres hs1
  go_enter Try.func193, Try.ntmps193
  go_upto_region 1 with fail
  rw [← hw1b]
  clear hw1b
  go_upto_region 2 with fail
  obtain ⟨w2, hw2⟩ : ∃ w2, w2 = w1.alloc (.cells (madeCells #[.int .i64 0] n) 2) := ⟨_, rfl⟩
  have hb2 : Below w1.heap.size w1 w2 := by rw [hw2]; exact below_alloc1 _ _
  have hrow : w2.rowIs w1.heap.size 2 n (fun _ => .int .i64 0) := by rw [hw2]; exact World.rowIs_made w1 (.int .i64 0) n 2
  rw [← hw2]
  clear hw2
  have y0 := later hb2 (Nat.le_refl _) b0
  have y1 := later hb2 (Nat.le_refl _) b1
  have hr2 := HR1.out.next hb2
  have HB2 := Lib.hid (HB1.out.trans (hb2.mono HB1.out.size))
  have ra : w2.cell? ⟨w1.heap.size, a, none⟩ = some (.int .i64 0) := hrow.cell ha
  have rf : w2.frozen? ⟨w1.heap.size, a, none⟩ = false := hrow.frozen _
  have hai : (a : Int) < (n : Int) := by omega
  have HROW2 := Lib.hid (hrow.set a (.int .i64 1))
  clear x1 b0 b1 hxk hmk hb2 hrow HR1
  go_upto_region 3 with fail
  obtain ⟨w3, hw3⟩ : ∃ w3, w3 = w2.setCell ⟨w1.heap.size, a, none⟩ (.int .i64 1) := ⟨_, rfl⟩
  rw [← hw3] at HROW2 ⊢
  have hb3 : Below w1.heap.size w2 w3 := by rw [hw3]; exact (Below.refl w1.heap.size w2).setCell (by show w1.heap.size ≤ w1.heap.size; exact Nat.le_refl _) _
  have z0 : w3.cell? ⟨w.heap.size + 1, 0, none⟩ = some (.int .i64 (k : Int)) := by rw [hw3, World.cell?_setCell_other _ _ _ _ (by intro e; injection e with e; have := HS1.out; omega)]; exact y0
  have hr3 : Rz w3 (w.heap.size + 2) 152 #[.int .i64 0, .slice none 0 0] := (hb3.block _ (by have := HS1.out; omega)).trans hr2
  have q0 : w3.cell? ⟨w.heap.size + 1 + 1, 0, none⟩ = some (.int .i64 0) := hr3.cell (i := 0) rfl
  have q1 : w3.cell? ⟨w.heap.size + 1 + 1, 1, none⟩ = some (.slice none 0 0) := hr3.cell (i := 1) rfl
  have f0 : w3.frozen? ⟨w.heap.size + 1 + 1, 0, none⟩ = false := rz_frozen hr3 0
  have f1 : w3.frozen? ⟨w.heap.size + 1 + 1, 1, none⟩ = false := rz_frozen hr3 1
  have HR3 := Lib.hid hr3
  have HB3 : Hid (Below w.heap.size w w3) := Lib.hid (by rw [hw3]; exact HB2.out.setCell (by show w.heap.size ≤ w1.heap.size; have := HS1.out; omega) _)
  clear hw3 y0 y1 ra rf hr2 hr3 hb3 HB2
  go_wp2
  obtain ⟨W6, h6⟩ : ∃ W6, W6 = (w3.setCell ⟨w.heap.size + 1 + 1, 0, none⟩ (.int .i64 (k : Int))).setCell ⟨w.heap.size + 1 + 1, 1, none⟩ (.slice (some ⟨w1.heap.size, 0, none⟩) n n) := ⟨_, rfl⟩
  have e0 : W6.cell? ⟨w.heap.size + 1 + 1, 0, none⟩ = some (.int .i64 (k : Int)) := by
    rw [h6, World.cell?_setCell_other _ _ _ _ (by simp)]
    exact World.cell?_setCell_same _ _ _ q0
  have e1 : W6.cell? ⟨w.heap.size + 1 + 1, 1, none⟩ = some (.slice (some ⟨w1.heap.size, 0, none⟩) n n) := by
    rw [h6]
    exact World.cell?_setCell_same _ _ _ (by rw [World.cell?_setCell_other _ _ _ _ (by simp)]; exact q1)
  have HB6 : Hid (Below w.heap.size w W6) := Lib.hid (by rw [h6]; exact (HB3.out.setCell (by show w.heap.size ≤ w.heap.size + 1 + 1; omega) _).setCell (by show w.heap.size ≤ w.heap.size + 1 + 1; omega) _)
  have hne : w1.heap.size ≠ w.heap.size + 1 + 1 := by have := HS1.out; omega
  have HR6 : Hid (W6.rowIs w1.heap.size 2 n (fun q => .int .i64 (if q = a then 1 else 0))) := Lib.hid (by
    rw [h6]
    refine ((HROW2.out.setOther hne _).setOther hne _).congr (fun q _ => ?_)
    by_cases e : q = a
    · rw [if_pos e, if_pos e]
    · rw [if_neg e, if_neg e])
  rw [← h6]
  clear h6 q0 q1 f0 f1 z0
  refine bodyPost_ret (v := .agg #[.int .i64 (k : Int), .slice (some ⟨w1.heap.size, 0, none⟩) n n]) ?_ rfl ⟨w1.heap.size, rfl, by have := HS1.out; omega, HB6.out, HR6.out⟩
  simp only [results, HRES.out]
  go_simp
end Go.Proofs.Ythfcadgbipnemaa

namespace Go.Proofs.Ythfcadgbipnemaa
open Go.RowKit

theorem hload2E (w : World) {b : Nat} {x y : Value} (c0 : w.cell? ⟨b, 0, none⟩ = some x) (c1 : w.cell? ⟨b, 1, none⟩ = some y) : (Instr.loadAt 152 (.pointer (some ⟨b, 0, none⟩))).run Try.prog w = .ok (.agg #[x, y]) w := by go_simp

end Go.Proofs.Ythfcadgbipnemaa

namespace Go.Proofs.Ythfcadgbipnemaa
open Go.RowKit

theorem pcs_at {L : List PV} : ∀ {k : Nat} (h : k < L.length), (pcs L)[k * 4]? = some (.int .i64 L[k].1.1) ∧ (pcs L)[k * 4 + 1]? = some (.int .i64 L[k].1.2) ∧ (pcs L)[k * 4 + 2]? = some (.int .i64 L[k].2.1) ∧ (pcs L)[k * 4 + 3]? = some (.int .i64 L[k].2.2) := by
  induction L with
  | nil => intro k h; simp at h
  | cons v L ih =>
    intro k h
    cases k with
    | zero => simp [pcs]
    | succ k =>
      have := ih (k := k) (by simpa using h)
      have e : pcs (v :: L) = .int .i64 v.1.1 :: .int .i64 v.1.2 :: .int .i64 v.2.1 :: .int .i64 v.2.2 :: pcs L := by simp [pcs]
      rw [e, show (k + 1) * 4 = k * 4 + 1 + 1 + 1 + 1 by omega, show k * 4 + 1 + 1 + 1 + 1 + 1 = (k * 4 + 1) + 1 + 1 + 1 + 1 by omega, show k * 4 + 1 + 1 + 1 + 1 + 2 = (k * 4 + 2) + 1 + 1 + 1 + 1 by omega, show k * 4 + 1 + 1 + 1 + 1 + 3 = (k * 4 + 3) + 1 + 1 + 1 + 1 by omega]
      simp only [List.getElem?_cons_succ, List.getElem_cons_succ]
      exact this
theorem pr_at {base : Nat} {w : World} {s : Value} {L : List PV} (h : w.ownsRow base 194 4 s L.length (pcs L)) {k : Nat} (hk : k < L.length) : ∃ g cap, s = .slice (some ⟨g, 0, none⟩) L.length cap ∧ g < w.heap.size ∧ w.cell? ⟨g, k * 4, none⟩ = some (.int .i64 L[k].1.1) ∧ w.cell? ⟨g, k * 4 + 1, none⟩ = some (.int .i64 L[k].1.2) ∧ w.cell? ⟨g, k * 4 + 2, none⟩ = some (.int .i64 L[k].2.1) ∧ w.cell? ⟨g, k * 4 + 3, none⟩ = some (.int .i64 L[k].2.2) := by
  rcases h.2 with ⟨_, h0⟩ | ⟨g, cap, cur, hs, hg, hb, hn, _, hcur, ht⟩
  · omega
  · have hlt : g < w.heap.size := (Array.getElem?_eq_some_iff.1 hb).1
    have h1 := pcs_at hk
    rw [← ht, List.getElem?_take, if_pos (by omega), List.getElem?_take, if_pos (by omega), List.getElem?_take, if_pos (by omega), List.getElem?_take, if_pos (by omega)] at h1
    refine ⟨g, cap, hs, hlt, ?_, ?_, ?_, ?_⟩
    · rw [cell_of_row _ _ _ _ _ _ hb, ← h1.1]; simp
    · rw [cell_of_row _ _ _ _ _ _ hb, ← h1.2.1]; simp
    · rw [cell_of_row _ _ _ _ _ _ hb, ← h1.2.2.1]; simp
    · rw [cell_of_row _ _ _ _ _ _ hb, ← h1.2.2.2]; simp
theorem hload3o (w : World) {b : Nat} {x y z : Value} (c0 : w.cell? ⟨b, 3, none⟩ = some x) (c1 : w.cell? ⟨b, 4, none⟩ = some y) (c2 : w.cell? ⟨b, 5, none⟩ = some z) : (Instr.loadAt 30 (.pointer (some ⟨b, 3, none⟩))).run Try.prog w = .ok (.agg #[x, y, z]) w := by go_simp
theorem hload2Bo (w : World) {b : Nat} {x y : Value} (c0 : w.cell? ⟨b, 2, none⟩ = some x) (c1 : w.cell? ⟨b, 3, none⟩ = some y) : (Instr.loadAt 191 (.pointer (some ⟨b, 2, none⟩))).run Try.prog w = .ok (.agg #[x, y]) w := by go_simp
/-- A row of a table anew. -/
theorem Tb.row' {W W' : World} {g r c : Nat} {Z : Nat → Nat → Int} (h : Tb W g r c Z) {j : Nat} {y : Nat → Int} (hb : But (g + 1 + j) W W') (hr : W'.rowIs (g + 1 + j) 2 c (fun i => .int .i64 (y i))) : Tb W' g r c (fun j2 i => if j2 = j then y i else Z j2 i) := by
  refine ⟨h.top.of_block (hb.block _ h.top.lt (by omega)), fun j2 hj2 => ?_, Nat.le_trans h.lt hb.size⟩
  by_cases e : j2 = j
  · subst e
    exact hr.congr (fun i _ => by simp)
  · exact ((h.rows j2 hj2).of_block (hb.block _ (h.rows j2 hj2).lt (by omega))).congr (fun i _ => by simp [e])
/-- What tableBy answers. -/
def TbyR (m c : Nat) (Z : Nat → Nat → Int) (w : World) (e : Ending) (w' : World) : Prop := ∃ g, e = .returned (.slice (some ⟨g, 0, none⟩) m m) ∧ w.heap.size ≤ g ∧ Tb w' g m c Z ∧ Below w.heap.size w w'

end Go.Proofs.Ythfcadgbipnemaa

namespace Go.Proofs.Ythfcadgbipnemaa
open Go.RowKit

section
variable {P : Program} {md : Region.Mode} {ops : Array Oper} {n : Nat} {Q : Exit → Act → World → Prop}
end

end Go.Proofs.Ythfcadgbipnemaa

namespace Go.Proofs.Ythfcadgbipnemaa
open Go.RowKit

open Classical in
/-- The code of SwapFamily. -/
noncomputable def swCode (p p2 : Int) (ds : List Int) (ms : List (List (List Int))) (ds2 : List Int) (ms2 : List (List (List Int))) : Int :=
  if prCode p p2 ds ms ds2 ms2 = 0 then (if Exc (tdD ds ds2) then 3 else 0) else prCode p p2 ds ms ds2 ms2
section
variable {p p2 : Int} {ds : List Int} {ms : List (List (List Int))} {ds2 : List Int} {ms2 : List (List (List Int))}
theorem swCode_pr (h : prCode p p2 ds ms ds2 ms2 ≠ 0) : swCode p p2 ds ms ds2 ms2 = prCode p p2 ds ms ds2 ms2 := if_neg h
theorem swCode_three (h : prCode p p2 ds ms ds2 ms2 = 0) (hn : Exc (tdD ds ds2)) : swCode p p2 ds ms ds2 ms2 = 3 := by
  unfold swCode
  rw [if_pos h, if_pos hn]
theorem swCode_ok (h : prCode p p2 ds ms ds2 ms2 = 0) (hn : ¬ Exc (tdD ds ds2)) : swCode p p2 ds ms ds2 ms2 = 0 := by
  unfold swCode
  rw [if_pos h, if_neg hn]
theorem swCode_zero (h : swCode p p2 ds ms ds2 ms2 = 0) : prCode p p2 ds ms ds2 ms2 = 0 ∧ ¬ Exc (tdD ds ds2) := by
  unfold swCode at h
  by_cases h0 : prCode p p2 ds ms ds2 ms2 = 0
  · rw [if_pos h0] at h
    by_cases h1 : Exc (tdD ds ds2)
    · rw [if_pos h1] at h
      cases h
    · exact ⟨h0, h1⟩
  · rw [if_neg h0] at h
    exact absurd h h0
end
/-- A basis vector as a list. -/
def unL (n a : Nat) : List Int := (List.range n).map fun q => if q = a then 1 else 0
theorem unL_length (n a : Nat) : (unL n a).length = n := by simp [unL]
theorem unL_bd {n a : Nat} {p : Int} (hp : 2 ≤ p) : ∀ x ∈ unL n a, 0 ≤ x ∧ x ≤ p - 1 := by
  intro x hx
  obtain ⟨q, _, rfl⟩ := List.mem_map.1 hx
  split <;> omega
theorem unL_getD {n a k : Nat} (hk : k < n) : (unL n a).getD k 0 = if k = a then 1 else 0 := by
  rw [getD_of_lt _ (by rw [unL_length]; exact hk)]
  simp [unL]
theorem unL_l1 {W : World} {g n a : Nat} (h : W.rowIs g 2 n (fun q => .int .i64 (if q = a then 1 else 0))) (hn : n ≤ 1048576) : L1 0 W (.slice (some ⟨g, 0, none⟩) n n) (unL n a) :=
  (row_rc (xs := unL n a) (lo := 0) h (unL_length n a) (fun i hi => by simp [unL]) hn (Nat.zero_le _)).1.l1
end Go.Proofs.Ythfcadgbipnemaa

namespace Go.Proofs.Ythfcadgbipnemaa
open Go.RowKit

theorem dim_getD (ds : List Int) (i : Nat) : (ds.getD i 0).toNat = (dimZ ds (i : Int)).toNat := by
  by_cases h : i < ds.length
  · rw [dimZ_in rfl h, getD_of_lt _ h]
  · rw [dimZ_past (by omega), List.getD_eq_getElem?_getD, List.getElem?_eq_none (by omega)]
    rfl
theorem fm_past {α : Type} {F : Nat → List α} {a : Nat} (h : ∀ k, a ≤ k → F k = []) (d : Nat) : (List.range (a + d)).flatMap F = (List.range a).flatMap F := by
  induction d with
  | zero => rfl
  | succ d ih => rw [← Nat.add_assoc, List.range_succ, List.flatMap_append, ih, List.flatMap_cons, h (a + d) (by omega)]; simp
/-- The pairs of the degree n that stand ahead of the pair b of the row a of the degree i. -/
def pvP (ds ds2 : List Int) (n i a b : Nat) : List PV := (List.range i).flatMap (blkD ds ds2 (n : Int)) ++ ((List.range a).flatMap (fun (a2 : Nat) => blk ds2 (n : Int) ((i : Int), (a2 : Int))) ++ (List.range b).map (fun (c : Nat) => (((i : Int), (a : Int)), ((n : Int) - (i : Int), (c : Int)))))
theorem pvP_zero (ds ds2 : List Int) (n : Nat) : pvP ds ds2 n 0 0 0 = [] := by simp [pvP]
theorem pvP_b (ds ds2 : List Int) (n i a b : Nat) : pvP ds ds2 n i a (b + 1) = pvP ds ds2 n i a b ++ [(((i : Int), (a : Int)), ((n : Int) - (i : Int), (b : Int)))] := by
  unfold pvP
  rw [List.range_succ, List.map_append, List.map_cons, List.map_nil]
  simp only [List.append_assoc]
theorem pvP_a (ds ds2 : List Int) (n i a : Nat) : pvP ds ds2 n i a (dimZ ds2 ((n : Int) - (i : Int))).toNat = pvP ds ds2 n i (a + 1) 0 := by
  unfold pvP
  rw [List.range_succ (n := a), List.flatMap_append, List.flatMap_cons, List.flatMap_nil, List.append_nil, List.range_zero, List.map_nil, List.append_nil]
  rfl
theorem pvP_i (ds ds2 : List Int) (n i : Nat) : pvP ds ds2 n i (dimZ ds (i : Int)).toNat 0 = pvP ds ds2 n (i + 1) 0 0 := by
  unfold pvP
  rw [List.range_succ (n := i), List.flatMap_append, List.flatMap_cons, List.flatMap_nil, List.append_nil, List.range_zero, List.map_nil, List.append_nil, List.flatMap_nil, List.map_nil, List.append_nil, List.append_nil, ← dim_getD]
  rfl
theorem pvP_end (ds ds2 : List Int) (n : Nat) : pvP ds ds2 n (n + 1) 0 0 = prF (tsA (bsL ds ds.length) (bsL ds2 ds2.length) (bsL ds ds.length).length) (n : Int) := by
  have e : pvP ds ds2 n (n + 1) 0 0 = (List.range (n + 1)).flatMap (blkD ds ds2 (n : Int)) := by simp [pvP]
  rw [e, prF_blk]
  by_cases h : ds.length ≤ n + 1
  · obtain ⟨d, hd⟩ := Nat.exists_eq_add_of_le h
    rw [hd, fm_past (fun k hk => by
      unfold blkD
      rw [dim_getD, dimZ_past hk]
      rfl)]
  · obtain ⟨d, hd⟩ := Nat.exists_eq_add_of_le (show n + 1 ≤ ds.length by omega)
    rw [hd, fm_past (a := n + 1) (d := d) (fun k hk => by
      unfold blkD
      have hb : ∀ a : Nat, blk ds2 (n : Int) ((k : Int), (a : Int)) = [] := fun a => by
        unfold blk
        rw [dimZ_neg (ds := ds2) (n := (n : Int) - (k : Int)) (by omega)]
        rfl
      simp only [hb]
      induction (ds.getD k 0).toNat with
      | zero => rfl
      | succ m ih => rw [List.range_succ, List.flatMap_append, ih]; simp)]
theorem pvP_length (ds ds2 : List Int) (n i a b : Nat) : (pvP ds ds2 n i a b).length = plS ds ds2 (n : Int) i + (a * (dimZ ds2 ((n : Int) - (i : Int))).toNat + b) := by
  unfold pvP
  rw [List.length_append, List.length_append, plS_flat, flat_const (fun (a2 : Nat) => blk ds2 (n : Int) ((i : Int), (a2 : Int))) (dimZ ds2 ((n : Int) - (i : Int))).toNat (fun a2 => blk_length ds2 (n : Int) ((i : Int), (a2 : Int))), List.length_map, List.length_range]
end Go.Proofs.Ythfcadgbipnemaa

namespace Go.Proofs.Ythfcadgbipnemaa
open Go.RowKit

set_option maxHeartbeats 1600000 in
set_option maxRecDepth 100000 in
theorem l06Fits_any (vv : Value) (xs : List Int) (w : World) (hv : L1 0 w vv xs) (hl : xs.length ≤ 1048576) : Calls Try.prog 75 #[vv] w (BB (¬ Exc xs) w) := by
  obtain ⟨ad, cap, rfl⟩ := Sl.shape hv
  have HV := Lib.hid (fun W (h : Below w.heap.size w W) => hv.below h)
  have HC : Hid (∀ W, Below w.heap.size w W → ∀ j (h : j < xs.length), ∃ bd od, ad = some ⟨bd, od, none⟩ ∧ W.cell? ⟨bd, od + j, none⟩ = some (.int .i64 (xs.getD j 0))) := Lib.hid (fun W hb j hj => by
    refine Sl.cases (HV.out W hb) (fun _ _ hx _ => absurd hj (by simp [hx])) (fun b2 o2 c2 hv2 _ _ hc2 => ?_)
    injection hv2 with k1 _ _
    obtain ⟨u, hu, hru⟩ := hc2 j hj
    exact ⟨b2, o2, k1, by rw [hu, hru, getD_of_lt _ hj]⟩)
  clear hv HV
  go_enter Try.func75, Try.ntmps75
  go_wp2
  go_loopw [3] (fun x wr => ∃ k : Nat, k ≤ xs.length ∧ x = .int .i64 (k : Int) ∧ Hid (Below w.heap.size w wr) ∧ Hid (∀ j, j < k → xs.getD j 0 ≤ 8)) (fun x _ => xs.length - (intOf x).toNat)
  case atStart => exact ⟨0, Nat.zero_le _, rfl, Lib.hid (Below.refl _ _), Lib.hid (fun j hj => absurd hj (Nat.not_lt_zero _))⟩
  case round =>
    obtain ⟨k, hk, rfl, HB, HM⟩ := hrel
    by_cases hlt : k < xs.length
    · have hki : (k : Int) < (xs.length : Int) := by omega
      obtain ⟨bd, od, e1, ck⟩ := HC.out _ HB.out k hlt
      subst e1
      obtain ⟨x, hx⟩ : ∃ x, x = xs.getD k 0 := ⟨_, rfl⟩
      rw [← hx] at ck
      have HXD := Lib.hid hx
      clear hx
      by_cases h8 : 8 < x
      · have H8 := Lib.hid h8
        go_wp2
        go_ret
        exact bb_false HB.out (fun hh => hh (Or.inr ⟨k, hlt, by rw [← HXD.out]; exact H8.out⟩))
      · have H8 := Lib.hid h8
        have HM2 : Hid (∀ j, j < k + 1 → xs.getD j 0 ≤ 8) := Lib.hid (fun j hj => by
          by_cases e : j = k
          · rw [e, ← HXD.out]; omega
          · exact HM.out j (by omega))
        go_wp2
        go_roundw
        case rel => exact ⟨k + 1, by omega, by go_num, HB, HM2⟩
        case measure => simp [intOf]; omega
    · have hki : ¬ (k : Int) < (xs.length : Int) := by omega
      have HKE : Hid (k = xs.length) := Lib.hid (by omega)
      by_cases h6 : xs.length ≤ 6
      · have h6i : (xs.length : Int) ≤ 6 := by omega
        go_wp2
        go_ret
        refine bb_true HB.out ?_
        rintro (hh | ⟨j, hj, hh⟩)
        · omega
        · have := HM.out j (by rw [HKE.out]; exact hj)
          omega
      · have h6i : ¬ (xs.length : Int) ≤ 6 := by omega
        go_wp2
        go_ret
        exact bb_false HB.out (fun hh => hh (Or.inl (by omega)))

end Go.Proofs.Ythfcadgbipnemaa


namespace Go.Proofs.Ythfcadgbipnemaa
open Go.RowKit

def unitL (d i : Nat) : List Int := (List.range d).map fun q => if q = i then 1 else 0
theorem Tb.but {W W' : World} {g r c b : Nat} {Z : Nat → Nat → Int} (h : Tb W g r c Z) (hb : But b W W') (ho : b < g ∨ g + 1 + r ≤ b) : Tb W' g r c Z :=
  ⟨h.top.of_block (hb.block _ h.top.lt (by omega)), fun j hj => (h.rows j hj).of_block (hb.block _ (h.rows j hj).lt (by omega)), Nat.le_trans h.lt hb.size⟩

end Go.Proofs.Ythfcadgbipnemaa


namespace Go.Proofs.Ythfcadgbipnemaa
open Go.RowKit

theorem unitL_length (d i : Nat) : (unitL d i).length = d := by simp [unitL]
theorem unitL_getD {d i k : Nat} (hk : k < d) : (unitL d i).getD k 0 = if k = i then 1 else 0 := by
  rw [getD_of_lt _ (by rw [unitL_length]; exact hk)]
  simp [unitL]
theorem unitL_ok {p : Int} (hp : 2 ≤ p) (d i : Nat) : ∀ x ∈ unitL d i, 0 ≤ x ∧ x ≤ p - 1 := fun x hx => by
  obtain ⟨q, _, rfl⟩ := List.mem_map.1 hx
  split <;> omega
theorem unit_apOk {p c : Int} {cn d i : Nat} {t : List (List Int)} (hp : IsP p) (hc : c = (cn : Int)) (ht : TabOk p (d : Int) c t) : ApOk p cn (unitL d i) t := by
  refine ⟨hp, ?_, unitL_ok hp.lo d i, fun r hr => by have := ht.2 r hr; rwa [hc] at this⟩
  rw [unitL_length]
  have := ht.1
  omega
theorem unit_apTo {p : Int} {c d i : Nat} {t : List (List Int)} (ok : ApOk p c (unitL d i) t) (hi : i < d) : ∀ k, k ≤ d → ∀ q, q < c → (apTo p c (unitL d i) t k).getD q 0 = if k ≤ i then 0 else (t.getD i []).getD q 0 := by
  intro k
  induction k with
  | zero => intro _ q hq; simp [apTo, hq]
  | succ k ih =>
    intro hk q hq
    have hkl : k < (unitL d i).length := by rw [unitL_length]; omega
    rw [apTo_at ok hkl hq, ih (by omega) q hq, unitL_getD (by omega)]
    have hp := ok.prime.lo
    have hrow := ok.row hkl
    have hil : i < (unitL d i).length := by rw [unitL_length]; omega
    have hri := ok.row hil
    have hb : 0 ≤ (t.getD i []).getD q 0 ∧ (t.getD i []).getD q 0 ≤ p - 1 := by
      have hl : q < (t.getD i []).length := by have := hri.1; omega
      rw [getD_of_lt _ hl]
      exact hri.2 _ (List.getElem_mem hl)
    by_cases e : k = i
    · subst e
      rw [if_pos (Nat.le_refl _), if_pos rfl, if_neg (by omega), Int.zero_add, Int.one_mul]
      exact Int.emod_eq_of_lt hb.1 (by omega)
    · rw [if_neg e, Int.zero_mul, Int.add_zero]
      by_cases e2 : k < i
      · rw [if_pos (by omega), if_pos (by omega), Int.zero_emod]
      · rw [if_neg (by omega), if_neg (by omega)]
        exact Int.emod_eq_of_lt hb.1 (by omega)
theorem unit_apT {p : Int} {c d i : Nat} {t : List (List Int)} (ok : ApOk p c (unitL d i) t) (hi : i < d) : apT p c (unitL d i) t = t.getD i [] := by
  have hil : i < (unitL d i).length := by rw [unitL_length]; omega
  have hri := ok.row hil
  have hl : (apT p c (unitL d i) t).length = c := apTo_length ok (Nat.le_refl _)
  refine List.ext_getElem (by rw [hl]; have := hri.1; omega) fun q h1 h2 => ?_
  have hq : q < c := by omega
  have := unit_apTo ok hi d (Nat.le_refl _) q hq
  rw [if_neg (by omega)] at this
  rw [← getD_of_lt 0 h1, ← getD_of_lt 0 h2, ← this]
  simp only [apT, unitL_length]

end Go.Proofs.Ythfcadgbipnemaa


namespace Go.Proofs.Ythfcadgbipnemaa
open Go.RowKit

section
variable {p : Int} {ds : List Int} {ms : List (List (List Int))}
/-- The table of the differential from a degree. -/
theorem cyc_tab (h : IsCx p ds ms) {i : Nat} (hi : i < ds.length) : TabOk p (ds.getD i 0) (dimZ ds ((i : Int) + (-1))) (cycT ds ms i) := by
  have hd := h.1.dim i
  cases i with
  | zero =>
    have e : dimZ ds (((0 : Nat) : Int) + (-1)) = 0 := dimZ_neg (by omega)
    rw [e, cycT_zero ds ms hi]
    refine ⟨?_, fun r hr => ?_⟩
    · rw [List.length_replicate]
      unfold dimN
      simp only [Int.toNat_natCast]
      omega
    · rw [(List.mem_replicate.1 hr).2]
      exact ⟨rfl, fun x hx => absurd hx (by simp)⟩
  | succ k =>
    have hk : k < ms.length := by have := h.1.mlen; omega
    rw [cycT_succ h hi, show (((k + 1 : Nat) : Int) + (-1)) = (k : Int) by omega, dimZ_in rfl (show k < ds.length by omega), ← getD_of_lt 0 (show k < ds.length by omega)]
    exact h.1.tabs k hk
/-- The differential of a basis vector. -/
def tcX (ds : List Int) (ms : List (List (List Int))) (i a : Nat) : List Int := (cycT ds ms i).getD a []
theorem tcX_ok (h : IsCx p ds ms) {i a ri : Nat} (hi : i < ds.length) (hri : ds.getD i 0 = (ri : Int)) (ha : a < ri) : RowOk p (dimZ ds ((i : Int) + (-1))) (tcX ds ms i a) := by
  have ht := cyc_tab h hi
  have hl : a < (cycT ds ms i).length := by have := ht.1; omega
  unfold tcX
  rw [getD_of_lt _ hl]
  exact ht.2 _ (List.getElem_mem hl)
theorem tcX_len (h : IsCx p ds ms) {i a ri : Nat} (hi : i < ds.length) (hri : ds.getD i 0 = (ri : Int)) (ha : a < ri) : (tcX ds ms i a).length = (dimZ ds ((i : Int) + (-1))).toNat := by
  have := (tcX_ok h hi hri ha).1
  omega
theorem tcX_8 (h : IsCx p ds ms) {i a ri : Nat} (hi : i < ds.length) (hri : ds.getD i 0 = (ri : Int)) (ha : a < ri) : (tcX ds ms i a).length ≤ 8 := by
  rw [tcX_len h hi hri ha]
  have := dimZ_b h ((i : Int) + (-1))
  omega
theorem tcX_zero (h : IsCx p ds ms) {a ri : Nat} (hri : ds.getD 0 0 = (ri : Int)) (ha : a < ri) : tcX ds ms 0 a = [] := by
  have h0 : 0 < ds.length := h.1.len0
  have := tcX_len h h0 hri ha
  rw [dimZ_neg (by omega)] at this
  exact List.eq_nil_of_length_eq_zero this
theorem tc_apT (h : IsCx p ds ms) {i a ri : Nat} (hi : i < ds.length) (hri : ds.getD i 0 = (ri : Int)) (ha : a < ri) : ApOk p (dimZ ds ((i : Int) + (-1))).toNat (unL ri a) (cycT ds ms i) ∧ apT p (dimZ ds ((i : Int) + (-1))).toNat (unL ri a) (cycT ds ms i) = tcX ds ms i a := by
  have ht := cyc_tab h hi
  rw [hri] at ht
  have hz := dimZ_b h ((i : Int) + (-1))
  have ok := unit_apOk (i := a) (cn := (dimZ ds ((i : Int) + (-1))).toNat) h.1.prime (by omega) ht
  exact ⟨ok, unit_apT ok ha⟩
theorem dfL_at {i : Nat} (hi : i < ds.length) : (dfL ds ms).getD i [] = cycT ds ms i := by
  have hl : i < (dfL ds ms).length := by simpa [dfL] using hi
  rw [getD_of_lt _ hl]
  simp [dfL]
/-- The differential's map leads a basis vector to its row. -/
theorem lead_tc (h : IsCx p ds ms) {i a ri : Nat} (hi : i < ds.length) (hri : ds.getD i 0 = (ri : Int)) (ha : a < ri) {dv mv fx uv : Value} {W : World} (hc : Cx 0 W dv mv ds ms) (hf : L3 0 W fx (dfL ds ms)) (hu : L1 0 W uv (unL ri a)) :
    Calls Try.prog 144 #[.agg #[.int .i64 p, dv, mv, .int .i64 (-1), fx], .agg #[.int .i64 (i : Int), uv]] W (LeadR ((i : Int) + (-1)) (tcX ds ms i a) W) := by
  have hl6 := h.1.len1
  have hd := h.1.dim i
  have hz := dimZ_b h ((i : Int) + (-1))
  obtain ⟨ok, e⟩ := tc_apT h hi hri ha
  have hl := lead_any p (-1) i (dimZ ds ((i : Int) + (-1))).toNat dv mv fx uv ds ms (dfL ds ms) (unL ri a) W hc hf hu h (by simpa [dfL] using hi) (by omega) (by omega) (by omega) (by rw [dfL_at hi]; exact ok) (by simp [dfL]; omega) (by rw [unL_length]; omega)
  rwa [dfL_at hi, e] at hl
end
/-- A row of the tensor product's differential. -/
def tcRow (p : Int) (ds : List Int) (ms : List (List (List Int))) (ds2 : List Int) (ms2 : List (List (List Int))) (i a j b c : Nat) : Int :=
  adpZ p (if (i : Int) % 2 = 0 then 1 else p - 1) (plS ds ds2 ((i : Int) + ((j : Int) + (-1))) i) (unL (ds.getD i 0).toNat a) (tcX ds2 ms2 j b) (adpZ p 1 (plS ds ds2 ((i : Int) + (-1) + (j : Int)) (i - 1)) (tcX ds ms i a) (unL (ds2.getD j 0).toNat b) (fun _ => 0) (tcX ds ms i a).length 0) (unL (ds.getD i 0).toNat a).length 0 c
def tcZ (p : Int) (ds : List Int) (ms : List (List (List Int))) (ds2 : List Int) (ms2 : List (List (List Int))) (n k c : Nat) : Int :=
  match (prF (tsA (bsL ds ds.length) (bsL ds2 ds2.length) (bsL ds ds.length).length) (n : Int))[k]? with
  | some q => tcRow p ds ms ds2 ms2 q.1.1.toNat q.1.2.toNat q.2.1.toNat q.2.2.toNat c
  | none => 0
/-- The tensor product's tables. -/
def tcT (p : Int) (ds : List Int) (ms : List (List (List Int))) (ds2 : List Int) (ms2 : List (List (List Int))) (k : Nat) : List (List Int) := tableOf (plS ds ds2 ((k + 1 : Nat) : Int) ds.length) (tdN ds ds2 k).toNat (tcZ p ds ms ds2 ms2 (k + 1))
def tcM (p : Int) (ds : List Int) (ms : List (List (List Int))) (ds2 : List Int) (ms2 : List (List (List Int))) : List (List (List Int)) := (List.range (tdL ds ds2 - 1)).map (tcT p ds ms ds2 ms2)
theorem tcM_length (p : Int) (ds : List Int) (ms : List (List (List Int))) (ds2 : List Int) (ms2 : List (List (List Int))) : (tcM p ds ms ds2 ms2).length = tdL ds ds2 - 1 := by simp [tcM]
def tcOut (p : Int) (ds : List Int) (ms : List (List (List Int))) (ds2 : List Int) (ms2 : List (List (List Int))) : Co := (p, tdD ds ds2, tcM p ds ms ds2 ms2)
theorem td_n {p p2 : Int} {ds : List Int} {ms : List (List (List Int))} {ds2 : List Int} {ms2 : List (List (List Int))} (h : IsCx p ds ms) (h2 : IsCx p2 ds2 ms2) (n : Nat) : tdN ds ds2 n = (plS ds ds2 (n : Int) ds.length : Int) := by
  rw [← tdS_full]
  exact td_pl (fun n => dimZ_b h n) (fun n => dimZ_b h2 n) n ds.length (Nat.le_refl _)
end Go.Proofs.Ythfcadgbipnemaa

