/-
  Spaces of a degree of a complex: spaceAt, boundarySpace, l01Bounds by their contracts.
  Boundaries: impl.mapAt, boundarySpace, BoundariesOf and spec.l01Bounds, BoundariesOf by their contracts.
  The kernel of rows in the reference model: l01Kernel by its contract.
  What annihilates a list of vectors: impl.annihilator by its contract.
  Cycles: impl.cycleSpace, CyclesOf and spec.l01Cycles, CyclesOf by their contracts.
-/
import Derived.Test.YtiokagnolbddlaaP3
import Derived.Test.YtiokagnolbddlaaQf
import Derived.Deep.RegionHeld3
import Derived.Test.YtiokagnolbddlaaQa
import Derived.Test.YtiokagnolbddlaaP2
import Derived.Test.YtiokagnolbddlaaQe
import Derived.Test.YtiokagnolbddlaaEnd
namespace Go.Proofs.Ytiokagnolbddlaa
open Go.RowKit

theorem hloadC (w : World) {b : Nat} {p : Int} {dv mv : Value} (c0 : w.cell? ⟨b, 0, none⟩ = some (.int .i64 p)) (c1 : w.cell? ⟨b, 1, none⟩ = some dv) (c2 : w.cell? ⟨b, 2, none⟩ = some mv) : (Instr.loadAt 38 (.pointer (some ⟨b, 0, none⟩))).run Try.prog w = .ok (.agg #[.int .i64 p, dv, mv]) w := by go_simp

open Classical in
/-- The code of a complex and a degree. -/
noncomputable def cxCode (p : Int) (ds : List Int) (ms : List (List (List Int))) (n : Int) : Int := if IsCx p ds ms then (if 0 ≤ n ∧ n ≤ (ds.length : Int) - 1 then 0 else 2) else 1
theorem cxCode_of {p : Int} {ds : List Int} {ms : List (List (List Int))} {n c : Int} (h : CodeOf p ds ms n c) : c = cxCode p ds ms n := by
  unfold cxCode
  by_cases a : IsCx p ds ms
  · rw [if_pos a]
    by_cases b : 0 ≤ n ∧ n ≤ (ds.length : Int) - 1
    · rw [if_pos b]; exact h.2.2 a b
    · rw [if_neg b]; exact h.2.1 a b
  · rw [if_neg a]; exact h.1 a
theorem cxCode_zero {p : Int} {ds : List Int} {ms : List (List (List Int))} {n : Int} (h : cxCode p ds ms n = 0) : IsCx p ds ms ∧ 0 ≤ n ∧ n ≤ (ds.length : Int) - 1 := by
  unfold cxCode at h
  by_cases a : IsCx p ds ms
  · rw [if_pos a] at h
    by_cases b : 0 ≤ n ∧ n ≤ (ds.length : Int) - 1
    · exact ⟨a, b⟩
    · rw [if_neg b] at h; exact absurd h (by decide)
  · rw [if_neg a] at h; exact absurd h (by decide)
theorem cxCode_ok {p : Int} {ds : List Int} {ms : List (List (List Int))} {n : Int} (a : IsCx p ds ms) (b : 0 ≤ n ∧ n ≤ (ds.length : Int) - 1) : cxCode p ds ms n = 0 := by
  unfold cxCode
  rw [if_pos a, if_pos b]
/-- The dimension of a degree. -/
def dimN (ds : List Int) (n : Int) : Nat := (ds.getD n.toNat 0).toNat

theorem dimN_le (p : Int) (ds : List Int) (ms : List (List (List Int))) (n : Int) : cxCode p ds ms n = 0 → dimN ds n ≤ 1048576 := fun h => by
  have := (cxCode_zero h).1.1.dim n.toNat
  unfold dimN
  omega
/-- What a function on a complex and a degree answers as a list of vectors. -/
def SpF (p : Int) (n : Nat) (S : Lin.V → Prop) (R : List Lin.V) : Prop := Lin.Red p R ∧ (∀ u ∈ R, Lin.Wd n u) ∧ (∀ v, Lin.Sp p R v ↔ S v)
theorem SpF.short {p : Int} {n : Nat} {S : Lin.V → Prop} {R : List Lin.V} (h : SpF p n S R) : R.length ≤ n := red_length h.1 h.2.1

end Go.Proofs.Ytiokagnolbddlaa

namespace Go.Proofs.Ytiokagnolbddlaa
open Go.RowKit

/-- The table from the degree k + 1 to k, none beyond the degrees. -/
def tabN (ms : List (List (List Int))) (k : Nat) : List (List Int) := ms.getD k []
theorem tabN_ok {p : Int} {ds : List Int} {ms : List (List (List Int))} (h : IsCx p ds ms) (k : Nat) : ∀ r ∈ tabN ms k, RowOk p (ds.getD k 0) r := fun r hr => by
  by_cases hk : k < ms.length
  · exact (h.tab hk).2 r hr
  · have e : tabN ms k = [] := by simp [tabN, List.getD, show ms.length ≤ k by omega]
    rw [e] at hr
    cases hr
theorem tabN_len {p : Int} {ds : List Int} {ms : List (List (List Int))} (h : IsCx p ds ms) (k : Nat) : (tabN ms k).length ≤ 8 := by
  by_cases hk : k < ms.length
  · have h1 := (h.tab hk).1
    have := (h.1.dim (k + 1)).2
    have e : tabN ms k = ms.getD k [] := rfl
    rw [e]
    omega
  · have e : tabN ms k = [] := by simp [tabN, List.getD, show ms.length ≤ k by omega]
    rw [e]
    simp
theorem cx_row {p : Int} {ds : List Int} {ms : List (List (List Int))} (h : IsCx p ds ms) {k : Nat} {r : List Int} (hr : RowOk p (ds.getD k 0) r) : r.length = dimN ds (k : Int) ∧ dimN ds (k : Int) ≤ 8 := by
  have := h.1.dim k
  have h1 := hr.1
  unfold dimN
  rw [Int.toNat_natCast]
  omega
theorem vecs_md {p d : Int} {rows : List (List Int)} (hp : 0 < p) (h : ∀ r ∈ rows, RowOk p d r) : ∀ u ∈ rows.map ofL, Lin.Md p u := fun u hu => by
  obtain ⟨r, hr, rfl⟩ := List.mem_map.1 hu
  exact ofL_md hp (h r hr)
theorem vecs_wd {n : Nat} {rows : List (List Int)} (h : ∀ r ∈ rows, r.length = n) : ∀ u ∈ rows.map ofL, Lin.Wd n u := fun u hu => by
  obtain ⟨r, hr, rfl⟩ := List.mem_map.1 hu
  exact ofL_wd (by rw [h r hr]; exact Nat.le_refl _)
theorem rows_toL' {n : Nat} {rows : List (List Int)} (h : ∀ r ∈ rows, r.length = n) : (rows.map ofL).map (toL n) = rows := by
  rw [List.map_map]
  have : ∀ r ∈ rows, (toL n ∘ ofL) r = id r := fun r hr => toL_ofL (h r hr)
  rw [List.map_congr_left this, List.map_id]

end Go.Proofs.Ytiokagnolbddlaa

namespace Go.Proofs.Ytiokagnolbddlaa
open Go.RowKit

/-- append of numbers to a row that the call owns. -/
theorem wpList_appendN {ops : Array Oper} {rest : List Oper} {o : Oper} {a : Act} {w : World} {Q : Exit → Act → World → Prop} (hgd : o.guard = none) (dst : Option Tmp) (hdst : o.dst = dst) (s x : Operand)
    (ho : o.op = .call { callee := .builtin .append, args := #[s, x], argTypes := #[22, 22] }) (base : Nat) (v u : Value) (xs ys : List Int) (hs : a.eval s = v) (hx : a.eval x = u) (hown : Gb base w v xs) (hy : L1 0 w u ys)
    (hl : xs.length + ys.length ≤ 2097152) (hb : base ≤ w.heap.size)
    (h : ∀ v' w', Gb base w' v' (xs ++ ys) → w.grownBy w' v.ownBlock → wpList Try.prog ops Q rest (a.put dst v') w') : wpList Try.prog ops Q (o :: rest) a w := by
  obtain ⟨i, hi, hz, hs1, hb1⟩ := info_parts Try.infoI
  subst hdst
  refine Sl.cases hy (fun ad cap hys hu => ?_) (fun b o' cap hu _ hpos hc => ?_)
  · subst hys hu
    refine Lib.wpList_append_run _ hgd s x _ _ ho _ _ hs hx _ _ (run_append_none' w _ _ _ i Try.underlying22 hi hown ad cap) ?_
    rw [List.append_nil] at h
    exact h v w hown ⟨rfl, rfl, rfl, Nat.le_refl _, fun _ _ _ => rfl⟩
  · subst hu
    refine wpList_append_own w hgd s x 22 ho base 2 i _ 1 8 Try.underlying22 hi hz hs1 hb1 rfl (by decide) v xs.length (xs.map (Value.int .i64)) hs hown ⟨b, o', none⟩ ys.length cap (ys.map (Value.int .i64)) hx (by simp) ?_ ?_ (by unfold maxLen; omega) (by omega) hb (fun v' w' h1 h2 _ => h v' w' ?_ h2)
    · intro j y hj
      have hj' : j < ys.length := by have := (List.getElem?_eq_some_iff.1 hj).1; simpa using this
      obtain ⟨u2, h2, h3⟩ := hc j hj'
      rw [Addr.add_lit, h2, h3]
      simp [hj'] at hj
      rw [hj]
    · intro y hy2
      obtain ⟨z, _, rfl⟩ := List.mem_map.1 hy2
      rfl
    · unfold Gb
      rw [List.length_append, List.map_append]
      exact h1
theorem Gs.lt {base : Nat} {w : World} {v : Value} {tb : List (List Int)} (h : Gs base w v tb) : ∀ k, v.ownBlock = some k → base ≤ k ∧ k < w.heap.size := by
  obtain ⟨vs, ho, _⟩ := h
  exact World.ownsRow.lt ho
theorem Gs.row {base : Nat} {w : World} {u : Value} {tb : List (List Int)} (h : Gs base w u tb) {k : Nat} (hk : k < tb.length) (hpos : 0 < (tb[k]).length) :
    ∃ b c, u = .slice (some ⟨b, 0, none⟩) tb.length c ∧ ∃ g cap, w.cell? ⟨b, k, none⟩ = some (.slice (some ⟨g, 0, none⟩) (tb[k]).length cap) ∧ (tb[k]).length ≤ cap ∧ G1 w (.slice (some ⟨g, 0, none⟩) (tb[k]).length cap) tb[k] := by
  obtain ⟨vs, ho, hr⟩ := h
  obtain ⟨b, c, rfl, _, _⟩ := World.ownsRow.form ho (by omega)
  have hvl : vs.length = tb.length := by have := ho.1; omega
  have hg := hr k (by omega) hk
  obtain ⟨g, cap, hv, _, _⟩ := World.ownsRow.form hg hpos
  refine ⟨b, c, rfl, g, cap, ?_, ?_, by rw [← hv]; exact hg⟩
  · rw [World.ownsRow.cellAt ho k (by omega), List.getElem?_eq_getElem (by omega), hv]
  · rw [hv] at hg
    rcases hg.2 with ⟨h0, _⟩ | ⟨g', cap', cur, h0, _, _, hnc, _⟩
    · cases h0
    · injection h0 with _ _ e3
      omega
/-- append of one row to a table that the call gathers. -/
theorem wpList_appendG {ops : Array Oper} {rest : List Oper} {o : Oper} {a : Act} {w : World} {Q : Exit → Act → World → Prop} (hgd : o.guard = none) (dst : Option Tmp) (hdst : o.dst = dst) (s x : Operand)
    (ho : o.op = .call { callee := .builtin .append, args := #[s, x], argTypes := #[44, 44] }) (base : Nat) (v : Value) (tb : List (List Int)) (hs : a.eval s = v) (hown : Gs base w v tb)
    (b : Nat) (hx : a.eval x = .slice (some ⟨b, 0, none⟩) 1 1) (ar : Option Addr) (nr cr : Nat) (hc : w.cell? ⟨b, 0, none⟩ = some (.slice ar nr cr)) (y : List Int) (hy : G1 w (.slice ar nr cr) y) (hl : tb.length ≤ 2097151) (hb : base ≤ w.heap.size)
    (h : ∀ v' w', Gs base w' v' (tb ++ [y]) → w.grownBy w' v.ownBlock → wpList Try.prog ops Q rest (a.put dst v') w') : wpList Try.prog ops Q (o :: rest) a w := by
  obtain ⟨i, hi, hz, hs1, hb1⟩ := info_parts Try.infoS
  obtain ⟨vs, hvo, hvr⟩ := hown
  subst hdst
  refine wpList_append_own w hgd s x 44 ho base 22 i _ 1 24 Try.underlying44 hi hz hs1 hb1 rfl (by decide) v tb.length vs hs hvo ⟨b, 0, none⟩ 1 1 [.slice ar nr cr] hx rfl ?_ ?_ (by unfold maxLen; omega) (by omega) hb (fun v' w' h1 h2 _ => h v' w' (Gs.push hvo hvr hy h1 h2) h2)
  · intro j u hj
    match j, hj with
    | 0, hj =>
      simp at hj
      subst hj
      exact hc
  · intro u hu
    simp at hu
    subst hu
    rfl

/-- The vectors of n numbers that all columns of a table annihilate. -/
def CycS (p : Int) (n m : Nat) (t : List (List Int)) (v : Lin.V) : Prop := Lin.Md p v ∧ Lin.Wd n v ∧ ∀ j, j < m → Lin.dot n (Lin.col (fun i => ofL (t.getD i [])) j) v % p = 0
def unitV (k : Nat) : Lin.V := fun i => if i = k then 1 else 0
theorem long_toL {m n k : Nat} (r : Lin.V) : toL m r ++ toL n (unitV k) = toL (m + n) (Lin.long m r k) := by
  refine List.ext_getElem (by simp [toL_length]) fun i h1 h2 => ?_
  rw [toL_get]
  by_cases h : i < m
  · rw [List.getElem_append_left (by rw [toL_length]; exact h), toL_get]
    simp [Lin.long, h]
  · rw [List.getElem_append_right (by rw [toL_length]; omega), toL_get]
    simp only [toL_length, unitV, Lin.long, if_neg h]
    by_cases e : i = m + k
    · rw [if_pos e, if_pos (by omega)]
    · rw [if_neg e, if_neg (by omega)]
/-- The first k long rows. -/
def longs (m : Nat) (t : List (List Int)) (k : Nat) : List Lin.V := (List.range k).map fun i => Lin.long m (ofL (t.getD i [])) i
theorem longs_succ (m : Nat) (t : List (List Int)) (k : Nat) : longs m t (k + 1) = longs m t k ++ [Lin.long m (ofL (t.getD k [])) k] := by simp [longs, List.range_succ]
theorem longs_length (m : Nat) (t : List (List Int)) (k : Nat) : (longs m t k).length = k := by simp [longs]
theorem longs_mem (m n : Nat) (t : List (List Int)) : Lin.Longs m n (fun i => ofL (t.getD i [])) (longs m t n) := ⟨fun y => by
  simp only [longs, List.mem_map, List.mem_range]
  exact ⟨fun ⟨i, hi, e⟩ => ⟨i, hi, e.symm⟩, fun ⟨i, hi, e⟩ => ⟨i, hi, e.symm⟩⟩⟩
theorem longs_wd {m n : Nat} {t : List (List Int)} : ∀ y ∈ longs m t n, Lin.Wd (m + n) y := fun y hy => by
  obtain ⟨i, hi, rfl⟩ := ((longs_mem m n t).mem y).1 hy
  intro j hj
  simp [Lin.long, show ¬ j < m by omega, show ¬ j = m + i by omega]
/-- The rows whose leads stand behind m, cut. -/
noncomputable def cuts (m : Nat) (E : List Lin.V) : List Lin.V := (E.filter fun y => decide (m ≤ Lin.ld y)).map (Lin.tail m)
theorem cuts_cut {p : Int} {m : Nat} {E : List Lin.V} (hE : Lin.Red p E) : Lin.Cut p m E (cuts m E) := by
  refine ⟨fun x => ?_, ?_⟩
  · simp only [cuts, List.mem_map, List.mem_filter, decide_eq_true_eq]
    exact ⟨fun ⟨y, ⟨h1, h2⟩, e⟩ => ⟨y, h1, h2, e.symm⟩, fun ⟨y, h1, h2, e⟩ => ⟨y, ⟨h1, h2⟩, e.symm⟩⟩
  · unfold cuts
    rw [List.pairwise_map]
    refine List.Pairwise.imp_of_mem (fun {a b} ha hb h => ?_) (hE.inc.filter _)
    obtain ⟨ha1, ha2⟩ := List.mem_filter.1 ha
    obtain ⟨hb1, hb2⟩ := List.mem_filter.1 hb
    have ha3 : m ≤ Lin.ld a := by simpa using ha2
    have hb3 : m ≤ Lin.ld b := by simpa using hb2
    rw [(Lin.cut_ld hE ha1 ha3).2.1, (Lin.cut_ld hE hb1 hb3).2.1]
    omega
theorem cuts_keep {m : Nat} {E : List Lin.V} {k : Nat} (hk : k < E.length) (h : m ≤ Lin.ld E[k]) : cuts m (E.take (k + 1)) = cuts m (E.take k) ++ [Lin.tail m E[k]] := by
  unfold cuts
  rw [List.take_succ_eq_append_getElem hk, List.filter_append, List.map_append, List.filter_cons_of_pos (by simpa using h)]
  rfl
theorem cuts_skip {m : Nat} {E : List Lin.V} {k : Nat} (hk : k < E.length) (h : ¬ m ≤ Lin.ld E[k]) : cuts m (E.take (k + 1)) = cuts m (E.take k) := by
  unfold cuts
  rw [List.take_succ_eq_append_getElem hk, List.filter_append, List.map_append, List.filter_cons_of_neg (by simpa using h)]
  simp
theorem cuts_length (m : Nat) (E : List Lin.V) : (cuts m E).length ≤ E.length := by
  unfold cuts
  rw [List.length_map]
  exact List.length_filter_le _ _
/-- What the model's kernel answers. -/
theorem kernel_spf {p : Int} (hp : 1 < p) {m n : Nat} {t : List (List Int)} {E : List Lin.V} (h : RedN p (m + n) E (longs m t n)) : SpF p n (CycS p n m t) (cuts m E) := by
  have hc := cuts_cut (m := m) h.red
  refine ⟨hc.red h.red, fun u hu => ?_, fun x => hc.ker hp h.red (longs_mem m n t) h.eqv x⟩
  obtain ⟨y, hy, _, rfl⟩ := (hc.mem u).1 hu
  intro i hi
  exact h.wd y hy _ (by omega)

theorem unit_row (w : World) {n k : Nat} (hk : k < n) : (w.alloc (.cells ((madeCells #[.int .i64 0] n).setIfInBounds k (.int .i64 1)) 2)).rowIs w.heap.size 2 n (fun i => .int .i64 (unitV k i)) := by
  refine ⟨_, heap_alloc_new w _, by simp [size_madeCells], fun i hi => ?_⟩
  rw [Array.getElem?_setIfInBounds]
  unfold unitV
  by_cases e : k = i
  · subst e
    simp [size_madeCells, hk]
  · have e2 : ¬ i = k := fun h => e h.symm
    simp [e, e2, madeCells, hi, Nat.mod_one]
def KerR (p : Int) (n m : Nat) (t : List (List Int)) (w : World) (e : Ending) (w' : World) : Prop :=
  ∃ (u : Value) (R : List Lin.V), e = .returned u ∧ Gs w.heap.size w' u (R.map (toL n)) ∧ Below w.heap.size w w' ∧ SpF p n (CycS p n m t) R

end Go.Proofs.Ytiokagnolbddlaa

namespace Go.Proofs.Ytiokagnolbddlaa
open Go.RowKit

def bl : List Value := List.replicate 40 (.bool false)
theorem bl_length : bl.length = 40 := by simp [bl]
theorem hremI {a b : Int} (h0 : 0 ≤ a) (h1 : 0 < b) (h2 : b ≤ 1000) (w : World) : (binOp .rem 2 (.int .i64 a) (.int .i64 b)).run Try.prog w = .ok (.int .i64 (a % b)) w := by
  have hb : ¬ b = 0 := by omega
  have hb1 : ¬ b = -1 := by omega
  go_simp
  rw [Int.tmod_eq_emod_of_nonneg h0]
theorem hstoreI (w : World) {b o : Nat} {u : Value} (x : Int) (hc : w.cell? ⟨b, o, none⟩ = some u) (hf : w.frozen? ⟨b, o, none⟩ = false) : (Instr.storeAt 2 (.pointer (some ⟨b, o, none⟩)) (.int .i64 x)).run Try.prog w = .ok () (w.setCell ⟨b, o, none⟩ (.int .i64 x)) := by go_simp
section
variable {md : Region.Mode} {ops : Array Oper} {Q : Exit → Act → World → Prop} {S : World → Prop}
/-- A store of one number. -/
theorem held_storeI {i : Nat} {oi : Oper} {fuel : Nat} {listed : Array Bool} {a : Act} {w : World} (hr : Region.ready md ops listed = [i]) (hi : ops[i]? = some oi) (hg : oi.guard = none) (hd : oi.dst = none)
    (x y : Operand) (ho : oi.op = .store 2 x y) (b o : Nat) (z : Int) (u : Value) (hx : a.eval x = .pointer (some ⟨b, o, none⟩)) (hy : a.eval y = .int .i64 z) (hc : w.cell? ⟨b, o, none⟩ = some u) (hf : w.frozen? ⟨b, o, none⟩ = false)
    (h : S (w.setCell ⟨b, o, none⟩ (.int .i64 z)) ∧ wpAnyH Try.prog md ops Q S fuel (listed.setIfInBounds i true) a (w.setCell ⟨b, o, none⟩ (.int .i64 z))) : wpAnyH Try.prog md ops Q S (fuel + 1) listed a w :=
  held_call hr hi hg (by
    have e : a.put oi.dst undef = a := by rw [hd]; rfl
    rw [← e] at h
    unfold Oper.wp execOp
    simp only [ho, hx, hy, Sem.run_bind, Sem.run_pure, hstoreI w z hc hf, Result.andThen_ok]
    exact h)
end

open Classical in
/-- Whether a place is a lead of the first k rows. -/
noncomputable def isLd (R : List Lin.V) (k i : Nat) : Bool := decide (∃ w ∈ R.take k, Lin.ld w = i)
theorem isLd_true {R : List Lin.V} {i : Nat} (h : isLd R R.length i = true) : ¬ Lin.Free R i := fun hf => by
  obtain ⟨w, hw, e⟩ := of_decide_eq_true h
  rw [List.take_of_length_le (Nat.le_refl _)] at hw
  exact hf w hw e
theorem isLd_false {R : List Lin.V} {i : Nat} (h : isLd R R.length i = false) : Lin.Free R i := fun w hw e => by
  have := of_decide_eq_false h
  exact this ⟨w, by rw [List.take_of_length_le (Nat.le_refl _)]; exact hw, e⟩
theorem isLd_succ {R : List Lin.V} {k : Nat} (hk : k < R.length) (i : Nat) : isLd R (k + 1) i = if i = Lin.ld R[k] then true else isLd R k i := by
  unfold isLd
  rw [List.take_succ_eq_append_getElem hk]
  by_cases e : i = Lin.ld R[k]
  · rw [if_pos e]
    exact decide_eq_true ⟨R[k], List.mem_append_right _ (List.mem_singleton.2 rfl), e.symm⟩
  · rw [if_neg e]
    refine decide_eq_decide.2 ⟨fun ⟨w, hw, h⟩ => ?_, fun ⟨w, hw, h⟩ => ⟨w, List.mem_append_left _ hw, h⟩⟩
    rcases List.mem_append.1 hw with h1 | h1
    · exact ⟨w, h1, h⟩
    · rw [List.mem_singleton.1 h1] at h
      exact absurd h.symm e

/-- The solutions gathered from the places before f. -/
structure Sols (p : Int) (R : List Lin.V) (f : Nat) (L : List Lin.V) : Prop where
  all : ∀ g, g < f → Lin.Free R g → ∃ s ∈ L, Lin.Sol p R g s
  only : ∀ s ∈ L, ∃ g, g < f ∧ Lin.Free R g ∧ Lin.Sol p R g s
  len : L.length ≤ f
theorem Sols.nil (p : Int) (R : List Lin.V) : Sols p R 0 [] := ⟨fun g h => absurd h (Nat.not_lt_zero _), by simp, by simp⟩
theorem Sols.skip {p : Int} {R : List Lin.V} {f : Nat} {L : List Lin.V} (h : Sols p R f L) (hf : ¬ Lin.Free R f) : Sols p R (f + 1) L :=
  ⟨fun g hg hfr => by
    by_cases e : g = f
    · subst e; exact absurd hfr hf
    · exact h.all g (by omega) hfr, fun s hs => by obtain ⟨g, h1, h2⟩ := h.only s hs; exact ⟨g, by omega, h2⟩, by have := h.len; omega⟩
theorem Sols.add {p : Int} {R : List Lin.V} {f : Nat} {L : List Lin.V} (h : Sols p R f L) (hf : Lin.Free R f) {s : Lin.V} (hs : Lin.Sol p R f s) : Sols p R (f + 1) (L ++ [s]) :=
  ⟨fun g hg hfr => by
    by_cases e : g = f
    · subst e; exact ⟨s, by simp, hs⟩
    · obtain ⟨t, ht, h2⟩ := h.all g (by omega) hfr
      exact ⟨t, by simp [ht], h2⟩, fun t ht => by
    rcases List.mem_append.1 ht with h1 | h1
    · obtain ⟨g, h2, h3⟩ := h.only t h1; exact ⟨g, by omega, h3⟩
    · rw [List.mem_singleton.1 h1]; exact ⟨f, by omega, hf, hs⟩, by have := h.len; simp; omega⟩
theorem sol_wd {p : Int} {R : List Lin.V} {n f : Nat} {s : Lin.V} (hR : Lin.Red p R) (hw : ∀ u ∈ R, Lin.Wd n u) (hf : f < n) (h : Lin.Sol p R f s) : Lin.Wd n s := fun i hi => h.rest i (by omega) (fun w hww e => by
  have := (ld_ltn (hw w hww) (hR.ne hww)).1
  omega)
/-- A solution while it is made: k rows have been seen. -/
structure SolTo (p : Int) (R : List Lin.V) (f k : Nat) (s : Lin.V) : Prop where
  at1 : s f = 1
  lead : ∀ w ∈ R.take k, s (Lin.ld w) = (p - w f) % p
  rest : ∀ i, i ≠ f → (∀ w ∈ R.take k, Lin.ld w ≠ i) → s i = 0
theorem SolTo.start (p : Int) (R : List Lin.V) (f : Nat) : SolTo p R f 0 (fun i => if i = f then 1 else Lin.zv i) := ⟨by simp, by simp, fun i h _ => by simp [h, Lin.zv]⟩
theorem SolTo.step {p : Int} {R : List Lin.V} {f k : Nat} {s : Lin.V} (hR : Lin.Red p R) (hf : Lin.Free R f) (h : SolTo p R f k s) (hk : k < R.length) : SolTo p R f (k + 1) (fun i => if i = Lin.ld R[k] then (p - R[k] f) % p else s i) := by
  have hne : ∀ w ∈ R.take k, Lin.ld w ≠ Lin.ld R[k] := fun w hw e => by
    obtain ⟨j, hj, rfl⟩ := List.getElem_of_mem hw
    have hjk : j < k := by simp at hj; omega
    have := List.pairwise_iff_getElem.1 hR.inc j k (by omega) hk hjk
    rw [List.getElem_take] at e
    omega
  refine ⟨?_, fun w hw => ?_, fun i hi hn => ?_⟩
  · rw [if_neg (fun e => hf _ (List.getElem_mem hk) e.symm)]
    exact h.at1
  · rw [List.take_succ_eq_append_getElem hk] at hw
    rcases List.mem_append.1 hw with h1 | h1
    · rw [if_neg (hne w h1)]
      exact h.lead w h1
    · rw [List.mem_singleton.1 h1, if_pos rfl]
  · have hn2 := hn R[k] (by rw [List.take_succ_eq_append_getElem hk]; exact List.mem_append_right _ (List.mem_singleton.2 rfl))
    rw [if_neg (fun e => hn2 e.symm)]
    exact h.rest i hi (fun w hw => hn w (by rw [List.take_succ_eq_append_getElem hk]; exact List.mem_append_left _ hw))
theorem SolTo.done {p : Int} {R : List Lin.V} {f : Nat} {s : Lin.V} (h : SolTo p R f R.length s) : Lin.Sol p R f s := by
  have e : R.take R.length = R := List.take_of_length_le (Nat.le_refl _)
  exact ⟨h.at1, fun w hw => h.lead w (by rw [e]; exact hw), fun i hi hn => h.rest i hi (fun w hw => hn w (by rw [e] at hw; exact hw))⟩

end Go.Proofs.Ytiokagnolbddlaa

namespace Go.Proofs.Ytiokagnolbddlaa
open Go.RowKit

theorem hloadT (w : World) {b o : Nat} {x : Value} (h : w.cell? ⟨b, o, none⟩ = some x) : (Instr.loadAt 44 (.pointer (some ⟨b, o, none⟩))).run Try.prog w = .ok x w := by go_simp
theorem hloadU (w : World) {b o : Nat} {x : Value} (h : w.cell? ⟨b, o, none⟩ = some x) : (Instr.loadAt 23 (.pointer (some ⟨b, o, none⟩))).run Try.prog w = .ok x w := by go_simp
theorem hidxU (b o : Nat) {k n : Nat} (cap : Nat) (hk : k < n) (w : World) : (Instr.indexAt 23 (.slice (some ⟨b, o, none⟩) n cap) (.int .i64 k)).run Try.prog w = .ok (.pointer (some ⟨b, o + k, none⟩)) w := by
  have h2 : (0 : Int) ≤ (k : Int) := by omega
  have h3 : (k : Int) < (n : Int) := by omega
  go_simp

/-- The table whose columns the cycles of a degree annihilate, and its width. -/
def cycT (ds : List Int) (ms : List (List (List Int))) (q : Nat) : List (List Int) := mapZ ds ms (q : Int)
def cycM (ds : List Int) (q : Nat) : Nat := if q = 0 then 0 else dimN ds ((q - 1 : Nat) : Int)
theorem dimN_le8 {p : Int} {ds : List Int} {ms : List (List (List Int))} (h : IsCx p ds ms) (q : Nat) : dimN ds (q : Int) ≤ 8 ∧ ds.getD q 0 = (dimN ds (q : Int) : Int) := by
  have := h.1.dim q
  unfold dimN
  rw [Int.toNat_natCast]
  omega
theorem cyc_ok {p : Int} {ds : List Int} {ms : List (List (List Int))} (h : IsCx p ds ms) {q : Nat} (hq : q < ds.length) :
    (cycT ds ms q).length = dimN ds (q : Int) ∧ (∀ r ∈ cycT ds ms q, RowOk p (cycM ds q : Int) r) ∧ cycM ds q ≤ 8 := by
  have hd := dimN_le8 h q
  by_cases h0 : q = 0
  · subst h0
    have e : cycT ds ms 0 = List.replicate (dimN ds ((0 : Nat) : Int)) [] := by
      unfold cycT mapZ
      rw [if_neg (by omega)]
      have : dimZ ds ((0 : Nat) : Int) = ds.getD 0 0 := by
        unfold dimZ
        rw [if_pos (by omega)]
        rfl
      rw [this]
      rfl
    rw [e]
    refine ⟨List.length_replicate, fun r hr => ?_, by simp [cycM]⟩
    rw [List.eq_of_mem_replicate hr]
    exact ⟨by simp [cycM], by simp⟩
  · obtain ⟨k, rfl⟩ : ∃ k, q = k + 1 := ⟨q - 1, by omega⟩
    have hml := h.1.mlen
    have hkm : k < ms.length := by omega
    have e : cycT ds ms (k + 1) = tabN ms k := by
      unfold cycT mapZ tabN
      rw [if_pos (by omega), show (((k + 1 : Nat) : Int)).toNat - 1 = k by omega]
    have hk := dimN_le8 h k
    have ht := h.tab hkm
    have e2 : cycM ds (k + 1) = dimN ds (k : Int) := by simp [cycM]
    rw [e, e2]
    refine ⟨by have := ht.1; have e3 : tabN ms k = ms.getD k [] := rfl; rw [e3]; omega, fun r hr => by rw [← hk.2]; exact ht.2 r hr, hk.1⟩
theorem cycT_succ {p : Int} {ds : List Int} {ms : List (List (List Int))} (h : IsCx p ds ms) {k : Nat} (hq : k + 1 < ds.length) : cycT ds ms (k + 1) = tabN ms k := by
  have hml := h.1.mlen
  unfold cycT mapZ tabN
  rw [if_pos (by omega), show (((k + 1 : Nat) : Int)).toNat - 1 = k by omega]
/-- The columns as vectors. -/
theorem ker_cols {p : Int} {d c : Nat} {t : List (List Int)} (htl : t.length = d) (v : Lin.V) : Lin.Ker p d ((flipT c t).map ofL) v ↔ CycS p d c t v := by
  have key : ∀ j, j < c → Lin.dot d (ofL ((List.range t.length).map fun i => (t.getD i []).getD j 0)) v = Lin.dot d (Lin.col (fun i => ofL (t.getD i [])) j) v := fun j _ => Lin.dot_congr (fun i hi => by
    have : ofL ((List.range t.length).map fun i => (t.getD i []).getD j 0) i = (t.getD i []).getD j 0 := by
      rw [ofL_at (by simp; omega)]
      simp
    rw [this]
    rfl)
  constructor
  · intro h
    refine ⟨h.md, h.wd, fun j hj => ?_⟩
    rw [← key j hj]
    exact h.ann _ (List.mem_map.2 ⟨_, List.mem_map.2 ⟨j, List.mem_range.2 hj, rfl⟩, rfl⟩)
  · rintro ⟨h1, h2, h3⟩
    refine ⟨h1, h2, fun r hr => ?_⟩
    obtain ⟨row, hrow, rfl⟩ := List.mem_map.1 hr
    obtain ⟨j, hj, rfl⟩ := List.mem_map.1 hrow
    have hj' := List.mem_range.1 hj
    rw [key j hj']
    exact h3 j hj'
theorem ker_none {p : Int} {d : Nat} {t : List (List Int)} (v : Lin.V) : Lin.Ker p d [] v ↔ CycS p d 0 t v :=
  ⟨fun h => ⟨h.md, h.wd, fun j hj => absurd hj (Nat.not_lt_zero _)⟩, fun h => ⟨h.1, h.2.1, by simp⟩⟩
theorem SpF.congr {p : Int} {n : Nat} {S S' : Lin.V → Prop} {R : List Lin.V} (h : SpF p n S R) (e : ∀ v, S v ↔ S' v) : SpF p n S' R := ⟨h.1, h.2.1, fun v => (h.2.2 v).trans (e v)⟩
theorem flip_row {p : Int} {c : Nat} {t : List (List Int)} (h : ∀ r ∈ t, RowOk p (c : Int) r) : ∀ r ∈ flipT c t, RowOk p (t.length : Int) r := fun r hr => by
  obtain ⟨j, hj, rfl⟩ := List.mem_map.1 hr
  have hj' := List.mem_range.1 hj
  refine ⟨by simp, fun x hx => ?_⟩
  obtain ⟨i, hi, rfl⟩ := List.mem_map.1 hx
  have hi' := List.mem_range.1 hi
  have hro := h _ (List.getElem_mem hi')
  show 0 ≤ (t.getD i []).getD j 0 ∧ (t.getD i []).getD j 0 ≤ p - 1
  rw [getD_of_lt _ hi']
  have hl : j < (t[i]).length := by have := hro.1; omega
  rw [getD_of_lt _ hl]
  exact hro.2 _ (List.getElem_mem hl)

/-- A table as an answer. -/
def DtR (t : List (List Int)) (w : World) (e : Ending) (w' : World) : Prop := ∃ v, e = .returned v ∧ L2 0 w' v t ∧ Below w.heap.size w w'
theorem cycT_zero (ds : List Int) (ms : List (List (List Int))) (h0 : 0 < ds.length) : cycT ds ms 0 = List.replicate (dimN ds ((0 : Nat) : Int)) [] := by
  unfold cycT mapZ
  rw [if_neg (by omega)]
  have : dimZ ds ((0 : Nat) : Int) = ds.getD 0 0 := by
    unfold dimZ
    rw [if_pos (by omega)]
    rfl
  rw [this]
  rfl
theorem tableOf_none (d : Nat) (Z : Nat → Nat → Int) : tableOf d 0 Z = List.replicate d [] := by simp [tableOf, List.map_const']
theorem cycM_dimZ {p : Int} {ds : List Int} {ms : List (List (List Int))} (h : IsCx p ds ms) {q : Nat} (hq : q < ds.length) : dimZ ds ((q : Int) - 1) = (cycM ds q : Int) := by
  by_cases h0 : q = 0
  · subst h0
    unfold dimZ cycM
    rw [if_neg (by omega), if_pos rfl]
    rfl
  · obtain ⟨k, rfl⟩ : ∃ k, q = k + 1 := ⟨q - 1, by omega⟩
    unfold cycM
    rw [if_neg h0, show ((k + 1 : Nat) : Int) - 1 = (k : Int) by omega, show k + 1 - 1 = k from rfl, ← (dimN_le8 h k).2]
    unfold dimZ
    rw [if_pos (by omega), Int.toNat_natCast]

set_option maxHeartbeats 1600000 in
set_option maxRecDepth 100000 in
theorem differentialTable_any (p : Int) (q : Nat) (dv mv : Value) (ds : List Int) (ms : List (List (List Int))) (w : World) (h : Cx 0 w dv mv ds ms) (hcx : IsCx p ds ms) (hq : q < ds.length) :
    Calls Try.prog 173 #[.agg #[.int .i64 p, dv, mv], .int .i64 q] w (DtR (cycT ds ms q) w) := by
  have HX0 := Lib.hid (Bx.start (p := p) 38 h)
  have HCX := Lib.hid hcx
  have hml := hcx.1.mlen
  have hl6 := hcx.1.len1
  refine Sl.cases HX0.out.cx.dims (fun _ _ hx _ => absurd hq (by simp [hx])) (fun bd od capd hvd _ _ hcld => ?_)
  subst hvd
  have c0 := HX0.out.c0
  have c1 := HX0.out.c1
  have c2 := HX0.out.c2
  by_cases hq0 : q = 0
  · subst hq0
    obtain ⟨ud, hud, hrd⟩ := hcld 0 hq
    obtain ⟨d, hd⟩ : ∃ d, d = dimN ds ((0 : Nat) : Int) := ⟨_, rfl⟩
    have hd8 : d ≤ 8 := by rw [hd]; exact (dimN_le8 hcx 0).1
    have hcel : (w.alloc (.cells #[.int .i64 p, .slice (some ⟨bd, od, none⟩) ds.length capd, mv] 38)).cell? ⟨bd, od, none⟩ = some (.int .i64 (d : Int)) := by
      rw [Nat.add_zero] at hud
      rw [hud, hrd, ← getD_of_lt 0 hq, (dimN_le8 hcx 0).2, hd]
    have HDT : Hid (tableOf d 0 (fun _ _ => 0) = cycT ds ms 0) := Lib.hid (by rw [cycT_zero ds ms hq, tableOf_none, hd])
    have hlen : (0 : Int) < (ds.length : Int) := by omega
    clear h hcx hcld hud hrd hd
    go_enter Try.func173, Try.ntmps173
    go_wp2_with fail
    refine (zeroTable_any d 0 _ (by omega) (by omega)).mono ?_
    rintro e w1 ⟨rfl, hm1⟩
    have HM1 := Lib.hid hm1
    clear hm1 hcel c0 c1 c2
    go_wp2
    go_ret
    refine ⟨.slice (some ⟨w.heap.size + 1, 0, none⟩) d d, rfl, ?_, HX0.out.below.trans (HM1.out.below.mono HX0.out.below.size)⟩
    have hh := HM1.out.w2.l2.lower (Nat.zero_le _)
    rw [HDT.out] at hh
    simpa using hh
  · obtain ⟨k, rfl⟩ : ∃ k, q = k + 1 := ⟨q - 1, by omega⟩
    have hkm : k < ms.length := by omega
    refine Sl.cases HX0.out.cx.maps (fun _ _ hx _ => absurd hkm (by simp [hx])) (fun bm om capm hvm _ _ hclm => ?_)
    subst hvm
    obtain ⟨um, hum, hrm⟩ := hclm k hkm
    have HTE : Hid (cycT ds ms (k + 1) = tabN ms k) := Lib.hid (cycT_succ hcx hq)
    have HRM : Hid (L2 0 (w.alloc (.cells #[.int .i64 p, .slice (some ⟨bd, od, none⟩) ds.length capd, .slice (some ⟨bm, om, none⟩) ms.length capm] 38)) um (tabN ms k)) := Lib.hid (by unfold tabN; rw [getD_of_lt _ hkm]; exact hrm)
    have hne : (((k + 1 : Nat) : Int) == 0) = false := by
      have : ¬ ((k + 1 : Nat) : Int) = 0 := by omega
      simpa using this
    have hne2 : ¬ ((k : Int) + 1 = 0) := by omega
    have hwr : IntKind.i64.wrap (((k + 1 : Nat) : Int) - 1) = (k : Int) := by rw [show ((k + 1 : Nat) : Int) - 1 = (k : Int) by omega]; exact IntWalk.i64_in _ (by omega)
    have hsub : ((k : Int) + 1) - 1 = (k : Int) := by omega
    have hlt : (k : Int) < (ms.length : Int) := by omega
    clear h hcx hclm hcld hrm hq0
    go_enter Try.func173, Try.ntmps173
    go_wp2
    go_ret
    exact ⟨_, rfl, by rw [HTE.out]; exact HRM.out, HX0.out.below⟩

/-- The cycles of a degree. -/
def CycD (p : Int) (ds : List Int) (ms : List (List (List Int))) (n : Int) : Lin.V → Prop := CycS p (dimN ds n) (cycM ds n.toNat) (cycT ds ms n.toNat)
end Go.Proofs.Ytiokagnolbddlaa
