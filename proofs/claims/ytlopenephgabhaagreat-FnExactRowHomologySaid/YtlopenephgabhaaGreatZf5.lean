/-
  Texts that ProofRhl needs, part 5.
-/
import Derived.Test.YtlopenephgabhaaGreatZf4
import Derived.Deep.RegionHeld3
import Derived.Lib.AppendZerosOnto
import Derived.Maps.AppendAt
import Derived.BigRegion
import Derived.Deep.Cut
import Derived.Deep.CutRange
import Derived.StillTailTactics
import Derived.Deep.AppendLies
import Derived.Laws.EntriesVeiled
namespace Go.Proofs.YtlopenephgabhaaGreat
open Go.RowKit

theorem hloadC (w : World) {b : Nat} {p : Int} {dv mv : Value} (c0 : w.cell? ⟨b, 0, none⟩ = some (.int .i64 p)) (c1 : w.cell? ⟨b, 1, none⟩ = some dv) (c2 : w.cell? ⟨b, 2, none⟩ = some mv) : (Instr.loadAt 66 (.pointer (some ⟨b, 0, none⟩))).run Tryz.prog w = .ok (.agg #[.int .i64 p, dv, mv]) w := by go_simp

/-- The dimension of a degree. -/
def dimN (ds : List Int) (n : Int) : Nat := (ds.getD n.toNat 0).toNat

/-- What a function on a complex and a degree answers as a list of vectors. -/
def SpF (p : Int) (n : Nat) (S : Lin.V → Prop) (R : List Lin.V) : Prop := Lin.Red p R ∧ (∀ u ∈ R, Lin.Wd n u) ∧ (∀ v, Lin.Sp p R v ↔ S v)
theorem SpF.short {p : Int} {n : Nat} {S : Lin.V → Prop} {R : List Lin.V} (h : SpF p n S R) : R.length ≤ n := red_length h.1 h.2.1

end Go.Proofs.YtlopenephgabhaaGreat

namespace Go.Proofs.YtlopenephgabhaaGreat
open Go.RowKit

/-- The table from the degree k + 1 to k, none beyond the degrees. -/
def tabN (ms : List (List (List Int))) (k : Nat) : List (List Int) := ms.getD k []
theorem tabN_ok {p : Int} {ds : List Int} {ms : List (List (List Int))} (h : IsCx p ds ms) (k : Nat) : ∀ r ∈ tabN ms k, RowOk p (ds.getD k 0) r := fun r hr => by
  by_cases hk : k < ms.length
  · exact (h.tab hk).2 r hr
  · have e : tabN ms k = [] := by simp [tabN, List.getD, show ms.length ≤ k by omega]
    rw [e] at hr
    cases hr
theorem tabN_len {p : Int} {ds : List Int} {ms : List (List (List Int))} (h : IsCx p ds ms) (k : Nat) : (tabN ms k).length ≤ 8 := by
  by_cases hk : k < ms.length
  · have h1 := (h.tab hk).1
    have := (h.1.dim (k + 1)).2
    have e : tabN ms k = ms.getD k [] := rfl
    rw [e]
    omega
  · have e : tabN ms k = [] := by simp [tabN, List.getD, show ms.length ≤ k by omega]
    rw [e]
    simp
theorem cx_row {p : Int} {ds : List Int} {ms : List (List (List Int))} (h : IsCx p ds ms) {k : Nat} {r : List Int} (hr : RowOk p (ds.getD k 0) r) : r.length = dimN ds (k : Int) ∧ dimN ds (k : Int) ≤ 8 := by
  have := h.1.dim k
  have h1 := hr.1
  unfold dimN
  rw [Int.toNat_natCast]
  omega
theorem vecs_md {p d : Int} {rows : List (List Int)} (hp : 0 < p) (h : ∀ r ∈ rows, RowOk p d r) : ∀ u ∈ rows.map ofL, Lin.Md p u := fun u hu => by
  obtain ⟨r, hr, rfl⟩ := List.mem_map.1 hu
  exact ofL_md hp (h r hr)
theorem vecs_wd {n : Nat} {rows : List (List Int)} (h : ∀ r ∈ rows, r.length = n) : ∀ u ∈ rows.map ofL, Lin.Wd n u := fun u hu => by
  obtain ⟨r, hr, rfl⟩ := List.mem_map.1 hu
  exact ofL_wd (by rw [h r hr]; exact Nat.le_refl _)
theorem rows_toL' {n : Nat} {rows : List (List Int)} (h : ∀ r ∈ rows, r.length = n) : (rows.map ofL).map (toL n) = rows := by
  rw [List.map_map]
  have : ∀ r ∈ rows, (toL n ∘ ofL) r = id r := fun r hr => toL_ofL (h r hr)
  rw [List.map_congr_left this, List.map_id]

set_option maxHeartbeats 1600000 in
set_option maxRecDepth 100000 in
theorem mapAt_any (p : Int) (k : Nat) (dv mv : Value) (ds : List Int) (ms : List (List (List Int))) (w : World) (h : Cx 0 w dv mv ds ms) (hcx : IsCx p ds ms) :
    Calls Tryz.prog 84 #[.agg #[.int .i64 p, dv, mv], .int .i64 k] w (L2R (tabN ms k) w) := by
  have HX0 := Lib.hid (Bx.start (p := p) 66 h)
  obtain ⟨ad, cap, rfl⟩ := Sl.shape h.dims
  obtain ⟨am, capm, rfl⟩ := Sl.shape h.maps
  have hml := hcx.1.mlen
  have hl6 := hcx.1.len1
  have c0 := HX0.out.c0
  have c1 := HX0.out.c1
  have c2 := HX0.out.c2
  clear h
  by_cases hk : k < ms.length
  · have hr : 0 ≤ (k : Int) ∧ (k : Int) ≤ (ds.length : Int) - 1 - 1 := by omega
    have HR := Lib.hid hr
    clear hr
    go_enter Tryz.func84, Tryz.ntmps84
    go_wp2_with fail
    refine (topOf_any p _ _ ds.length ad cap _ rfl (by omega)).mono ?_
    rintro e w1 ⟨rfl, hb1⟩
    have HX1 := Lib.hid (HX0.out.next hb1)
    clear hb1 c0 c1 c2
    have c0 := HX1.out.c0
    have c1 := HX1.out.c1
    have c2 := HX1.out.c2
    have hw1 : IntKind.i64.wrap ((ds.length : Int) - 1 - 1) = (ds.length : Int) - 1 - 1 := IntWalk.i64_in _ (by omega)
    go_wp2_with fail
    refine (in_yes HR.out _).mono ?_
    rintro e w' ⟨rfl, rfl⟩
    refine Sl.cases HX1.out.cx.maps (fun _ _ hx _ => absurd hk (by simp [hx])) (fun bm om capm2 hvm _ _ hclm => ?_)
    injection hvm with e1 _ e3
    subst e1 e3
    obtain ⟨um, hum, hrm⟩ := hclm k hk
    have HRM : Hid (L2 0 w1 um (tabN ms k)) := Lib.hid (by unfold tabN; rw [getD_of_lt _ hk]; exact hrm)
    have hk2 : (k : Int) < (ms.length : Int) := by omega
    have hk3 : (0 : Int) ≤ (k : Int) := by omega
    clear hrm hclm
    go_wp2
    go_ret
    exact ⟨um, rfl, HRM.out, HX1.out.below⟩
  · have hr : ¬ (0 ≤ (k : Int) ∧ (k : Int) ≤ (ds.length : Int) - 1 - 1) := by omega
    have HR := Lib.hid hr
    have HE : Hid (tabN ms k = []) := Lib.hid (by simp [tabN, List.getD, show ms.length ≤ k by omega])
    clear hr
    go_enter Tryz.func84, Tryz.ntmps84
    go_wp2_with fail
    refine (topOf_any p _ _ ds.length ad cap _ rfl (by omega)).mono ?_
    rintro e w1 ⟨rfl, hb1⟩
    have HX1 := Lib.hid (HX0.out.next hb1)
    clear hb1 c0 c1 c2
    have hw1 : IntKind.i64.wrap ((ds.length : Int) - 1 - 1) = (ds.length : Int) - 1 - 1 := IntWalk.i64_in _ (by omega)
    go_wp2_with fail
    refine (in_no HR.out _).mono ?_
    rintro e w' ⟨rfl, rfl⟩
    go_wp2
    go_ret
    exact ⟨_, rfl, by rw [HE.out]; exact nil2 _, HX1.out.below⟩

set_option maxHeartbeats 1600000 in
set_option maxRecDepth 100000 in
theorem boundarySpace_any (p : Int) (q : Nat) (dv mv : Value) (ds : List Int) (ms : List (List (List Int))) (w : World) (h : Cx 0 w dv mv ds ms) (hcx : IsCx p ds ms) :
    Calls Tryz.prog 56 #[.agg #[.int .i64 p, dv, mv], .int .i64 q] w (VsR (SpF p (dimN ds (q : Int)) (Lin.Sp p ((tabN ms q).map ofL))) w) := by
  have HX0 := Lib.hid (Bx.start (p := p) 66 h)
  obtain ⟨ad, cap, rfl⟩ := Sl.shape h.dims
  obtain ⟨am, capm, rfl⟩ := Sl.shape h.maps
  have HCX := Lib.hid hcx
  have hp1 := hcx.1.prime.lo1
  have c0 := HX0.out.c0
  have c1 := HX0.out.c1
  have c2 := HX0.out.c2
  have HLEN := Lib.hid (tabN_len hcx q)
  have HOK := Lib.hid (tabN_ok hcx q)
  have HRL : Hid (∀ r ∈ tabN ms q, r.length = dimN ds (q : Int)) := Lib.hid (fun r hr => (cx_row hcx (tabN_ok hcx q r hr)).1)
  have HR40 : Hid (∀ r ∈ tabN ms q, r.length ≤ 40) := Lib.hid (fun r hr => by have := cx_row hcx (tabN_ok hcx q r hr); omega)
  have HW40 : Hid (∀ u ∈ (tabN ms q).map ofL, Lin.Wd 40 u) := Lib.hid (fun u hu => by
    obtain ⟨r, hr, rfl⟩ := List.mem_map.1 hu
    exact ofL_wd (HR40.out r hr))
  clear h hcx
  go_enter Tryz.func56, Tryz.ntmps56
  go_wp2
  go_region_held3 (fun w' => w'.cell? ⟨w.heap.size, 0, none⟩ = some (.int .i64 p) ∧ w'.cell? ⟨w.heap.size, 1, none⟩ = some (.slice ad ds.length cap) ∧ w'.cell? ⟨w.heap.size, 2, none⟩ = some (.slice am ms.length capm) ∧ Hid (Bx w w' w.heap.size p (.slice ad ds.length cap) (.slice am ms.length capm) ds ms))
    (first | exact ⟨HX0.out.c0, HX0.out.c1, HX0.out.c2, HX0⟩ | exact ⟨HX0.out.c0, HX0.out.c1, HX0.out.c2, Lib.hid (HX0.out.next (Below.refl _ _).drew)⟩ | exact ⟨HX3.out.c0, HX3.out.c1, HX3.out.c2, HX3⟩ | exact ⟨HX4.out.c0, HX4.out.c1, HX4.out.c2, HX4⟩ | exact ⟨HX5.out.c0, HX5.out.c1, HX5.out.c2, HX5⟩ | go_keep)
    (first
      | (go_at_call 84; refine (mapAt_any p q _ _ ds ms _ ?_ HCX.out).mono ?_; (exact (HX0.out.next (Below.refl _ _).drew).cx); rintro e w3 ⟨v3, rfl, hl3, hb3⟩; have HX3 := Lib.hid ((HX0.out.next (Below.refl _ _).drew).next hb3); have HL3 := Lib.hid hl3; clear hl3 hb3)
      | (go_at_call 83; refine (vectorsOf_any v3 (tabN ms q) _ HL3.out (by have := HLEN.out; omega) HR40.out).mono ?_; rintro e w4 ⟨s4, M, rfl, hb4, ho4, rfl⟩; have HX4 := Lib.hid (HX3.out.next hb4); have HO4 := Lib.hid (ho4.vs.lower (Nat.zero_le _)); clear ho4 hb4)
      | (go_at_call 82; refine (reducedList_any p s4 _ _ HCX.out.1.prime HO4.out (vecs_md (by omega) HOK.out) HW40.out (by rw [List.length_map]; have := HLEN.out; omega)).mono ?_; rintro e w5 ⟨s5, R, rfl, hb5, ho5, hr5, hl5⟩; have HX5 := Lib.hid (HX4.out.next hb5); have HO5 := Lib.hid (And.intro ho5 HX4.out.below.size); have HR5 := Lib.hid hr5; clear ho5 hb5 hr5 hl5))
  go_wp2
  go_ret
  refine ⟨s5, R, rfl, HX5.out.below, ⟨HO5.out.1.1, HO5.out.1.2.imp id (fun ⟨g, cap, cur, h1, h2, h3⟩ => ⟨g, cap, cur, h1, Nat.le_trans HO5.out.2 h2, h3⟩)⟩, HR5.out.red, fun u hu => ?_, HR5.out.eqv⟩
  exact Lin.Sp.wd (vecs_wd HRL.out) ((HR5.out.eqv u).1 (Lin.Sp.mem hu (HR5.out.red.md u hu)))

end Go.Proofs.YtlopenephgabhaaGreat

namespace Go.Proofs.YtlopenephgabhaaGreat
open Go.RowKit

/-- append of numbers to a row that the call owns. -/
theorem wpList_appendN {ops : Array Oper} {rest : List Oper} {o : Oper} {a : Act} {w : World} {Q : Exit → Act → World → Prop} (hgd : o.guard = none) (dst : Option Tmp) (hdst : o.dst = dst) (s x : Operand)
    (ho : o.op = .call { callee := .builtin .append, args := #[s, x], argTypes := #[47, 47] }) (base : Nat) (v u : Value) (xs ys : List Int) (hs : a.eval s = v) (hx : a.eval x = u) (hown : Gb base w v xs) (hy : L1 0 w u ys)
    (hl : xs.length + ys.length ≤ 2097152) (hb : base ≤ w.heap.size)
    (h : ∀ v' w', Gb base w' v' (xs ++ ys) → w.grownBy w' v.ownBlock → wpList Tryz.prog ops Q rest (a.put dst v') w') : wpList Tryz.prog ops Q (o :: rest) a w := by
  obtain ⟨i, hi, hz, hs1, hb1⟩ := info_parts Tryz.infoI
  subst hdst
  refine Sl.cases hy (fun ad cap hys hu => ?_) (fun b o' cap hu _ hpos hc => ?_)
  · subst hys hu
    refine Lib.wpList_append_run _ hgd s x _ _ ho _ _ hs hx _ _ (run_append_none' w _ _ _ i Tryz.underlying47 hi hown ad cap) ?_
    rw [List.append_nil] at h
    exact h v w hown ⟨rfl, rfl, rfl, Nat.le_refl _, fun _ _ _ => rfl⟩
  · subst hu
    refine wpList_append_own w hgd s x 47 ho base 2 i _ 1 8 Tryz.underlying47 hi hz hs1 hb1 rfl (by decide) v xs.length (xs.map (Value.int .i64)) hs hown ⟨b, o', none⟩ ys.length cap (ys.map (Value.int .i64)) hx (by simp) ?_ ?_ (by unfold maxLen; omega) (by omega) hb (fun v' w' h1 h2 _ => h v' w' ?_ h2)
    · intro j y hj
      have hj' : j < ys.length := by have := (List.getElem?_eq_some_iff.1 hj).1; simpa using this
      obtain ⟨u2, h2, h3⟩ := hc j hj'
      rw [Addr.add_lit, h2, h3]
      simp [hj'] at hj
      rw [hj]
    · intro y hy2
      obtain ⟨z, _, rfl⟩ := List.mem_map.1 hy2
      rfl
    · unfold Gb
      rw [List.length_append, List.map_append]
      exact h1
theorem Gs.lt {base : Nat} {w : World} {v : Value} {tb : List (List Int)} (h : Gs base w v tb) : ∀ k, v.ownBlock = some k → base ≤ k ∧ k < w.heap.size := by
  obtain ⟨vs, ho, _⟩ := h
  exact World.ownsRow.lt ho
theorem Gs.row {base : Nat} {w : World} {u : Value} {tb : List (List Int)} (h : Gs base w u tb) {k : Nat} (hk : k < tb.length) (hpos : 0 < (tb[k]).length) :
    ∃ b c, u = .slice (some ⟨b, 0, none⟩) tb.length c ∧ ∃ g cap, w.cell? ⟨b, k, none⟩ = some (.slice (some ⟨g, 0, none⟩) (tb[k]).length cap) ∧ (tb[k]).length ≤ cap ∧ G1 w (.slice (some ⟨g, 0, none⟩) (tb[k]).length cap) tb[k] := by
  obtain ⟨vs, ho, hr⟩ := h
  obtain ⟨b, c, rfl, _, _⟩ := World.ownsRow.form ho (by omega)
  have hvl : vs.length = tb.length := by have := ho.1; omega
  have hg := hr k (by omega) hk
  obtain ⟨g, cap, hv, _, _⟩ := World.ownsRow.form hg hpos
  refine ⟨b, c, rfl, g, cap, ?_, ?_, by rw [← hv]; exact hg⟩
  · rw [World.ownsRow.cellAt ho k (by omega), List.getElem?_eq_getElem (by omega), hv]
  · rw [hv] at hg
    rcases hg.2 with ⟨h0, _⟩ | ⟨g', cap', cur, h0, _, _, hnc, _⟩
    · cases h0
    · injection h0 with _ _ e3
      omega
/-- append of one row to a table that the call gathers. -/
theorem wpList_appendG {ops : Array Oper} {rest : List Oper} {o : Oper} {a : Act} {w : World} {Q : Exit → Act → World → Prop} (hgd : o.guard = none) (dst : Option Tmp) (hdst : o.dst = dst) (s x : Operand)
    (ho : o.op = .call { callee := .builtin .append, args := #[s, x], argTypes := #[22, 22] }) (base : Nat) (v : Value) (tb : List (List Int)) (hs : a.eval s = v) (hown : Gs base w v tb)
    (b : Nat) (hx : a.eval x = .slice (some ⟨b, 0, none⟩) 1 1) (ar : Option Addr) (nr cr : Nat) (hc : w.cell? ⟨b, 0, none⟩ = some (.slice ar nr cr)) (y : List Int) (hy : G1 w (.slice ar nr cr) y) (hl : tb.length ≤ 2097151) (hb : base ≤ w.heap.size)
    (h : ∀ v' w', Gs base w' v' (tb ++ [y]) → w.grownBy w' v.ownBlock → wpList Tryz.prog ops Q rest (a.put dst v') w') : wpList Tryz.prog ops Q (o :: rest) a w := by
  obtain ⟨i, hi, hz, hs1, hb1⟩ := info_parts Tryz.infoS
  obtain ⟨vs, hvo, hvr⟩ := hown
  subst hdst
  refine wpList_append_own w hgd s x 22 ho base 47 i _ 1 24 Tryz.underlying22 hi hz hs1 hb1 rfl (by decide) v tb.length vs hs hvo ⟨b, 0, none⟩ 1 1 [.slice ar nr cr] hx rfl ?_ ?_ (by unfold maxLen; omega) (by omega) hb (fun v' w' h1 h2 _ => h v' w' (Gs.push hvo hvr hy h1 h2) h2)
  · intro j u hj
    match j, hj with
    | 0, hj =>
      simp at hj
      subst hj
      exact hc
  · intro u hu
    simp at hu
    subst hu
    rfl

/-- The vectors of n numbers that all columns of a table annihilate. -/
def CycS (p : Int) (n m : Nat) (t : List (List Int)) (v : Lin.V) : Prop := Lin.Md p v ∧ Lin.Wd n v ∧ ∀ j, j < m → Lin.dot n (Lin.col (fun i => ofL (t.getD i [])) j) v % p = 0
def unitV (k : Nat) : Lin.V := fun i => if i = k then 1 else 0
theorem long_toL {m n k : Nat} (r : Lin.V) : toL m r ++ toL n (unitV k) = toL (m + n) (Lin.long m r k) := by
  refine List.ext_getElem (by simp [toL_length]) fun i h1 h2 => ?_
  rw [toL_get]
  by_cases h : i < m
  · rw [List.getElem_append_left (by rw [toL_length]; exact h), toL_get]
    simp [Lin.long, h]
  · rw [List.getElem_append_right (by rw [toL_length]; omega), toL_get]
    simp only [toL_length, unitV, Lin.long, if_neg h]
    by_cases e : i = m + k
    · rw [if_pos e, if_pos (by omega)]
    · rw [if_neg e, if_neg (by omega)]
/-- The first k long rows. -/
def longs (m : Nat) (t : List (List Int)) (k : Nat) : List Lin.V := (List.range k).map fun i => Lin.long m (ofL (t.getD i [])) i
theorem longs_succ (m : Nat) (t : List (List Int)) (k : Nat) : longs m t (k + 1) = longs m t k ++ [Lin.long m (ofL (t.getD k [])) k] := by simp [longs, List.range_succ]
theorem longs_length (m : Nat) (t : List (List Int)) (k : Nat) : (longs m t k).length = k := by simp [longs]
theorem longs_mem (m n : Nat) (t : List (List Int)) : Lin.Longs m n (fun i => ofL (t.getD i [])) (longs m t n) := ⟨fun y => by
  simp only [longs, List.mem_map, List.mem_range]
  exact ⟨fun ⟨i, hi, e⟩ => ⟨i, hi, e.symm⟩, fun ⟨i, hi, e⟩ => ⟨i, hi, e.symm⟩⟩⟩
theorem longs_wd {m n : Nat} {t : List (List Int)} : ∀ y ∈ longs m t n, Lin.Wd (m + n) y := fun y hy => by
  obtain ⟨i, hi, rfl⟩ := ((longs_mem m n t).mem y).1 hy
  intro j hj
  simp [Lin.long, show ¬ j < m by omega, show ¬ j = m + i by omega]
/-- The rows whose leads stand behind m, cut. -/
noncomputable def cuts (m : Nat) (E : List Lin.V) : List Lin.V := (E.filter fun y => decide (m ≤ Lin.ld y)).map (Lin.tail m)
theorem cuts_cut {p : Int} {m : Nat} {E : List Lin.V} (hE : Lin.Red p E) : Lin.Cut p m E (cuts m E) := by
  refine ⟨fun x => ?_, ?_⟩
  · simp only [cuts, List.mem_map, List.mem_filter, decide_eq_true_eq]
    exact ⟨fun ⟨y, ⟨h1, h2⟩, e⟩ => ⟨y, h1, h2, e.symm⟩, fun ⟨y, h1, h2, e⟩ => ⟨y, ⟨h1, h2⟩, e.symm⟩⟩
  · unfold cuts
    rw [List.pairwise_map]
    refine List.Pairwise.imp_of_mem (fun {a b} ha hb h => ?_) (hE.inc.filter _)
    obtain ⟨ha1, ha2⟩ := List.mem_filter.1 ha
    obtain ⟨hb1, hb2⟩ := List.mem_filter.1 hb
    have ha3 : m ≤ Lin.ld a := by simpa using ha2
    have hb3 : m ≤ Lin.ld b := by simpa using hb2
    rw [(Lin.cut_ld hE ha1 ha3).2.1, (Lin.cut_ld hE hb1 hb3).2.1]
    omega
theorem cuts_keep {m : Nat} {E : List Lin.V} {k : Nat} (hk : k < E.length) (h : m ≤ Lin.ld E[k]) : cuts m (E.take (k + 1)) = cuts m (E.take k) ++ [Lin.tail m E[k]] := by
  unfold cuts
  rw [List.take_succ_eq_append_getElem hk, List.filter_append, List.map_append, List.filter_cons_of_pos (by simpa using h)]
  rfl
theorem cuts_skip {m : Nat} {E : List Lin.V} {k : Nat} (hk : k < E.length) (h : ¬ m ≤ Lin.ld E[k]) : cuts m (E.take (k + 1)) = cuts m (E.take k) := by
  unfold cuts
  rw [List.take_succ_eq_append_getElem hk, List.filter_append, List.map_append, List.filter_cons_of_neg (by simpa using h)]
  simp
theorem cuts_length (m : Nat) (E : List Lin.V) : (cuts m E).length ≤ E.length := by
  unfold cuts
  rw [List.length_map]
  exact List.length_filter_le _ _
/-- What the model's kernel answers. -/
theorem kernel_spf {p : Int} (hp : 1 < p) {m n : Nat} {t : List (List Int)} {E : List Lin.V} (h : RedN p (m + n) E (longs m t n)) : SpF p n (CycS p n m t) (cuts m E) := by
  have hc := cuts_cut (m := m) h.red
  refine ⟨hc.red h.red, fun u hu => ?_, fun x => hc.ker hp h.red (longs_mem m n t) h.eqv x⟩
  obtain ⟨y, hy, _, rfl⟩ := (hc.mem u).1 hu
  intro i hi
  exact h.wd y hy _ (by omega)

theorem unit_row (w : World) {n k : Nat} (hk : k < n) : (w.alloc (.cells ((madeCells #[.int .i64 0] n).setIfInBounds k (.int .i64 1)) 2)).rowIs w.heap.size 2 n (fun i => .int .i64 (unitV k i)) := by
  refine ⟨_, heap_alloc_new w _, by simp [size_madeCells], fun i hi => ?_⟩
  rw [Array.getElem?_setIfInBounds]
  unfold unitV
  by_cases e : k = i
  · subst e
    simp [size_madeCells, hk]
  · have e2 : ¬ i = k := fun h => e h.symm
    simp [e, e2, madeCells, hi, Nat.mod_one]
def KerR (p : Int) (n m : Nat) (t : List (List Int)) (w : World) (e : Ending) (w' : World) : Prop :=
  ∃ (u : Value) (R : List Lin.V), e = .returned u ∧ Gs w.heap.size w' u (R.map (toL n)) ∧ Below w.heap.size w w' ∧ SpF p n (CycS p n m t) R

set_option maxHeartbeats 12800000 in
set_option maxRecDepth 100000 in
theorem l01Kernel_any (p : Int) (n m : Nat) (vt : Value) (t : List (List Int)) (w : World) (hp : IsP p) (ht : L2 0 w vt t) (htn : t.length = n) (hrow : ∀ r ∈ t, RowOk p (m : Int) r) (hn : n ≤ 1000) (hm : m ≤ 1000) :
    Calls Tryz.prog 61 #[.int .i64 p, .int .i64 n, vt] w (KerR p n m t w) := by
  have HP := Lib.hid hp
  have hp1 := hp.lo1
  have HT := Lib.hid ht
  have HROW := Lib.hid hrow
  have HTN := Lib.hid htn
  have hmk := run_make_row' (P := Tryz.prog) 47 2 (.int .i64 0) 8 Tryz.underlying47 Tryz.infoI rfl .i64 .i64 n (by omega) (by omega)
  have HMK := Lib.hid hmk
  obtain ⟨at', ct, hvt⟩ := Sl.shape ht
  rw [htn] at hvt
  subst hvt
  have HOWN0 := Lib.hid (World.ownsRow_made (base := w.heap.size) (e := 47) (size := 1) w #[] 0 (Nat.le_refl _) (by unfold maxLen; omega) (by simp))
  clear hp ht hrow htn hmk
  go_enter Tryz.func61, Tryz.ntmps61
  go_wp2
  go_loopw [7, 8, 9] (fun lv wv i wr => ∃ (k : Nat), k ≤ n ∧ i = .int .i64 k ∧ wv = .int .i64 (if k = 0 then 0 else (m : Int)) ∧ Hid (Below w.heap.size w wr) ∧ Hid (Gs w.heap.size wr lv ((longs m t k).map (toL (m + n))))) (fun _ _ i _ => n - (intOf i).toNat)
  case atStart => exact ⟨0, Nat.zero_le _, rfl, rfl, Lib.hid ((Below.refl _ _).alloc (Nat.le_refl _) _), Lib.hid ⟨[], by simpa [longs] using HOWN0.out, fun k h1 _ => absurd h1 (Nat.not_lt_zero _)⟩⟩
  case round =>
    clear HOWN0
    obtain ⟨k, hk, rfl, rfl, HB, HG⟩ := hrel
    obtain ⟨wx, hwx⟩ : ∃ wx : World, wx = wr := ⟨_, rfl⟩
    subst hwx
    have hsz : w.heap.size ≤ wx.heap.size := HB.out.size
    obtain ⟨al, cl, hlv⟩ := Sl.shape HG.out.l2
    rw [List.length_map, longs_length] at hlv
    subst hlv
    by_cases hlt : k < n
    · have hkt : k < t.length := by rw [HTN.out]; exact hlt
      refine Sl.cases HT.out (fun _ _ hx _ => absurd hkt (by simp [hx])) (fun b o c2 hvv _ _ hc => ?_)
      rw [HTN.out] at hvv
      obtain ⟨rfl, rfl⟩ : at' = some ⟨b, o, none⟩ ∧ ct = c2 := by simpa using hvv
      obtain ⟨ur, hur, hrr⟩ := hc k hkt
      obtain ⟨r, hr⟩ : ∃ r, r = t[k] := ⟨_, rfl⟩
      have HRE : Hid (t.getD k [] = r) := Lib.hid (by rw [getD_of_lt _ hkt, hr])
      have hrm : r.length = m := by have := (HROW.out _ (List.getElem_mem hkt)).1; rw [← hr] at this; omega
      rw [← hr] at hrr
      obtain ⟨ar, cr, hus⟩ := Sl.shape hrr
      rw [hrm] at hus
      subst hus
      have HRR := Lib.hid hrr
      have HUR : Hid (∀ W, Below w.heap.size w W → W.cell? ⟨b, o + k, none⟩ = some (.slice ar m cr)) := Lib.hid (fun W h => later h (Nat.le_refl _) hur)
      have HRM := Lib.hid hrm
      have hq1 : (k : Int) < (n : Int) := by omega
      have hq2 : (0 : Int) ≤ (k : Int) := by omega
      clear hvv hc hur hrr hr hrm
      have hmk := HMK.out
      have hrow0 := World.rowIs_made wx (.int .i64 0) n 2
      have hc0 := hrow0.cell hlt
      have hf0 := hrow0.frozen k
      have HR1 := Lib.hid (unit_row wx hlt)
      have HB1 : Hid (Below wx.heap.size wx (wx.alloc (.cells ((madeCells #[.int .i64 0] n).setIfInBounds k (.int .i64 1)) 2))) := Lib.hid ((Below.refl _ _).alloc (Nat.le_refl _) _)
      clear hrow0
      go_upto_region 8 with fail
      refine forget_wp (fun W => Hid (W.rowIs wx.heap.size 2 n (fun i => .int .i64 (unitV k i)) ∧ Below wx.heap.size wx W)) (Lib.hid ⟨HR1.out, HB1.out⟩) ?_
      intro W3 HS3
      clear hmk hc0 hf0 HR1 HB1
      have HB3 := Lib.hid (HB.out.trans (HS3.out.2.mono hsz))
      have hcell := HUR.out _ HB3.out
      have HG3 := Lib.hid (HG.out.below HS3.out.2)
      have HUN : Hid (L1 0 W3 (.slice (some ⟨wx.heap.size, 0, none⟩) n n) (toL n (unitV k))) := Lib.hid (Or.inr ⟨wx.heap.size, 0, n, by rw [toL_length], Nat.zero_le _, by rw [toL_length]; omega, fun i hi => ⟨_, by rw [Nat.zero_add]; exact HS3.out.1.cell (by rw [toL_length] at hi; exact hi), by rw [toL_get]; rfl⟩⟩)
      go_wp2_with fail
      refine (l01Own_any _ r W3 (HRR.out.below HB3.out) (by rw [HRM.out]; omega)).mono ?_
      rintro e W4 ⟨u4, rfl, hg4, hb4⟩
      have HG4 := Lib.hid hg4
      have HB4 := Lib.hid (HB3.out.trans (hb4.mono HB3.out.size))
      have HUN4 := Lib.hid (HUN.out.below hb4)
      have HGL4 := Lib.hid (HG3.out.below hb4)
      have hs34 : W3.heap.size ≤ W4.heap.size := hb4.size
      have HB34 := Lib.hid hb4
      clear hb4 hg4 hcell HUN HGL4
      go_wp2_with (at_builtin; refine wpList_appendN rfl (some 37) rfl (.tmp 35) (.tmp 36) rfl W3.heap.size _ _ r (toL n (unitV k)) rfl rfl HG4.out HUN4.out ?c1 ?c2 ?_)
      case c1 => rw [toL_length, HRM.out]; omega
      case c2 => exact hs34
      intro v5 W5 hg5 hgr5
      have HB45 : Hid (Below W3.heap.size W3 W5) := Lib.hid (HB34.out.grown hgr5 hs34 (fun g hg => ((World.ownsRow.lt HG4.out) g hg).1))
      have HROWL : Hid (r ++ toL n (unitV k) = toL (m + n) (Lin.long m (ofL (t.getD k [])) k)) := Lib.hid (by
        rw [← long_toL, HRE.out, toL_ofL HRM.out])
      have HG5 : Hid (G1 W5 v5 (toL (m + n) (Lin.long m (ofL (t.getD k [])) k))) := Lib.hid (by rw [← HROWL.out]; exact hg5.g1)
      have HGL5 := Lib.hid (HG3.out.below HB45.out)
      obtain ⟨a5, c5, hv5⟩ := l1_slice HG5.out.l1
      subst hv5
      have hs35 : w.heap.size ≤ W5.heap.size := by have := HB3.out.size; have := HB45.out.size; omega
      have hba : Below W5.heap.size W5 (W5.alloc (.cells #[.slice a5 (m + n) c5] 47)) := below_alloc1 _ _
      have HGL6 := Lib.hid (HGL5.out.below hba)
      have HG6 := Lib.hid (HG5.out.below hba)
      have hcell6 := cell_alloc1 W5 (.slice a5 (m + n) c5) 47
      have HB6 := Lib.hid ((HB3.out.trans (HB45.out.mono HB3.out.size)).trans (hba.mono hs35))
      clear hg5 hgr5 hba HG4 HUN4 HB34 HB4 HG3 HB45
      go_wp2_with (at_builtin; refine wpList_appendG rfl (some 39) rfl (.tmp 30) (.tmp 38) rfl w.heap.size _ ((longs m t k).map (toL (m + n))) rfl HGL6.out W5.heap.size rfl a5 (m + n) c5 hcell6 _ HG6.out ?c1 ?c2 ?_)
      case c1 => rw [List.length_map, longs_length]; omega
      case c2 => simp; omega
      intro v7 W7 hg7 hgr7
      have HG7 : Hid (Gs w.heap.size W7 v7 ((longs m t (k + 1)).map (toL (m + n)))) := Lib.hid (by
        rw [longs_succ, List.map_append]
        exact hg7)
      have HB7 : Hid (Below w.heap.size w W7) := Lib.hid (HB6.out.grown hgr7 (by simp; omega) (fun g hg => (HGL6.out.lt g hg).1))
      have hk1 : (if k + 1 = 0 then 0 else (m : Int)) = (m : Int) := by simp
      clear hg7 hgr7 hcell6
      go_wp2
      go_roundw
      case rel => exact ⟨k + 1, by omega, by go_num, by rw [hk1], HB7, HG7⟩
      case measure => simp [intOf]; omega
    · have hkn : Hid (k = n) := Lib.hid (by omega)
      have HGN : Hid (Gs w.heap.size wx (.slice al k cl) ((longs m t n).map (toL (m + n)))) := Lib.hid (by have := HG.out; rwa [hkn.out] at this ⊢)
      have HLM : Hid (∀ y ∈ longs m t n, Lin.Md p y) := Lib.hid ((longs_mem m n t).md hp1 (fun i hi => by
        have hit : i < t.length := by rw [HTN.out]; exact hi
        rw [getD_of_lt _ hit]
        exact ofL_md (by omega) (HROW.out _ (List.getElem_mem hit))))
      have HECH := Lib.hid (l01Echelon_any p (m + n) (.slice al k cl) (longs m t n) wx HP.out HGN.out.l2 HLM.out longs_wd (by omega) (by rw [longs_length]; omega))
      obtain ⟨wv, hwv⟩ : ∃ wv : Int, wv = (if k = 0 then 0 else (m : Int)) := ⟨_, rfl⟩
      have HWV : Hid (0 < n → wv = (m : Int)) := Lib.hid (fun h => by rw [hwv, if_neg (by have := hkn.out; omega)])
      have HEN : Hid (n = 0 → longs m t n = []) := Lib.hid (fun h => by rw [h]; rfl)
      rw [← hwv]
      clear hwv HG HGN
      go_wp2_with fail
      refine HECH.out.mono ?_
      rintro e w2 ⟨u2, E, rfl, hg2, hb2, hr2, hl2⟩
      have HE := Lib.hid hr2
      have HGE := Lib.hid hg2
      have HB2 := Lib.hid (HB.out.trans (hb2.mono hsz))
      have hs2 : w.heap.size ≤ w2.heap.size := HB2.out.size
      have hEl : E.length ≤ n := by rw [longs_length] at hl2; exact hl2
      have HOWN2 := Lib.hid (World.ownsRow_made (base := w.heap.size) (e := 47) (size := 1) w2 #[] 0 hs2 (by unfold maxLen; omega) (by simp))
      obtain ⟨ae, ce, hev⟩ := Sl.shape HGE.out.l2
      rw [List.length_map] at hev
      subst hev
      clear hg2 hb2 hr2 hl2 HECH HB
      go_wp2
      go_loopw [12, 13] (fun ov i wr => ∃ (q : Nat), q ≤ E.length ∧ i = .int .i64 q ∧ Hid (Below w2.heap.size w2 wr) ∧ Hid (Gs w2.heap.size wr ov ((cuts m (E.take q)).map (toL n)))) (fun _ i _ => E.length - (intOf i).toNat)
      case atStart => exact ⟨0, Nat.zero_le _, rfl, Lib.hid ((Below.refl _ _).alloc (Nat.le_refl _) _), Lib.hid ⟨[], by simpa [cuts] using World.ownsRow_made (base := w2.heap.size) (e := 47) (size := 1) w2 #[] 0 (Nat.le_refl _) (by unfold maxLen; omega) (by simp), fun k h1 _ => absurd h1 (Nat.not_lt_zero _)⟩⟩
      case round =>
        clear HOWN2
        obtain ⟨q, hq, rfl, HBX, HGO⟩ := hrel
        obtain ⟨wy, hwy⟩ : ∃ wy : World, wy = wr := ⟨_, rfl⟩
        subst hwy
        have hsy : w2.heap.size ≤ wy.heap.size := HBX.out.size
        have hcl : (cuts m (E.take q)).length ≤ q := by have := cuts_length m (E.take q); rw [List.length_take] at this; omega
        obtain ⟨ao, co, hov⟩ := Sl.shape HGO.out.l2
        rw [List.length_map] at hov
        subst hov
        by_cases hltq : q < E.length
        · have hn0 : 0 < n := by omega
          obtain rfl : wv = (m : Int) := HWV.out hn0
          obtain ⟨y, hy⟩ : ∃ y, y = E[q] := ⟨_, rfl⟩
          have HYE := Lib.hid hy
          have HYW : Hid (Lin.Wd (m + n) y) := Lib.hid (by rw [hy]; exact HE.out.wd _ (List.getElem_mem hltq))
          have HYN : Hid (y ≠ Lin.zv) := Lib.hid (by rw [hy]; exact HE.out.red.ne (List.getElem_mem hltq))
          obtain ⟨b, c2, hvv, by', cy, huy, hcap, hry⟩ := HGE.out.row (k := q) (by rw [List.length_map]; exact hltq) (by rw [List.getElem_map, toL_length]; omega)
          rw [List.getElem_map, toL_length] at huy hcap hry
          rw [← hy] at hry
          rw [List.length_map] at hvv
          obtain ⟨rfl, rfl⟩ : ae = some ⟨b, 0, none⟩ ∧ ce = c2 := by simpa using hvv
          have hry := hry.l1
          obtain ⟨b3, oy, cy3, huv, hcy⟩ := l1_toL hry (show 0 < m + n by omega)
          obtain ⟨rfl, rfl, rfl⟩ : by' = b3 ∧ oy = 0 ∧ cy = cy3 := by
            injection huv with e1 _ e3
            injection e1 with e1
            injection e1 with e1 e2
            exact ⟨e1, e2.symm, e3⟩
          have HRY := Lib.hid hry
          have hne1 : ¬ cy = m := by omega
          have hne2 : ¬ m = cy := by omega
          have huy2 := later HBX.out (Nat.le_refl _) huy
          have hlead := l01Lead_any _ _ wy (hry.below HBX.out) (by rw [toL_length]; omega)
          rw [leadOf_toL HYW.out HYN.out] at hlead
          have HLEAD := Lib.hid hlead
          have hldlt := (ld_ltn HYW.out HYN.out).1
          have HTAIL : Hid (L1 0 w2 (.slice (some ⟨by', m, none⟩) n (cy - m)) (toL n (Lin.tail m y))) := Lib.hid (Or.inr ⟨by', m, cy - m, by rw [toL_length], Nat.zero_le _, by rw [toL_length]; omega, fun i hi => by
            rw [toL_length] at hi
            refine ⟨_, by have := hcy (m + i) (by omega); rwa [Nat.zero_add] at this, ?_⟩
            rw [toL_get]
            rfl⟩)
          clear hvv huy hry hy hlead hcy huv
          by_cases hge : m ≤ Lin.ld y
          · have hge2 : (m : Int) ≤ (Lin.ld y : Int) := by omega
            have hmn : m + n - m = n := by omega
            have hm0 : (0 : Int) ≤ (m : Int) := by omega
            have HCUT : Hid (cuts m (E.take (q + 1)) = cuts m (E.take q) ++ [Lin.tail m y]) := Lib.hid (by rw [cuts_keep hltq (by rw [← HYE.out]; exact hge), ← HYE.out])
            go_wp2_with fail
            refine HLEAD.out.mono ?_
            rintro e w' ⟨rfl, rfl⟩
            go_wp2_with fail
            refine (l01Own_any _ (toL n (Lin.tail m y)) wy (HTAIL.out.below HBX.out) (by rw [toL_length]; omega)).mono ?_
            rintro e W4 ⟨u4, rfl, hg4, hb4⟩
            obtain ⟨a4, c4, hv4⟩ := l1_slice hg4.l1
            subst hv4
            have hba : Below W4.heap.size W4 (W4.alloc (.cells #[.slice a4 n c4] 47)) := below_alloc1 _ _
            have hs4 : wy.heap.size ≤ W4.heap.size := hb4.size
            have HG4 := Lib.hid (hg4.g1.below hba)
            have HGO4 := Lib.hid ((HGO.out.below hb4).below hba)
            have hcell4 := cell_alloc1 W4 (.slice a4 n c4) 47
            have HB4 := Lib.hid ((HBX.out.trans (hb4.mono hsy)).trans (hba.mono (show w2.heap.size ≤ W4.heap.size by omega)))
            clear hg4 hb4 hba huy2
            go_wp2_with (at_builtin; refine wpList_appendG rfl (some 66) rfl (.tmp 57) (.tmp 65) rfl w2.heap.size _ ((cuts m (E.take q)).map (toL n)) rfl HGO4.out W4.heap.size rfl a4 n c4 hcell4 _ HG4.out ?c1 ?c2 ?_)
            case c1 => rw [List.length_map]; omega
            case c2 => simp; omega
            intro v7 W7 hg7 hgr7
            have HG7 : Hid (Gs w2.heap.size W7 v7 ((cuts m (E.take (q + 1))).map (toL n))) := Lib.hid (by
              rw [HCUT.out, List.map_append]
              exact hg7)
            have HB7 : Hid (Below w2.heap.size w2 W7) := Lib.hid (HB4.out.grown hgr7 (by simp; omega) (fun g hg => (HGO4.out.lt g hg).1))
            clear hg7 hgr7 hcell4
            go_wp2
            go_roundw
            case rel => exact ⟨q + 1, by omega, by go_num, HB7, HG7⟩
            case measure => simp [intOf]; omega
          · have hge2 : ¬ ((m : Int) ≤ (Lin.ld y : Int)) := by omega
            have HCUT : Hid (cuts m (E.take (q + 1)) = cuts m (E.take q)) := Lib.hid (by rw [cuts_skip hltq (by rw [← HYE.out]; exact hge)])
            go_wp2_with fail
            refine HLEAD.out.mono ?_
            rintro e w' ⟨rfl, rfl⟩
            clear huy2
            go_wp2
            go_roundw
            case rel => exact ⟨q + 1, by omega, by go_num, HBX, Lib.hid (by have := HGO.out; rw [HCUT.out]; exact this)⟩
            case measure => simp [intOf]; omega
        · have hqq : Hid (E.take q = E) := Lib.hid (List.take_of_length_le (by omega))
          have HSP := Lib.hid (kernel_spf hp1 HE.out)
          go_wp2
          go_ret
          exact ⟨_, cuts m (E.take q), rfl, HGO.out.mono hs2, HB2.out.trans (HBX.out.mono hs2), by rw [hqq.out]; exact HSP.out⟩
end Go.Proofs.YtlopenephgabhaaGreat

namespace Go.Proofs.YtlopenephgabhaaGreat
open Go.RowKit

def bl : List Value := List.replicate 40 (.bool false)
set_option maxRecDepth 100000 in
theorem allocB_run (ρ : Operand → Value) (o : Oper) (w : World) : (execOp ρ { o with op := .alloc 112 }).run Tryz.prog w = .ok (.value (.pointer (some ⟨w.heap.size, 0, none⟩))) (w.alloc (.cells bl.toArray 112)) := by kernel_rfl
theorem rowIs_bl (w : World) : (w.alloc (.cells bl.toArray 112)).rowIs w.heap.size 112 40 (fun _ => .bool false) := by
  have h := World.rowIs_alloc w bl.toArray 112 (fun _ => .bool false) (fun i hi => by
    have hi' : i < 40 := by simpa [bl] using hi
    rw [List.getElem?_toArray, bl, List.getElem?_replicate, if_pos hi'])
  simpa [bl] using h
theorem wpList_allocB {ops : Array Oper} {rest : List Oper} {o : Oper} {a : Act} {w : World} {Q : Exit → Act → World → Prop} (hg : o.guard = none) (dst : Option Tmp) (hdst : o.dst = dst) (ho : o.op = .alloc 112)
    (h : ∀ W, Below w.heap.size w W → W.heap.size = w.heap.size + 1 → W.rowIs w.heap.size 112 40 (fun _ => .bool false) → wpList Tryz.prog ops Q rest (a.put dst (.pointer (some ⟨w.heap.size, 0, none⟩))) W) : wpList Tryz.prog ops Q (o :: rest) a w := by
  refine Great.wpList_runTo hg dst hdst (.pointer (some ⟨w.heap.size, 0, none⟩)) (w.alloc (.cells bl.toArray 112)) ?_ (h _ (below_alloc1 _ _) (by simp) (rowIs_bl w))
  have := allocB_run a.eval o w
  rw [← ho] at this
  exact this
theorem hindexB (b : Nat) {k : Nat} (hk : k < 40) (w : World) : (Instr.indexAt 112 (.pointer (some ⟨b, 0, none⟩)) (.int .i64 k)).run Tryz.prog w = .ok (.pointer (some ⟨b, k, none⟩)) w := by
  have h2 : (0 : Int) ≤ (k : Int) := by omega
  have h3 : (k : Int) < 40 := by omega
  have h4 : ¬ (40 : Int) ≤ (k : Int) := by omega
  go_simp
theorem hremI {a b : Int} (h0 : 0 ≤ a) (h1 : 0 < b) (h2 : b ≤ 1000) (w : World) : (binOp .rem 2 (.int .i64 a) (.int .i64 b)).run Tryz.prog w = .ok (.int .i64 (a % b)) w := by
  have hb : ¬ b = 0 := by omega
  have hb1 : ¬ b = -1 := by omega
  go_simp
  rw [Int.tmod_eq_emod_of_nonneg h0]
theorem hstoreI (w : World) {b o : Nat} {u : Value} (x : Int) (hc : w.cell? ⟨b, o, none⟩ = some u) (hf : w.frozen? ⟨b, o, none⟩ = false) : (Instr.storeAt 2 (.pointer (some ⟨b, o, none⟩)) (.int .i64 x)).run Tryz.prog w = .ok () (w.setCell ⟨b, o, none⟩ (.int .i64 x)) := by go_simp
section
variable {md : Region.Mode} {ops : Array Oper} {Q : Exit → Act → World → Prop} {S : World → Prop}
/-- A store of one number. -/
theorem held_storeI {i : Nat} {oi : Oper} {fuel : Nat} {listed : Array Bool} {a : Act} {w : World} (hr : Region.ready md ops listed = [i]) (hi : ops[i]? = some oi) (hg : oi.guard = none) (hd : oi.dst = none)
    (x y : Operand) (ho : oi.op = .store 2 x y) (b o : Nat) (z : Int) (u : Value) (hx : a.eval x = .pointer (some ⟨b, o, none⟩)) (hy : a.eval y = .int .i64 z) (hc : w.cell? ⟨b, o, none⟩ = some u) (hf : w.frozen? ⟨b, o, none⟩ = false)
    (h : S (w.setCell ⟨b, o, none⟩ (.int .i64 z)) ∧ wpAnyH Tryz.prog md ops Q S fuel (listed.setIfInBounds i true) a (w.setCell ⟨b, o, none⟩ (.int .i64 z))) : wpAnyH Tryz.prog md ops Q S (fuel + 1) listed a w :=
  held_call hr hi hg (by
    have e : a.put oi.dst undef = a := by rw [hd]; rfl
    rw [← e] at h
    unfold Oper.wp execOp
    simp only [ho, hx, hy, Sem.run_bind, Sem.run_pure, hstoreI w z hc hf, Result.andThen_ok]
    exact h)
end

open Classical in
/-- Whether a place is a lead of the first k rows. -/
noncomputable def isLd (R : List Lin.V) (k i : Nat) : Bool := decide (∃ w ∈ R.take k, Lin.ld w = i)
theorem isLd_true {R : List Lin.V} {i : Nat} (h : isLd R R.length i = true) : ¬ Lin.Free R i := fun hf => by
  obtain ⟨w, hw, e⟩ := of_decide_eq_true h
  rw [List.take_of_length_le (Nat.le_refl _)] at hw
  exact hf w hw e
theorem isLd_false {R : List Lin.V} {i : Nat} (h : isLd R R.length i = false) : Lin.Free R i := fun w hw e => by
  have := of_decide_eq_false h
  exact this ⟨w, by rw [List.take_of_length_le (Nat.le_refl _)]; exact hw, e⟩
theorem isLd_succ {R : List Lin.V} {k : Nat} (hk : k < R.length) (i : Nat) : isLd R (k + 1) i = if i = Lin.ld R[k] then true else isLd R k i := by
  unfold isLd
  rw [List.take_succ_eq_append_getElem hk]
  by_cases e : i = Lin.ld R[k]
  · rw [if_pos e]
    exact decide_eq_true ⟨R[k], List.mem_append_right _ (List.mem_singleton.2 rfl), e.symm⟩
  · rw [if_neg e]
    refine decide_eq_decide.2 ⟨fun ⟨w, hw, h⟩ => ?_, fun ⟨w, hw, h⟩ => ⟨w, List.mem_append_left _ hw, h⟩⟩
    rcases List.mem_append.1 hw with h1 | h1
    · exact ⟨w, h1, h⟩
    · rw [List.mem_singleton.1 h1] at h
      exact absurd h.symm e

/-- The solutions gathered from the places before f. -/
structure Sols (p : Int) (R : List Lin.V) (f : Nat) (L : List Lin.V) : Prop where
  all : ∀ g, g < f → Lin.Free R g → ∃ s ∈ L, Lin.Sol p R g s
  only : ∀ s ∈ L, ∃ g, g < f ∧ Lin.Free R g ∧ Lin.Sol p R g s
  len : L.length ≤ f
theorem Sols.nil (p : Int) (R : List Lin.V) : Sols p R 0 [] := ⟨fun g h => absurd h (Nat.not_lt_zero _), by simp, by simp⟩
theorem Sols.skip {p : Int} {R : List Lin.V} {f : Nat} {L : List Lin.V} (h : Sols p R f L) (hf : ¬ Lin.Free R f) : Sols p R (f + 1) L :=
  ⟨fun g hg hfr => by
    by_cases e : g = f
    · subst e; exact absurd hfr hf
    · exact h.all g (by omega) hfr, fun s hs => by obtain ⟨g, h1, h2⟩ := h.only s hs; exact ⟨g, by omega, h2⟩, by have := h.len; omega⟩
theorem Sols.add {p : Int} {R : List Lin.V} {f : Nat} {L : List Lin.V} (h : Sols p R f L) (hf : Lin.Free R f) {s : Lin.V} (hs : Lin.Sol p R f s) : Sols p R (f + 1) (L ++ [s]) :=
  ⟨fun g hg hfr => by
    by_cases e : g = f
    · subst e; exact ⟨s, by simp, hs⟩
    · obtain ⟨t, ht, h2⟩ := h.all g (by omega) hfr
      exact ⟨t, by simp [ht], h2⟩, fun t ht => by
    rcases List.mem_append.1 ht with h1 | h1
    · obtain ⟨g, h2, h3⟩ := h.only t h1; exact ⟨g, by omega, h3⟩
    · rw [List.mem_singleton.1 h1]; exact ⟨f, by omega, hf, hs⟩, by have := h.len; simp; omega⟩
theorem sol_wd {p : Int} {R : List Lin.V} {n f : Nat} {s : Lin.V} (hR : Lin.Red p R) (hw : ∀ u ∈ R, Lin.Wd n u) (hf : f < n) (h : Lin.Sol p R f s) : Lin.Wd n s := fun i hi => h.rest i (by omega) (fun w hww e => by
  have := (ld_ltn (hw w hww) (hR.ne hww)).1
  omega)
/-- A solution while it is made: k rows have been seen. -/
structure SolTo (p : Int) (R : List Lin.V) (f k : Nat) (s : Lin.V) : Prop where
  at1 : s f = 1
  lead : ∀ w ∈ R.take k, s (Lin.ld w) = (p - w f) % p
  rest : ∀ i, i ≠ f → (∀ w ∈ R.take k, Lin.ld w ≠ i) → s i = 0
theorem SolTo.start (p : Int) (R : List Lin.V) (f : Nat) : SolTo p R f 0 (fun i => if i = f then 1 else Lin.zv i) := ⟨by simp, by simp, fun i h _ => by simp [h, Lin.zv]⟩
theorem SolTo.step {p : Int} {R : List Lin.V} {f k : Nat} {s : Lin.V} (hR : Lin.Red p R) (hf : Lin.Free R f) (h : SolTo p R f k s) (hk : k < R.length) : SolTo p R f (k + 1) (fun i => if i = Lin.ld R[k] then (p - R[k] f) % p else s i) := by
  have hne : ∀ w ∈ R.take k, Lin.ld w ≠ Lin.ld R[k] := fun w hw e => by
    obtain ⟨j, hj, rfl⟩ := List.getElem_of_mem hw
    have hjk : j < k := by simp at hj; omega
    have := List.pairwise_iff_getElem.1 hR.inc j k (by omega) hk hjk
    rw [List.getElem_take] at e
    omega
  refine ⟨?_, fun w hw => ?_, fun i hi hn => ?_⟩
  · rw [if_neg (fun e => hf _ (List.getElem_mem hk) e.symm)]
    exact h.at1
  · rw [List.take_succ_eq_append_getElem hk] at hw
    rcases List.mem_append.1 hw with h1 | h1
    · rw [if_neg (hne w h1)]
      exact h.lead w h1
    · rw [List.mem_singleton.1 h1, if_pos rfl]
  · have hn2 := hn R[k] (by rw [List.take_succ_eq_append_getElem hk]; exact List.mem_append_right _ (List.mem_singleton.2 rfl))
    rw [if_neg (fun e => hn2 e.symm)]
    exact h.rest i hi (fun w hw => hn w (by rw [List.take_succ_eq_append_getElem hk]; exact List.mem_append_left _ hw))
theorem SolTo.done {p : Int} {R : List Lin.V} {f : Nat} {s : Lin.V} (h : SolTo p R f R.length s) : Lin.Sol p R f s := by
  have e : R.take R.length = R := List.take_of_length_le (Nat.le_refl _)
  exact ⟨h.at1, fun w hw => h.lead w (by rw [e]; exact hw), fun i hi hn => h.rest i hi (fun w hw => hn w (by rw [e] at hw; exact hw))⟩

set_option maxHeartbeats 12800000 in
set_option maxRecDepth 100000 in
theorem annihilator_any (p : Int) (n : Nat) (s : Value) (L : List Lin.V) (w : World) (hp : IsP p) (hs : Vs 0 w s L) (hLm : ∀ u ∈ L, Lin.Md p u) (hLw : ∀ u ∈ L, Lin.Wd n u) (hn : n ≤ 40) (hl : L.length ≤ 1048575) :
    Calls Tryz.prog 94 #[.int .i64 p, .int .i64 n, s] w (VsR (SpF p n (Lin.Ker p n L)) w) := by
  have HP := Lib.hid hp
  have hp7 := hp.hi7
  have hp1 := hp.lo1
  have HLM := Lib.hid hLm
  have HLW := Lib.hid hLw
  have HRED := Lib.hid (reducedList_any p s L w hp hs hLm (fun u hu => wd_wider (hLw u hu) hn) hl)
  clear hp hs hLm hLw
  go_enter Tryz.func94, Tryz.ntmps94
  go_wp2_with fail
  refine HRED.out.mono ?_
  rintro e w1 ⟨s1, R, rfl, hb1, ho1, hr1, hlr⟩
  have HB1 := Lib.hid hb1
  have HR := Lib.hid hr1
  have HVS := Lib.hid (ho1.vs.lower (Nat.zero_le _))
  have HRW : Hid (∀ u ∈ R, Lin.Wd n u) := Lib.hid (fun u hu => Lin.Sp.wd HLW.out ((hr1.eqv u).1 (Lin.Sp.mem hu (hr1.red.md u hu))))
  have hRn : R.length ≤ n := red_length hr1.red HRW.out
  obtain ⟨ads, caps, rfl⟩ := ho1.shape
  clear hb1 ho1 hr1 hlr HRED
  go_wp2_with (with_reducible refine wpList_allocB rfl (some 8) rfl rfl ?_; intro w2 hb2 hs2 hrow2; have HB2 := Lib.hid hb2; have HROW2 := Lib.hid hrow2; clear hb2 hrow2)
  go_wp2
  go_loopw [10, 21] (fun _ i wr => ∃ (k : Nat), k ≤ R.length ∧ i = .int .i64 k ∧ Hid (Below w1.heap.size w1 wr) ∧ Hid (wr.rowIs w1.heap.size 112 40 (fun i => .bool (isLd R k i)))) (fun _ i _ => R.length - (intOf i).toNat)
  case atStart => exact ⟨0, Nat.zero_le _, rfl, HB2, Lib.hid (HROW2.out.congr (fun i _ => by simp [isLd]))⟩
  case round =>
    clear HB2 HROW2
    obtain ⟨k, hk, rfl, HB, HROW⟩ := hrel
    obtain ⟨wx, hwx⟩ : ∃ wx : World, wx = wr := ⟨_, rfl⟩
    subst hwx
    by_cases hlt : k < R.length
    · refine Vs.cases (HVS.out.below HB.out) (fun _ _ hx _ => absurd hlt (by simp [hx])) (fun b o cap2 hv _ _ hc => ?_)
      obtain ⟨rfl, rfl⟩ : ads = some ⟨b, o, none⟩ ∧ caps = cap2 := by simpa using hv
      obtain ⟨u, hu⟩ : ∃ u, u = R[k] := ⟨_, rfl⟩
      have HVA : Hid (At wx b (o + k * 40) u) := Lib.hid (by rw [hu]; exact hc k hlt)
      have HI2V := Lib.hid (Tryz.infoVl u)
      have HIS : Hid ((Tryz.prog.info? 91).map (·.size) = some (vl u).toArray.size) := Lib.hid (by have := HI2V.out; simpa using this)
      have HUW : Hid (Lin.Wd 40 u) := Lib.hid (by rw [hu]; exact wd_wider (HRW.out _ (List.getElem_mem hlt)) hn)
      have HUN : Hid (u ≠ Lin.zv) := Lib.hid (by rw [hu]; exact HR.out.red.ne (List.getElem_mem hlt))
      obtain ⟨hd40, _, _⟩ := ld_lt HUW.out HUN.out
      obtain ⟨d, hd⟩ : ∃ d, d = Lin.ld u := ⟨_, rfl⟩
      have HD := Lib.hid hd
      have HUE := Lib.hid hu
      rw [← hd] at hd40
      have hsz : w1.heap.size ≤ wx.heap.size := HB.out.size
      clear hv hc hu hd
      go_upto_region 6 with (first | (with_reducible refine wpList_load_mid rfl 91 (.tmp 23) rfl b (o + k * 40) rfl (vl u) _ HVA.out.range Tryz.underlyingV rfl HI2V.out ?_) | (with_reducible refine wpList_allocV rfl (some 10) rfl rfl ?_; intro W2 hn2; have HN2 := Lib.hid hn2; have HT2 : Hid (W2.there wx.heap.size 0 (vl u).toArray.size) := (Lib.hid (by have := hn2.there; simpa [vl_length] using this)); clear hn2) | (with_reducible refine wpList_store_mid rfl 91 (.tmp 10) (.tmp 24) rfl wx.heap.size 0 (vl u).toArray rfl rfl HT2.out HIS.out (vl_all _) ?_))
      refine forget_wp (fun W => Hid (At W wx.heap.size 0 u ∧ Below wx.heap.size wx W)) (Lib.hid ?_) ?_
      · have hp2 := HN2.out.put u
        exact ⟨hp2.2.1, hp2.1⟩
      intro W3 HS3
      clear HN2 HT2 HVA HIS
      simp only [Act.put]
      go_wp2_with (with_reducible refine wpList_load_mid rfl 91 (.tmp 10) rfl wx.heap.size 0 rfl (vl u) _ HS3.out.1.range Tryz.underlyingV rfl HI2V.out ?_)
      refine (leadOf_any u _ HUW.out HUN.out).mono ?_
      rw [← HD.out]
      rintro e W4 ⟨rfl, hb4⟩
      have HB4 := Lib.hid ((HB.out.trans (HS3.out.2.mono hsz)).trans (hb4.mono (by have := HS3.out.2.size; omega)))
      have HROW4 := Lib.hid (rowIs_below (rowIs_below HROW.out HS3.out.2) hb4)
      have hcell := HROW4.out.cell hd40
      have hfz := HROW4.out.frozen d
      have hib := hindexB w1.heap.size hd40
      have HROW5 := Lib.hid ((HROW4.out.set d (.bool true)).congr (g := fun i => .bool (isLd R (k + 1) i)) (fun i _ => by
        rw [isLd_succ hlt, ← HUE.out, ← HD.out]
        by_cases e : i = d
        · simp [e]
        · simp [e]))
      have HB5 : Hid (Below w1.heap.size w1 (W4.setCell ⟨w1.heap.size, d, none⟩ (.bool true))) := Lib.hid (HB4.out.setCell (Nat.le_refl _) _)
      clear hb4 HS3 HROW4 HB4 HROW HB
      go_wp2
      go_roundw
      case rel => exact ⟨k + 1, by omega, by go_num, HB5, HROW5⟩
      case measure => simp [intOf]; omega
    · have hkk : Hid (k = R.length) := Lib.hid (by omega)
      have HROWL : Hid (wx.rowIs w1.heap.size 112 40 (fun i => .bool (isLd R R.length i))) := Lib.hid (by have := HROW.out; rwa [hkk.out] at this)
      have HVSL := Lib.hid (HVS.out.below HB.out)
      have hsL : w.heap.size ≤ wx.heap.size := by have := HB1.out.size; have := HB.out.size; omega
      have HBL := Lib.hid (HB1.out.trans (HB.out.mono HB1.out.size))
      obtain ⟨wl, hwl⟩ : ∃ wl : World, wl = wx := ⟨_, rfl⟩
      subst hwl
      clear HROW HB HVS HB1 hkk
      go_wp2
      go_loopw [11, 30] (fun sv i wr => ∃ (f : Nat) (SL : List Lin.V), f ≤ n ∧ i = .int .i64 f ∧ Hid (Below wl.heap.size wl wr) ∧ Hid (Ow wl.heap.size wr sv SL) ∧ Hid (Sols p R f SL)) (fun _ i _ => n - (intOf i).toNat)
      case atStart => exact ⟨0, [], Nat.zero_le _, rfl, Lib.hid (Below.refl _ _), Lib.hid (Ow.nil _ _), Lib.hid (Sols.nil p R)⟩
      case round =>
        obtain ⟨f, SL, hf, rfl, HB, HO, HSL⟩ := hrel
        obtain ⟨wx, hwx⟩ : ∃ wx : World, wx = wr := ⟨_, rfl⟩
        subst hwx
        obtain ⟨ado, capo, rfl⟩ := HO.out.shape
        have hsx : wl.heap.size ≤ wx.heap.size := HB.out.size
        by_cases hfn : f < n
        · have hf40 : f < 40 := by omega
          have hib := hindexB w1.heap.size hf40
          have hcell := (rowIs_below HROWL.out HB.out).cell hf40
          cases hfree : isLd R R.length f with
          | true =>
            rw [hfree] at hcell
            have HS2 := Lib.hid (HSL.out.skip (isLd_true hfree))
            clear hfree
            go_wp2
            go_roundw
            case rel => exact ⟨f + 1, SL, by omega, by go_num, HB, HO, HS2⟩
            case measure => simp [intOf]; omega
          | false =>
            rw [hfree] at hcell
            have HFR := Lib.hid (isLd_false hfree)
            have HI2V := Lib.hid (Tryz.infoVl Lin.zv)
            have HIS : Hid ((Tryz.prog.info? 91).map (·.size) = some (vl Lin.zv).toArray.size) := Lib.hid (by have := HI2V.out; simpa using this)
            clear hfree
            go_upto_region 14 with (first | (with_reducible refine wpList_buildZ rfl (some 36) rfl rfl ?_) | (with_reducible refine wpList_allocV rfl (some 13) rfl rfl ?_; intro W2 hn2; have HN2 := Lib.hid hn2; have HT2 : Hid (W2.there wx.heap.size 0 (vl Lin.zv).toArray.size) := (Lib.hid (by have := hn2.there; simpa [vl_length] using this)); clear hn2) | (with_reducible refine wpList_store_mid rfl 91 (.tmp 13) (.tmp 36) rfl wx.heap.size 0 (vl Lin.zv).toArray rfl rfl HT2.out HIS.out (vl_all _) ?_))
            refine forget_wp (fun W => Hid (At W wx.heap.size 0 Lin.zv ∧ W.there wx.heap.size 0 40 ∧ Below wx.heap.size wx W)) (Lib.hid ?_) ?_
            · have hp2 := HN2.out.put Lin.zv
              exact ⟨hp2.2.1, World.there_setCells HN2.out.there _ _ _, hp2.1⟩
            intro W3 HS3
            clear HN2 HT2 HI2V HIS hcell hib
            simp only [Act.put]
            have hc3 := HS3.out.1.cell hf40
            rw [Nat.zero_add] at hc3
            have hf3 := (HS3.out.2.1 f hf40).2
            rw [Nat.zero_add] at hf3
            have hiv := hindexV wx.heap.size hf40
            have hat4 := HS3.out.1.set hf40 1
            rw [Nat.zero_add] at hat4
            obtain ⟨v1, hv1⟩ : ∃ v1 : Lin.V, v1 = (fun i => if i = f then 1 else Lin.zv i) := ⟨_, rfl⟩
            rw [← hv1] at hat4
            have HST : Hid (SolTo p R f 0 v1) := Lib.hid (by rw [hv1]; exact SolTo.start p R f)
            have HN4 : Hid (Below wx.heap.size wx (W3.setCell ⟨wx.heap.size, f, none⟩ (.int .i64 1)) ∧ At (W3.setCell ⟨wx.heap.size, f, none⟩ (.int .i64 1)) wx.heap.size 0 v1 ∧ (W3.setCell ⟨wx.heap.size, f, none⟩ (.int .i64 1)).there wx.heap.size 0 40) := Lib.hid ⟨HS3.out.2.2.setCell (Nat.le_refl _) _, hat4, there_set HS3.out.2.1 _ _⟩
            clear hat4 hv1 HS3
            go_wp2
            clear hc3 hf3 hiv
            have HBW := Lib.hid (HB.out)
            obtain ⟨wo, hwo⟩ : ∃ wo : World, wo = wx := ⟨_, rfl⟩
            subst hwo
            go_loopw [15, 41] (fun _ i wr => ∃ (j : Nat) (v : Lin.V), j ≤ R.length ∧ i = .int .i64 j ∧ Hid (Below wo.heap.size wo wr) ∧ Hid (At wr wo.heap.size 0 v) ∧ Hid (wr.there wo.heap.size 0 40) ∧ Hid (SolTo p R f j v)) (fun _ i _ => R.length - (intOf i).toNat)
            case atStart => exact ⟨0, v1, Nat.zero_le _, rfl, Lib.hid HN4.out.1, Lib.hid HN4.out.2.1, Lib.hid HN4.out.2.2, HST⟩
            case round =>
              clear HN4 HST
              obtain ⟨j, v, hj, rfl, HBX, HAT, HTH, HSO⟩ := hrel
              obtain ⟨wx, hwx⟩ : ∃ wx : World, wx = wr := ⟨_, rfl⟩
              subst hwx
              have hsw : wo.heap.size ≤ wx.heap.size := HBX.out.size
              have hvlt : wo.heap.size < wx.heap.size := HAT.out.lt
              by_cases hltj : j < R.length
              · refine Vs.cases (HVSL.out.below (HB.out.trans (HBX.out.mono hsx))) (fun _ _ hx _ => absurd hltj (by simp [hx])) (fun b o cap2 hv _ _ hc => ?_)
                obtain ⟨rfl, rfl⟩ : ads = some ⟨b, o, none⟩ ∧ caps = cap2 := by simpa using hv
                obtain ⟨u, hu⟩ : ∃ u, u = R[j] := ⟨_, rfl⟩
                have HVA : Hid (At wx b (o + j * 40) u) := Lib.hid (by rw [hu]; exact hc j hltj)
                have HI2V := Lib.hid (Tryz.infoVl u)
                have HIS : Hid ((Tryz.prog.info? 91).map (·.size) = some (vl u).toArray.size) := Lib.hid (by have := HI2V.out; simpa using this)
                have HUW : Hid (Lin.Wd 40 u) := Lib.hid (by rw [hu]; exact wd_wider (HRW.out _ (List.getElem_mem hltj)) hn)
                have HUN : Hid (u ≠ Lin.zv) := Lib.hid (by rw [hu]; exact HR.out.red.ne (List.getElem_mem hltj))
                have HUM : Hid (Lin.Md p u) := Lib.hid (by rw [hu]; exact HR.out.red.md _ (List.getElem_mem hltj))
                obtain ⟨hd40, _, _⟩ := ld_lt HUW.out HUN.out
                obtain ⟨d, hd⟩ : ∃ d, d = Lin.ld u := ⟨_, rfl⟩
                have HD := Lib.hid hd
                have HUE := Lib.hid hu
                rw [← hd] at hd40
                obtain ⟨x, hx⟩ : ∃ x, x = u f := ⟨_, rfl⟩
                have hxb := HUM.out f
                rw [← hx] at hxb
                have HXE := Lib.hid hx
                obtain ⟨y, hy⟩ : ∃ y, y = (p - x) % p := ⟨_, rfl⟩
                have HYE := Lib.hid hy
                have hrem : ∀ w, (binOp .rem 2 (.int .i64 (p - x)) (.int .i64 p)).run Tryz.prog w = .ok (.int .i64 y) w := fun w => by rw [hy]; exact hremI (by omega) (by omega) (by omega) w
                have HLD := Lib.hid (leadOf_any u · HUW.out HUN.out)
                rw [← HD.out] at HLD
                have HSO2 : Hid (SolTo p R f (j + 1) (fun i => if i = d then y else v i)) := Lib.hid (by
                  have := HSO.out.step HR.out.red HFR.out hltj
                  rwa [← HUE.out, ← HD.out, ← HXE.out, ← HYE.out] at this)
                clear hv hc hu hd hx hy
                go_upto_region 18 with (first | (with_reducible refine wpList_load_mid rfl 91 (.tmp 43) rfl b (o + j * 40) rfl (vl u) _ HVA.out.range Tryz.underlyingV rfl HI2V.out ?_) | (with_reducible refine wpList_allocV rfl (some 15) rfl rfl ?_; intro W2 hn2; have HN2 := Lib.hid hn2; have HT2 : Hid (W2.there wx.heap.size 0 (vl u).toArray.size) := (Lib.hid (by have := hn2.there; simpa [vl_length] using this)); clear hn2) | (with_reducible refine wpList_store_mid rfl 91 (.tmp 15) (.tmp 44) rfl wx.heap.size 0 (vl u).toArray rfl rfl HT2.out HIS.out (vl_all _) ?_))
                refine forget_wp (fun W => Hid (At W wx.heap.size 0 u ∧ Below wx.heap.size wx W)) (Lib.hid ?_) ?_
                · have hp2 := HN2.out.put u
                  exact ⟨hp2.2.1, hp2.1⟩
                intro W3 HS3
                clear HN2 HT2 HVA HIS
                simp only [Act.put, List.setIfInBounds_toArray, List.set_cons_zero, List.set_cons_succ]
                have hcx : ∀ W, (At W wx.heap.size 0 u ∧ Below wo.heap.size wo W) → W.cell? ⟨wx.heap.size, f, none⟩ = some (.int .i64 x) := fun W h => by
                  have := h.1.cell hf40
                  rwa [Nat.zero_add, ← HXE.out] at this
                refine wp_region_held (S := fun W => At W wx.heap.size 0 u ∧ Below wo.heap.size wo W) (by kernel_rfl) ?_
                have hb3 : Below wx.heap.size wx W3.drew := HS3.out.2.drew
                have S0 : At W3.drew wx.heap.size 0 u ∧ Below wo.heap.size wo W3.drew := ⟨HS3.out.1, HBX.out.trans (hb3.mono hsw)⟩
                refine held_take (i := 0) (v := .agg (vl u).toArray) (some 45) rfl rfl (by kernel_rfl) (by kernel_rfl) (by kernel_rfl) (fun _ _ _ h => h) (yieldsIf_load_mid (by kernel_rfl) 91 (.tmp 15) (by kernel_rfl) wx.heap.size 0 (by kernel_rfl) (vl u) _ (fun W h => h.1) Tryz.underlyingV rfl HI2V.out) S0 ?_
                refine held_take (i := 2) (v := .int .i64 p) (some 47) rfl rfl (by kernel_rfl) (by kernel_rfl) (by kernel_rfl) (fun _ _ _ h => h) (yieldsIf_move (by kernel_rfl) rfl (by kernel_rfl)) S0 ?_
                refine held_take (i := 3) (v := .int .i64 (f : Int)) (some 48) rfl rfl (by kernel_rfl) (by kernel_rfl) (by kernel_rfl) (fun _ _ _ h => h) (yieldsIf_move (by kernel_rfl) rfl (by kernel_rfl)) S0 ?_
                refine held_take (i := 4) (v := .pointer (some ⟨wx.heap.size, f, none⟩)) (some 49) rfl rfl (by kernel_rfl) (by kernel_rfl) (by kernel_rfl) (fun _ _ _ h => h) (yieldsIf_index (by kernel_rfl) rfl (by kernel_rfl) (by kernel_rfl) (hindexV wx.heap.size hf40)) S0 ?_
                refine held_take (i := 5) (v := .int .i64 x) (some 50) rfl rfl (by kernel_rfl) (by kernel_rfl) (by kernel_rfl) (fun _ _ _ h => h) (yieldsIf_cell (by kernel_rfl) rfl (by kernel_rfl) (fun W h => hload W (hcx W h))) S0 ?_
                refine held_take (i := 6) (v := .int .i64 (p - x)) (some 51) rfl rfl (by kernel_rfl) (by kernel_rfl) (by kernel_rfl) (fun _ _ _ h => h) (yieldsIf_bin (by kernel_rfl) rfl (by kernel_rfl) (by kernel_rfl) (fun _ => rfl) (hsubI (by omega) (by omega))) S0 ?_
                refine held_take (i := 7) (v := .int .i64 p) (some 52) rfl rfl (by kernel_rfl) (by kernel_rfl) (by kernel_rfl) (fun _ _ _ h => h) (yieldsIf_move (by kernel_rfl) rfl (by kernel_rfl)) S0 ?_
                refine held_take (i := 8) (v := .int .i64 y) (some 53) rfl rfl (by kernel_rfl) (by kernel_rfl) (by kernel_rfl) (fun _ _ _ h => h) (yieldsIf_bin (by kernel_rfl) rfl (by kernel_rfl) (by kernel_rfl) (fun _ => rfl) hrem) S0 ?_
                refine held_enter (i := 1) (some 46) (f := 99) (args := #[vv u]) (by kernel_rfl) rfl rfl rfl (by kernel_rfl) (HLD.out _) ?_ (fun c w' h => by cases h.1) (fun w' h => by cases h.1)
                rintro e4 W4 ⟨he4, hb4⟩
                injection he4 with he4
                subst he4
                have hb34 : Below wx.heap.size wx W4 := hb3.trans (hb4.mono hb3.size)
                have S1 : At W4 wx.heap.size 0 u ∧ Below wo.heap.size wo W4 := ⟨S0.1.later hb4, HBX.out.trans (hb34.mono hsw)⟩
                refine ⟨S1, ?_⟩
                refine held_take (i := 9) (v := .pointer (some ⟨wo.heap.size, d, none⟩)) (some 54) rfl rfl (by kernel_rfl) (by kernel_rfl) (by kernel_rfl) (fun _ _ _ h => h) (yieldsIf_index (by kernel_rfl) rfl (by kernel_rfl) (by kernel_rfl) (hindexV wo.heap.size hd40)) S1 ?_
                have HAT4 := HAT.out.later hb34
                have HTH4 := there_below HTH.out hb34 hvlt
                have hc4 := HAT4.cell hd40
                rw [Nat.zero_add] at hc4
                have hf4 := (HTH4 d hd40).2
                rw [Nat.zero_add] at hf4
                have hat5 := HAT4.set hd40 y
                rw [Nat.zero_add] at hat5
                have S2 : At (W4.setCell ⟨wo.heap.size, d, none⟩ (.int .i64 y)) wx.heap.size 0 u ∧ Below wo.heap.size wo (W4.setCell ⟨wo.heap.size, d, none⟩ (.int .i64 y)) := ⟨S1.1.setOther (by show wo.heap.size ≠ wx.heap.size; omega) _, S1.2.setCell (Nat.le_refl _) _⟩
                have HN5 : Hid (Below wo.heap.size wo (W4.setCell ⟨wo.heap.size, d, none⟩ (.int .i64 y)) ∧ At (W4.setCell ⟨wo.heap.size, d, none⟩ (.int .i64 y)) wo.heap.size 0 (fun i => if i = d then y else v i) ∧ (W4.setCell ⟨wo.heap.size, d, none⟩ (.int .i64 y)).there wo.heap.size 0 40) := Lib.hid ⟨S2.2, hat5, there_set HTH4 _ _⟩
                refine held_storeI (i := 10) (by kernel_rfl) rfl rfl rfl (.tmp 54) (.tmp 53) rfl wo.heap.size d y _ (by kernel_rfl) (by kernel_rfl) hc4 hf4 ⟨S2, ?_⟩
                refine wpAnyH_done (by kernel_rfl) ?_ _
                simp only [Act.put, List.setIfInBounds_toArray, List.set_cons_zero, List.set_cons_succ]
                clear S0 S1 S2 hat5 hc4 hf4 HAT4 HTH4 hcx hrem hb3 hb34 hb4 HS3 HLD HAT HTH HBX HSO
                go_wp2
                go_roundw
                case rel => exact ⟨j + 1, _, by omega, by go_num, Lib.hid HN5.out.1, Lib.hid HN5.out.2.1, Lib.hid HN5.out.2.2, HSO2⟩
                case measure => simp [intOf]; omega
              · have hjj : Hid (j = R.length) := Lib.hid (by omega)
                have HSOL : Hid (Lin.Sol p R f v) := Lib.hid (SolTo.done (by have := HSO.out; rwa [hjj.out] at this))
                have HO5 := Lib.hid (HO.out.below HBX.out)
                have HB5 := Lib.hid (HB.out.trans (HBX.out.mono hsx))
                have hs5 : wl.heap.size ≤ wx.heap.size := by omega
                have hSl : SL.length ≤ 1048576 := by have := HSL.out.len; omega
                have HSL2 := Lib.hid (HSL.out.add HFR.out HSOL.out)
                have HI2V := Lib.hid (Tryz.infoVl v)
                go_wp2_with (first | (with_reducible refine wpList_load_mid rfl 91 (.tmp 13) rfl wo.heap.size 0 rfl (vl v) _ HAT.out.range Tryz.underlyingV rfl HI2V.out ?_) | (with_reducible refine wpList_oneV rfl (some 58) rfl (.tmp 57) rfl v rfl ?_; intro W7 hn7; have HN7 := Lib.hid hn7; have HZ7 : Hid (wl.heap.size ≤ W7.heap.size) := (Lib.hid (by have := hn7.size; omega)); have HO7 := Lib.hid (HO5.out.below hn7.below); clear hn7) | (at_builtin; with_reducible refine wpList_appendV rfl (some 59) rfl (.tmp 56) (.tmp 58) rfl wl.heap.size (.slice ado SL.length capo) SL rfl HO7.out wx.heap.size 1 v rfl HN7.out.at' hSl HZ7.out ?_; intro s8 W8 ho8 hg8; have HO8 := Lib.hid ho8; have HG8 := Lib.hid hg8; clear ho8 hg8))
                have HB7 := Lib.hid (HB5.out.trans (HN7.out.below.mono hs5))
                have HB8 : Hid (Below wl.heap.size wl W8) := Lib.hid (HB7.out.grown HG8.out (by have := HB7.out.size; omega) (fun g hg => ((HO7.out.lt) g hg).1))
                go_roundw
                case rel => exact ⟨f + 1, SL ++ [v], by omega, by go_num, HB8, HO8, HSL2⟩
                case measure => simp [intOf]; omega
        · have hff : Hid (f = n) := Lib.hid (by omega)
          have HSN : Hid (Sols p R n SL) := Lib.hid (by have := HSL.out; rwa [hff.out] at this)
          have HSM : Hid (∀ t ∈ SL, Lin.Md p t) := Lib.hid (fun t ht => by obtain ⟨g, _, _, h⟩ := HSN.out.only t ht; exact h.md hp1)
          have HSW : Hid (∀ t ∈ SL, Lin.Wd n t) := Lib.hid (fun t ht => by obtain ⟨g, h1, _, h⟩ := HSN.out.only t ht; exact sol_wd HR.out.red HRW.out h1 h)
          have hSl : SL.length ≤ 1048575 := by have := HSL.out.len; omega
          have HOV := Lib.hid (HO.out.vs.lower (Nat.zero_le _))
          go_wp2_with fail
          refine (reducedList_any p _ SL _ HP.out HOV.out HSM.out (fun t ht => wd_wider (HSW.out t ht) hn) hSl).mono ?_
          rintro e W9 ⟨s9, R9, rfl, hb9, ho9, hr9, _⟩
          have hsw : w.heap.size ≤ wx.heap.size := by omega
          have HB9 := Lib.hid (HBL.out.trans ((HB.out.trans (hb9.mono hsx)).mono hsL))
          have HO9 : Hid (Ow w.heap.size W9 s9 R9) := Lib.hid ⟨ho9.1, ho9.2.imp id (fun ⟨g, cap, cur, h1, h2, h3⟩ => ⟨g, cap, cur, h1, Nat.le_trans hsw h2, h3⟩)⟩
          have HR9 := Lib.hid hr9
          clear hb9 ho9 hr9
          go_wp2
          go_ret
          refine ⟨_, R9, rfl, HB9.out, HO9.out, HR9.out.red, fun t ht => Lin.Sp.wd HSW.out ((HR9.out.eqv t).1 (Lin.Sp.mem ht (HR9.out.red.md t ht))), fun x => ?_⟩
          rw [HR9.out.eqv x, Lin.sols_eqv hp1 HR.out.red HRW.out (fun g hg hfr => HSN.out.all g hg hfr) (fun t ht => HSN.out.only t ht) x]
          exact ⟨fun h => h.eqv HLM.out HR.out.eqv, fun h => h.eqv HR.out.red.md HR.out.eqv.symm⟩
end Go.Proofs.YtlopenephgabhaaGreat

namespace Go.Proofs.YtlopenephgabhaaGreat
open Go.RowKit

/-- The table whose columns the cycles of a degree annihilate, and its width. -/
def cycT (ds : List Int) (ms : List (List (List Int))) (q : Nat) : List (List Int) := mapZ ds ms (q : Int)
def cycM (ds : List Int) (q : Nat) : Nat := if q = 0 then 0 else dimN ds ((q - 1 : Nat) : Int)
theorem dimN_le8 {p : Int} {ds : List Int} {ms : List (List (List Int))} (h : IsCx p ds ms) (q : Nat) : dimN ds (q : Int) ≤ 8 ∧ ds.getD q 0 = (dimN ds (q : Int) : Int) := by
  have := h.1.dim q
  unfold dimN
  rw [Int.toNat_natCast]
  omega
theorem cyc_ok {p : Int} {ds : List Int} {ms : List (List (List Int))} (h : IsCx p ds ms) {q : Nat} (hq : q < ds.length) :
    (cycT ds ms q).length = dimN ds (q : Int) ∧ (∀ r ∈ cycT ds ms q, RowOk p (cycM ds q : Int) r) ∧ cycM ds q ≤ 8 := by
  have hd := dimN_le8 h q
  by_cases h0 : q = 0
  · subst h0
    have e : cycT ds ms 0 = List.replicate (dimN ds ((0 : Nat) : Int)) [] := by
      unfold cycT mapZ
      rw [if_neg (by omega)]
      have : dimZ ds ((0 : Nat) : Int) = ds.getD 0 0 := by
        unfold dimZ
        rw [if_pos (by omega)]
        rfl
      rw [this]
      rfl
    rw [e]
    refine ⟨List.length_replicate, fun r hr => ?_, by simp [cycM]⟩
    rw [List.eq_of_mem_replicate hr]
    exact ⟨by simp [cycM], by simp⟩
  · obtain ⟨k, rfl⟩ : ∃ k, q = k + 1 := ⟨q - 1, by omega⟩
    have hml := h.1.mlen
    have hkm : k < ms.length := by omega
    have e : cycT ds ms (k + 1) = tabN ms k := by
      unfold cycT mapZ tabN
      rw [if_pos (by omega), show (((k + 1 : Nat) : Int)).toNat - 1 = k by omega]
    have hk := dimN_le8 h k
    have ht := h.tab hkm
    have e2 : cycM ds (k + 1) = dimN ds (k : Int) := by simp [cycM]
    rw [e, e2]
    refine ⟨by have := ht.1; have e3 : tabN ms k = ms.getD k [] := rfl; rw [e3]; omega, fun r hr => by rw [← hk.2]; exact ht.2 r hr, hk.1⟩
theorem cycT_succ {p : Int} {ds : List Int} {ms : List (List (List Int))} (h : IsCx p ds ms) {k : Nat} (hq : k + 1 < ds.length) : cycT ds ms (k + 1) = tabN ms k := by
  have hml := h.1.mlen
  unfold cycT mapZ tabN
  rw [if_pos (by omega), show (((k + 1 : Nat) : Int)).toNat - 1 = k by omega]
/-- The columns as vectors. -/
theorem ker_cols {p : Int} {d c : Nat} {t : List (List Int)} (htl : t.length = d) (v : Lin.V) : Lin.Ker p d ((flipT c t).map ofL) v ↔ CycS p d c t v := by
  have key : ∀ j, j < c → Lin.dot d (ofL ((List.range t.length).map fun i => (t.getD i []).getD j 0)) v = Lin.dot d (Lin.col (fun i => ofL (t.getD i [])) j) v := fun j _ => Lin.dot_congr (fun i hi => by
    have : ofL ((List.range t.length).map fun i => (t.getD i []).getD j 0) i = (t.getD i []).getD j 0 := by
      rw [ofL_at (by simp; omega)]
      simp
    rw [this]
    rfl)
  constructor
  · intro h
    refine ⟨h.md, h.wd, fun j hj => ?_⟩
    rw [← key j hj]
    exact h.ann _ (List.mem_map.2 ⟨_, List.mem_map.2 ⟨j, List.mem_range.2 hj, rfl⟩, rfl⟩)
  · rintro ⟨h1, h2, h3⟩
    refine ⟨h1, h2, fun r hr => ?_⟩
    obtain ⟨row, hrow, rfl⟩ := List.mem_map.1 hr
    obtain ⟨j, hj, rfl⟩ := List.mem_map.1 hrow
    have hj' := List.mem_range.1 hj
    rw [key j hj']
    exact h3 j hj'
theorem SpF.congr {p : Int} {n : Nat} {S S' : Lin.V → Prop} {R : List Lin.V} (h : SpF p n S R) (e : ∀ v, S v ↔ S' v) : SpF p n S' R := ⟨h.1, h.2.1, fun v => (h.2.2 v).trans (e v)⟩
theorem flip_row {p : Int} {c : Nat} {t : List (List Int)} (h : ∀ r ∈ t, RowOk p (c : Int) r) : ∀ r ∈ flipT c t, RowOk p (t.length : Int) r := fun r hr => by
  obtain ⟨j, hj, rfl⟩ := List.mem_map.1 hr
  have hj' := List.mem_range.1 hj
  refine ⟨by simp, fun x hx => ?_⟩
  obtain ⟨i, hi, rfl⟩ := List.mem_map.1 hx
  have hi' := List.mem_range.1 hi
  have hro := h _ (List.getElem_mem hi')
  show 0 ≤ (t.getD i []).getD j 0 ∧ (t.getD i []).getD j 0 ≤ p - 1
  rw [getD_of_lt _ hi']
  have hl : j < (t[i]).length := by have := hro.1; omega
  rw [getD_of_lt _ hl]
  exact hro.2 _ (List.getElem_mem hl)

/-- A table as an answer. -/
def DtR (t : List (List Int)) (w : World) (e : Ending) (w' : World) : Prop := ∃ v, e = .returned v ∧ L2 0 w' v t ∧ Below w.heap.size w w'
theorem cycT_zero (ds : List Int) (ms : List (List (List Int))) (h0 : 0 < ds.length) : cycT ds ms 0 = List.replicate (dimN ds ((0 : Nat) : Int)) [] := by
  unfold cycT mapZ
  rw [if_neg (by omega)]
  have : dimZ ds ((0 : Nat) : Int) = ds.getD 0 0 := by
    unfold dimZ
    rw [if_pos (by omega)]
    rfl
  rw [this]
  rfl
theorem tableOf_none (d : Nat) (Z : Nat → Nat → Int) : tableOf d 0 Z = List.replicate d [] := by simp [tableOf, List.map_const']
theorem cycM_dimZ {p : Int} {ds : List Int} {ms : List (List (List Int))} (h : IsCx p ds ms) {q : Nat} (hq : q < ds.length) : dimZ ds ((q : Int) - 1) = (cycM ds q : Int) := by
  by_cases h0 : q = 0
  · subst h0
    unfold dimZ cycM
    rw [if_neg (by omega), if_pos rfl]
    rfl
  · obtain ⟨k, rfl⟩ : ∃ k, q = k + 1 := ⟨q - 1, by omega⟩
    unfold cycM
    rw [if_neg h0, show ((k + 1 : Nat) : Int) - 1 = (k : Int) by omega, show k + 1 - 1 = k from rfl, ← (dimN_le8 h k).2]
    unfold dimZ
    rw [if_pos (by omega), Int.toNat_natCast]

set_option maxHeartbeats 1600000 in
set_option maxRecDepth 100000 in
theorem differentialTable_any (p : Int) (q : Nat) (dv mv : Value) (ds : List Int) (ms : List (List (List Int))) (w : World) (h : Cx 0 w dv mv ds ms) (hcx : IsCx p ds ms) (hq : q < ds.length) :
    Calls Tryz.prog 77 #[.agg #[.int .i64 p, dv, mv], .int .i64 q] w (DtR (cycT ds ms q) w) := by
  have HX0 := Lib.hid (Bx.start (p := p) 66 h)
  have HCX := Lib.hid hcx
  have hml := hcx.1.mlen
  have hl6 := hcx.1.len1
  refine Sl.cases HX0.out.cx.dims (fun _ _ hx _ => absurd hq (by simp [hx])) (fun bd od capd hvd _ _ hcld => ?_)
  subst hvd
  have c0 := HX0.out.c0
  have c1 := HX0.out.c1
  have c2 := HX0.out.c2
  by_cases hq0 : q = 0
  · subst hq0
    obtain ⟨ud, hud, hrd⟩ := hcld 0 hq
    obtain ⟨d, hd⟩ : ∃ d, d = dimN ds ((0 : Nat) : Int) := ⟨_, rfl⟩
    have hd8 : d ≤ 8 := by rw [hd]; exact (dimN_le8 hcx 0).1
    have hcel : (w.alloc (.cells #[.int .i64 p, .slice (some ⟨bd, od, none⟩) ds.length capd, mv] 66)).cell? ⟨bd, od, none⟩ = some (.int .i64 (d : Int)) := by
      rw [Nat.add_zero] at hud
      rw [hud, hrd, ← getD_of_lt 0 hq, (dimN_le8 hcx 0).2, hd]
    have HDT : Hid (tableOf d 0 (fun _ _ => 0) = cycT ds ms 0) := Lib.hid (by rw [cycT_zero ds ms hq, tableOf_none, hd])
    have hlen : (0 : Int) < (ds.length : Int) := by omega
    clear h hcx hcld hud hrd hd
    go_enter Tryz.func77, Tryz.ntmps77
    go_wp2_with fail
    refine (zeroTable_any d 0 _ (by omega) (by omega)).mono ?_
    rintro e w1 ⟨rfl, hm1⟩
    have HM1 := Lib.hid hm1
    clear hm1 hcel c0 c1 c2
    go_wp2
    go_ret
    refine ⟨.slice (some ⟨w.heap.size + 1, 0, none⟩) d d, rfl, ?_, HX0.out.below.trans (HM1.out.below.mono HX0.out.below.size)⟩
    have hh := HM1.out.w2.l2.lower (Nat.zero_le _)
    rw [HDT.out] at hh
    simpa using hh
  · obtain ⟨k, rfl⟩ : ∃ k, q = k + 1 := ⟨q - 1, by omega⟩
    have hkm : k < ms.length := by omega
    refine Sl.cases HX0.out.cx.maps (fun _ _ hx _ => absurd hkm (by simp [hx])) (fun bm om capm hvm _ _ hclm => ?_)
    subst hvm
    obtain ⟨um, hum, hrm⟩ := hclm k hkm
    have HTE : Hid (cycT ds ms (k + 1) = tabN ms k) := Lib.hid (cycT_succ hcx hq)
    have HRM : Hid (L2 0 (w.alloc (.cells #[.int .i64 p, .slice (some ⟨bd, od, none⟩) ds.length capd, .slice (some ⟨bm, om, none⟩) ms.length capm] 66)) um (tabN ms k)) := Lib.hid (by unfold tabN; rw [getD_of_lt _ hkm]; exact hrm)
    have hne : (((k + 1 : Nat) : Int) == 0) = false := by
      have : ¬ ((k + 1 : Nat) : Int) = 0 := by omega
      simpa using this
    have hne2 : ¬ ((k : Int) + 1 = 0) := by omega
    have hwr : IntKind.i64.wrap (((k + 1 : Nat) : Int) - 1) = (k : Int) := by rw [show ((k + 1 : Nat) : Int) - 1 = (k : Int) by omega]; exact IntWalk.i64_in _ (by omega)
    have hsub : ((k : Int) + 1) - 1 = (k : Int) := by omega
    have hlt : (k : Int) < (ms.length : Int) := by omega
    clear h hcx hclm hcld hrm hq0
    go_enter Tryz.func77, Tryz.ntmps77
    go_wp2
    go_ret
    exact ⟨_, rfl, by rw [HTE.out]; exact HRM.out, HX0.out.below⟩

set_option maxHeartbeats 1600000 in
set_option maxRecDepth 100000 in
theorem kernelSpace_any (p : Int) (d c : Nat) (vt : Value) (t : List (List Int)) (w : World) (hp : IsP p) (ht : L2 0 w vt t) (htl : t.length = d) (hrow : ∀ r ∈ t, RowOk p (c : Int) r) (hd : d ≤ 40) (hc : c ≤ 1048575) :
    Calls Tryz.prog 76 #[.int .i64 p, vt, .int .i64 (c : Int)] w (VsR (SpF p d (CycS p d c t)) w) := by
  obtain ⟨at', ct, rfl⟩ := Sl.shape ht
  have hp1 := hp.lo
  have HP := Lib.hid hp
  have HT := Lib.hid ht
  have HTL := Lib.hid htl
  have HTR := Lib.hid hrow
  clear hp ht htl hrow
  go_enter Tryz.func76, Tryz.ntmps76
  go_wp2_with fail
  refine (transposedTable_any c _ t _ HT.out (by have := HTL.out; omega) (by omega) (fun r hr => by have := (HTR.out r hr).1; omega)).mono ?_
  rintro e4 W4 ⟨rfl, hm4⟩
  have HB4 := Lib.hid hm4.below
  have HT4 : Hid (L2 0 W4 (.slice (some ⟨w.heap.size, 0, none⟩) c c) (flipT c t)) := Lib.hid (hm4.w2.l2.lower (Nat.zero_le _))
  have HFR := Lib.hid (flip_row HTR.out)
  have HFL : Hid ((flipT c t).length = c) := Lib.hid (by simp [flipT, tableOf])
  clear hm4
  go_wp2_with fail
  refine (vectorsOf_any _ (flipT c t) W4 HT4.out (by have := HFL.out; omega) (fun r hr => by have := (HFR.out r hr).1; have := HTL.out; omega)).mono ?_
  rintro e5 W5 ⟨s5, M, rfl, hb5, ho5, rfl⟩
  have HB5 := Lib.hid hb5
  have HO5 := Lib.hid (ho5.vs.lower (Nat.zero_le _))
  clear hb5 ho5
  have HD : Hid ((t.length : Int) = (d : Int)) := Lib.hid (by rw [HTL.out])
  rw [HD.out]
  go_wp2_with fail
  refine (annihilator_any p d _ ((flipT c t).map ofL) _ HP.out HO5.out (vecs_md (by omega) HFR.out) (fun u hu => by have := vecs_wd (n := d) (fun r hr => by have := (HFR.out r hr).1; have := HTL.out; omega) u hu; exact this) (by omega) ?hlen).mono ?_
  case hlen => rw [List.length_map, HFL.out]; omega
  rintro e6 W6 ⟨s6, R, rfl, hb6, ho6, hsp⟩
  have HB6 := Lib.hid hb6
  have HO6 := Lib.hid ho6
  have HSP := Lib.hid hsp
  have hs5 : w.heap.size ≤ W5.heap.size := Nat.le_trans HB4.out.size HB5.out.size
  clear hb6 ho6 hsp
  go_wp2
  go_ret
  exact ⟨_, R, rfl, HB4.out.trans ((HB5.out.mono HB4.out.size).trans (HB6.out.mono hs5)), ⟨HO6.out.1, HO6.out.2.imp id (fun ⟨g, cap, cur, h1, h2, h3⟩ => ⟨g, cap, cur, h1, Nat.le_trans hs5 h2, h3⟩)⟩, HSP.out.congr (fun v => ker_cols HTL.out v)⟩

set_option maxHeartbeats 6400000 in
set_option maxRecDepth 100000 in
theorem cycleSpace_any (p : Int) (q : Nat) (dv mv : Value) (ds : List Int) (ms : List (List (List Int))) (w : World) (h : Cx 0 w dv mv ds ms) (hcx : IsCx p ds ms) (hq : q < ds.length) :
    Calls Tryz.prog 54 #[.agg #[.int .i64 p, dv, mv], .int .i64 q] w (VsR (SpF p (dimN ds (q : Int)) (CycS p (dimN ds (q : Int)) (cycM ds q) (cycT ds ms q))) w) := by
  obtain ⟨ad, cap, rfl⟩ := Sl.shape h.dims
  obtain ⟨am, capm, rfl⟩ := Sl.shape h.maps
  have HX0 := Lib.hid (Bx.start (p := p) 66 h)
  have HCX := Lib.hid hcx
  have hl6 := hcx.1.len1
  obtain ⟨w1, hw1⟩ : ∃ w1, w1 = w.alloc (.cells #[.int .i64 p, .slice ad ds.length cap, .slice am ms.length capm] 66) := ⟨_, rfl⟩
  rw [← hw1] at HX0
  have HNX : Hid (∀ W, Below w1.heap.size w1 W → Bx w W w.heap.size p (.slice ad ds.length cap) (.slice am ms.length capm) ds ms) := Lib.hid (fun W h => HX0.out.next h)
  have HOK := Lib.hid (cyc_ok hcx hq)
  have hd8 := (dimN_le8 hcx q).1
  obtain ⟨c, hc⟩ : ∃ c, c = cycM ds q := ⟨_, rfl⟩
  have hc8 : c ≤ 8 := by rw [hc]; exact HOK.out.2.2
  have hsub : ∀ w, (binOp .sub 2 (.int .i64 (q : Int)) (.int .i64 1)).run Tryz.prog w = .ok (.int .i64 ((q : Int) - 1)) w := fun w => hsubI (by omega) (by omega) w
  have HDZ : Hid (dimZ ds ((q : Int) - 1) = (c : Int)) := Lib.hid (by rw [hc]; exact cycM_dimZ hcx hq)
  have HCE := Lib.hid hc
  have HQ := Lib.hid hq
  have hs1 : w.heap.size ≤ w1.heap.size := HX0.out.below.size
  clear h hcx hc hq
  go_enter Tryz.func54, Tryz.ntmps54
  go_wp2
  rw [← hw1]
  clear hw1
  refine wp_region_held (S := fun W => Below w1.heap.size w1 W) (by kernel_rfl) ?_
  have S0 : Below w1.heap.size w1 w1.drew := (Below.refl _ _).drew
  refine held_take (i := 0) (v := .pointer (some ⟨w.heap.size, 0, none⟩)) (some 5) rfl rfl (by kernel_rfl) (by kernel_rfl) (by kernel_rfl) (fun _ _ _ h => h) (yieldsIf_run (by kernel_rfl) (fun W _ => by kernel_rfl)) S0 ?_
  refine held_take (i := 1) (v := .int .i64 p) (some 6) rfl rfl (by kernel_rfl) (by kernel_rfl) (by kernel_rfl) (fun _ _ _ h => h) (yieldsIf_cell (by kernel_rfl) rfl (by kernel_rfl) (fun W h => hload W ((HNX.out W h).c0))) S0 ?_
  refine held_take (i := 2) (v := .agg #[.int .i64 p, .slice ad ds.length cap, .slice am ms.length capm]) (some 7) rfl rfl (by kernel_rfl) (by kernel_rfl) (by kernel_rfl) (fun _ _ _ h => h) (yieldsIf_cell (by kernel_rfl) rfl (by kernel_rfl) (fun W h => hloadC W (HNX.out W h).c0 (HNX.out W h).c1 (HNX.out W h).c2)) S0 ?_
  refine held_take (i := 3) (v := .int .i64 (q : Int)) (some 8) rfl rfl (by kernel_rfl) (by kernel_rfl) (by kernel_rfl) (fun _ _ _ h => h) (yieldsIf_move (by kernel_rfl) rfl (by kernel_rfl)) S0 ?_
  refine held_take (i := 5) (v := .agg #[.int .i64 p, .slice ad ds.length cap, .slice am ms.length capm]) (some 10) rfl rfl (by kernel_rfl) (by kernel_rfl) (by kernel_rfl) (fun _ _ _ h => h) (yieldsIf_cell (by kernel_rfl) rfl (by kernel_rfl) (fun W h => hloadC W (HNX.out W h).c0 (HNX.out W h).c1 (HNX.out W h).c2)) S0 ?_
  refine held_take (i := 6) (v := .int .i64 (q : Int)) (some 11) rfl rfl (by kernel_rfl) (by kernel_rfl) (by kernel_rfl) (fun _ _ _ h => h) (yieldsIf_move (by kernel_rfl) rfl (by kernel_rfl)) S0 ?_
  refine held_take (i := 7) (v := .int .i64 ((q : Int) - 1)) (some 12) rfl rfl (by kernel_rfl) (by kernel_rfl) (by kernel_rfl) (fun _ _ _ h => h) (yieldsIf_bin (by kernel_rfl) rfl (by kernel_rfl) (by kernel_rfl) (fun _ => rfl) hsub) S0 ?_
  refine held_enter (i := 4) (some 9) (f := 77) (args := #[.agg #[.int .i64 p, .slice ad ds.length cap, .slice am ms.length capm], .int .i64 (q : Int)]) (by kernel_rfl) rfl rfl rfl (by kernel_rfl) (differentialTable_any p q _ _ ds ms _ (HNX.out _ S0).cx HCX.out HQ.out) ?_ (fun c w' h => by obtain ⟨_, h, _⟩ := h; cases h) (fun w' h => by obtain ⟨_, h, _⟩ := h; cases h)
  rintro e4 W4 ⟨v4, he4, ht4, hb4⟩
  injection he4 with he4
  subst he4
  have S1 : Below w1.heap.size w1 W4 := S0.trans (hb4.mono S0.size)
  refine ⟨S1, ?_⟩
  refine held_enter (i := 8) (some 13) (f := 78) (args := #[.agg #[.int .i64 p, .slice ad ds.length cap, .slice am ms.length capm], .int .i64 ((q : Int) - 1)]) (by kernel_rfl) rfl rfl rfl (by kernel_rfl) (dimAt_any p _ _ _ ds ms _ (HNX.out _ S1).cx (by omega)) ?_ (fun c w' h => by cases h.1) (fun w' h => by cases h.1)
  rintro e5 W5 ⟨he5, hb5⟩
  rw [HDZ.out] at he5
  injection he5 with he5
  subst he5
  have S2 : Below w1.heap.size w1 W5 := S1.trans (hb5.mono S1.size)
  refine ⟨S2, ?_⟩
  refine held_enter (i := 9) (some 14) (f := 76) (args := #[.int .i64 p, e4, .int .i64 (c : Int)]) (by kernel_rfl) rfl rfl rfl (by kernel_rfl) (kernelSpace_any p (dimN ds (q : Int)) c e4 (cycT ds ms q) _ HCX.out.1.prime (ht4.below hb5) HOK.out.1 (by rw [HCE.out]; exact HOK.out.2.1) (by omega) (by omega)) ?_ (fun c w' h => by obtain ⟨_, _, h, _⟩ := h; cases h) (fun w' h => by obtain ⟨_, _, h, _⟩ := h; cases h)
  rintro e6 W6 ⟨s6, R, he6, hb6, ho6, hsp⟩
  injection he6 with he6
  subst he6
  have S3 : Below w1.heap.size w1 W6 := S2.trans (hb6.mono S2.size)
  have HB6 := Lib.hid (HNX.out _ S3).below
  have hs5 : w.heap.size ≤ W5.heap.size := Nat.le_trans hs1 S2.size
  have HO6 := Lib.hid ho6
  have HSP := Lib.hid hsp
  refine ⟨S3, ?_⟩
  refine held_take (i := 10) (v := e6) (some 4) rfl rfl (by kernel_rfl) (by kernel_rfl) (by kernel_rfl) (fun _ _ _ h => h) (yieldsIf_assign (by kernel_rfl) rfl (by kernel_rfl)) S3 ?_
  refine wpAnyH_done (by kernel_rfl) ?_ _
  simp only [Act.put, List.setIfInBounds_toArray, List.set_cons_zero, List.set_cons_succ]
  clear S0 S1 S2 S3 hb4 hb5 hb6 ho6 hsp ht4
  go_wp2
  go_ret
  refine ⟨_, R, rfl, HB6.out, ⟨HO6.out.1, HO6.out.2.imp id (fun ⟨g, cap, cur, h1, h2, h3⟩ => ⟨g, cap, cur, h1, Nat.le_trans hs5 h2, h3⟩)⟩, ?_⟩
  rw [← HCE.out]
  exact HSP.out

end Go.Proofs.YtlopenephgabhaaGreat


namespace Go.Proofs.YtlopenephgabhaaGreat
open Go.RowKit

/-- The slice u holds tables, in a row of its own. -/
def Gt (base : Nat) (w : World) (u : Value) (ts : List (List (List Int))) : Prop := ∃ vs, w.ownsRow base 22 1 u ts.length vs ∧ ∀ k (h1 : k < vs.length) (h2 : k < ts.length), Gs 0 w vs[k] ts[k]
theorem Gt.new {base : Nat} (w : World) (hb : base ≤ w.heap.size) : Gt base (w.alloc (.cells #[] 22)) (.slice (some ⟨w.heap.size, 0, none⟩) 0 0) [] :=
  ⟨[], by simpa using World.ownsRow_made (base := base) (e := 22) (size := 1) w #[] 0 hb (by unfold maxLen; omega) (by simp), fun k h1 _ => absurd h1 (Nat.not_lt_zero _)⟩
theorem Gs.new {base : Nat} (w : World) (hb : base ≤ w.heap.size) : Gs base (w.alloc (.cells #[] 47)) (.slice (some ⟨w.heap.size, 0, none⟩) 0 0) [] :=
  ⟨[], by simpa using World.ownsRow_made (base := base) (e := 47) (size := 1) w #[] 0 hb (by unfold maxLen; omega) (by simp), fun k h1 _ => absurd h1 (Nat.not_lt_zero _)⟩
theorem Gb.new {base : Nat} (w : World) (hb : base ≤ w.heap.size) : Gb base (w.alloc (.cells #[] 2)) (.slice (some ⟨w.heap.size, 0, none⟩) 0 0) [] := by
  have := World.ownsRow_made (base := base) (e := 2) (size := 1) w #[] 0 hb (by unfold maxLen; omega) (by simp)
  simpa [Gb] using this
section
variable {ops : Array Oper} {rest : List Oper} {Q : Exit → Act → World → Prop}
end
end Go.Proofs.YtlopenephgabhaaGreat


namespace Go.Proofs.YtlopenephgabhaaGreat
open Go.RowKit

/-- An interval of cells: block, offset, length. -/
abbrev Iv := Nat × Nat × Nat
def ivSize (I : List Iv) : Nat := (I.map (·.2.2)).sum
theorem ivSize_append (A B : List Iv) : ivSize (A ++ B) = ivSize A + ivSize B := by simp [ivSize]
def Apart (x y : Iv) : Prop := x.1 ≠ y.1 ∨ x.2.1 + x.2.2 ≤ y.2.1 ∨ y.2.1 + y.2.2 ≤ x.2.1
def Disj (I : List Iv) : Prop := I.Pairwise Apart
def InIv (I : List Iv) (b o : Nat) : Prop := ∃ x ∈ I, x.1 = b ∧ x.2.1 ≤ o ∧ o < x.2.1 + x.2.2
/-- Numbers stand there that may be written. -/
def Nums (lo hi : Nat) (w : World) (I : List Iv) : Prop := ∀ x ∈ I, lo ≤ x.1 ∧ x.1 < hi ∧ ∀ i, i < x.2.2 → (∃ z : Int, w.cell? ⟨x.1, x.2.1 + i, none⟩ = some (.int .i64 z)) ∧ w.frozen? ⟨x.1, x.2.1 + i, none⟩ = false
/-- Outside of the intervals all cells are as they were. -/
def OutC (I : List Iv) (w w' : World) : Prop := ∀ b o, ¬ InIv I b o → w'.cell? ⟨b, o, none⟩ = w.cell? ⟨b, o, none⟩
/-- The numbers from k on stand there. -/
def Marked (w : World) : List Iv → Int → Prop
  | [], _ => True
  | x :: I, k => (∀ i, i < x.2.2 → w.cell? ⟨x.1, x.2.1 + i, none⟩ = some (.int .i64 (k + (i : Int)))) ∧ Marked w I (k + (x.2.2 : Int))
theorem Nums.tame {lo hi : Nat} {w w' : World} {I : List Iv} (h : Nums lo hi w I) (t : Tame w w') : Nums lo hi w' I := fun x hx => ⟨(h x hx).1, (h x hx).2.1, fun i hi => by
  obtain ⟨⟨z, hz⟩, hf⟩ := (h x hx).2.2 i hi
  exact ⟨t.nums _ _ _ hz, (t.frozen _ _).trans hf⟩⟩
theorem Nums.same {lo hi : Nat} {w w' : World} {I : List Iv} (h : Nums lo hi w I) (s : Same lo hi w w') : Nums lo hi w' I := fun x hx => ⟨(h x hx).1, (h x hx).2.1, fun i hi => by
  obtain ⟨⟨z, hz⟩, hf⟩ := (h x hx).2.2 i hi
  have hb := s x.1 (h x hx).1 (h x hx).2.1
  exact ⟨⟨z, (World.cell?_of_block (w := w) (a := ⟨x.1, x.2.1 + i, none⟩) hb).trans hz⟩, (World.frozen?_of_block (w := w) (a := ⟨x.1, x.2.1 + i, none⟩) hb).trans hf⟩⟩
theorem Nums.sub {lo hi : Nat} {w : World} {I J : List Iv} (h : Nums lo hi w I) (s : ∀ x ∈ J, x ∈ I) : Nums lo hi w J := fun x hx => h x (s x hx)
theorem Nums.wider {lo hi lo' hi' : Nat} {w : World} {I : List Iv} (h : Nums lo hi w I) (h1 : lo' ≤ lo) (h2 : hi ≤ hi') : Nums lo' hi' w I := fun x hx => ⟨by have := (h x hx).1; omega, by have := (h x hx).2.1; omega, (h x hx).2.2⟩
theorem OutC.refl (I : List Iv) (w : World) : OutC I w w := fun _ _ _ => rfl
theorem OutC.trans {A B : List Iv} {a b c : World} (h : OutC A a b) (k : OutC B b c) : OutC (A ++ B) a c := fun x o hn => by
  rw [k x o (fun ⟨y, hy, e⟩ => hn ⟨y, List.mem_append_right _ hy, e⟩), h x o (fun ⟨y, hy, e⟩ => hn ⟨y, List.mem_append_left _ hy, e⟩)]
theorem Marked.append {w : World} {A B : List Iv} {k : Int} (h : Marked w A k) (h2 : Marked w B (k + (ivSize A : Int))) : Marked w (A ++ B) k := by
  induction A generalizing k with
  | nil => simpa [ivSize] using h2
  | cons x A ih =>
    refine ⟨h.1, ih h.2 ?_⟩
    have : k + (x.2.2 : Int) + (ivSize A : Int) = k + (ivSize (x :: A) : Int) := by simp [ivSize]; omega
    rw [this]
    exact h2
theorem Marked.parts {w : World} {A B : List Iv} {k : Int} (h : Marked w (A ++ B) k) : Marked w A k ∧ Marked w B (k + (ivSize A : Int)) := by
  induction A generalizing k with
  | nil => exact ⟨trivial, by simpa [ivSize] using h⟩
  | cons x A ih =>
    obtain ⟨h1, h2⟩ := ih h.2
    refine ⟨⟨h.1, h1⟩, ?_⟩
    have : k + (x.2.2 : Int) + (ivSize A : Int) = k + (ivSize (x :: A) : Int) := by simp [ivSize]; omega
    rw [← this]
    exact h2
theorem Marked.keep {w w' : World} {A B : List Iv} {k : Int} (h : Marked w A k) (o : OutC B w w') (d : ∀ x ∈ A, ∀ y ∈ B, Apart x y) : Marked w' A k := by
  induction A generalizing k with
  | nil => trivial
  | cons x A ih =>
    refine ⟨fun i hi => ?_, ih h.2 (fun y hy => d y (List.mem_cons_of_mem _ hy))⟩
    rw [o x.1 (x.2.1 + i) (fun ⟨y, hy, e1, e2, e3⟩ => by have := d x List.mem_cons_self y hy; unfold Apart at this; omega)]
    exact h.1 i hi
theorem Marked.same {lo hi : Nat} {w w' : World} {I : List Iv} {k : Int} (h : Marked w I k) (hI : ∀ x ∈ I, lo ≤ x.1 ∧ x.1 < hi) (s : Same lo hi w w') : Marked w' I k := by
  induction I generalizing k with
  | nil => trivial
  | cons x A ih =>
    refine ⟨fun i hi => ?_, ih h.2 (fun y hy => hI y (List.mem_cons_of_mem _ hy))⟩
    have hb := s x.1 (hI x List.mem_cons_self).1 (hI x List.mem_cons_self).2
    exact (World.cell?_of_block (w := w) (a := ⟨x.1, x.2.1 + i, none⟩) hb).trans (h.1 i hi)

/-- The slice v is an interval, or empty. -/
def S1 (lo hi : Nat) (_ : World) (v : Value) (I : List Iv) : Prop :=
  (I = [] ∧ ∃ ad cap, v = .slice ad 0 cap) ∨ ∃ b o n cap, I = [(b, o, n)] ∧ 0 < n ∧ n ≤ 1048576 ∧ lo ≤ b ∧ b < hi ∧ v = .slice (some ⟨b, o, none⟩) n cap
def flat (J : Nat → List Iv) (m : Nat) : List Iv := (List.range m).flatMap J
theorem flat_succ (J : Nat → List Iv) (m : Nat) : flat J (m + 1) = flat J m ++ J m := by simp [flat, List.range_succ]
theorem flat_part (J : Nat → List Iv) {j m : Nat} (h : j ≤ m) : ∃ r, flat J m = flat J j ++ r := by
  induction m with
  | zero => exact ⟨[], by rw [show j = 0 by omega]; simp⟩
  | succ m ih =>
    by_cases e : j = m + 1
    · exact ⟨[], by rw [e]; simp⟩
    · obtain ⟨r, hr⟩ := ih (by omega)
      exact ⟨r ++ J m, by rw [flat_succ, hr, List.append_assoc]⟩
theorem flat_mem {J : Nat → List Iv} {j m : Nat} (h : j < m) : ∀ x ∈ J j, x ∈ flat J m := fun _ hx => List.mem_flatMap.2 ⟨j, List.mem_range.2 h, hx⟩
theorem flat_apart {J : Nat → List Iv} {j m : Nat} (h : j < m) (d : Disj (flat J m)) : ∀ x ∈ flat J j, ∀ y ∈ J j, Apart x y := by
  obtain ⟨r, hr⟩ := flat_part J (show j + 1 ≤ m by omega)
  have d2 : (flat J j ++ J j).Pairwise Apart := by
    have : Disj ((flat J j ++ J j) ++ r) := by rw [← flat_succ, ← hr]; exact d
    exact (List.pairwise_append.1 this).1
  exact (List.pairwise_append.1 d2).2.2
theorem flat_size {J : Nat → List Iv} {j m : Nat} (h : j < m) : ivSize (flat J j) + ivSize (J j) ≤ ivSize (flat J m) := by
  obtain ⟨r, hr⟩ := flat_part J (show j + 1 ≤ m by omega)
  rw [hr, flat_succ, ivSize_append, ivSize_append]
  omega
/-- A slice of such slices. -/
def SS (S : World → Value → List Iv → Prop) (lo hi : Nat) (w : World) (v : Value) (I : List Iv) : Prop :=
  ∃ (ad : Option Addr) (m cap : Nat) (f : Nat → Value) (J : Nat → List Iv), v = .slice ad m cap ∧ m ≤ 1048576 ∧ I = flat J m ∧ (∀ j, j < m → S w (f j) (J j)) ∧ (0 < m → ∃ b o, ad = some ⟨b, o, none⟩ ∧ lo ≤ b ∧ b < hi ∧ ∀ j, j < m → w.cell? ⟨b, o + j, none⟩ = some (f j))
def S2 (lo hi : Nat) := SS (S1 lo hi) lo hi
def S3 (lo hi : Nat) := SS (S2 lo hi) lo hi
theorem S1.shape {lo hi : Nat} {w : World} {v : Value} {I : List Iv} (h : S1 lo hi w v I) : ∃ a n c, v = .slice a n c := by
  rcases h with ⟨_, ad, cap, h⟩ | ⟨b, o, n, cap, _, _, _, _, _, h⟩
  · exact ⟨ad, 0, cap, h⟩
  · exact ⟨_, n, cap, h⟩
theorem SS.keep {S : World → Value → List Iv → Prop} {lo hi : Nat} {w w' : World} {v : Value} {I : List Iv} (h : SS S lo hi w v I) (hS : ∀ v I, S w v I → S w' v I) (hc : ∀ b o v, lo ≤ b → b < hi → (∃ a n c, v = .slice a n c) → w.cell? ⟨b, o, none⟩ = some v → w'.cell? ⟨b, o, none⟩ = some v)
    (hs : ∀ v I, S w v I → ∃ a n c, v = .slice a n c) : SS S lo hi w' v I := by
  obtain ⟨ad, m, cap, f, J, h1, h2, h3, h4, h5⟩ := h
  refine ⟨ad, m, cap, f, J, h1, h2, h3, fun j hj => hS _ _ (h4 j hj), fun hm => ?_⟩
  obtain ⟨b, o, e, hb, hb2, hcl⟩ := h5 hm
  exact ⟨b, o, e, hb, hb2, fun j hj => hc _ _ _ hb hb2 (hs _ _ (h4 j hj)) (hcl j hj)⟩
theorem S2.tame {lo hi : Nat} {w w' : World} {v : Value} {I : List Iv} (h : S2 lo hi w v I) (t : Tame w w') : S2 lo hi w' v I :=
  SS.keep h (fun _ _ h => h) (fun b o v _ _ ⟨a, n, c, e⟩ hc => by subst e; exact t.slices _ _ _ _ _ hc) (fun _ _ h => S1.shape h)
theorem S2.same {lo hi : Nat} {w w' : World} {v : Value} {I : List Iv} (h : S2 lo hi w v I) (s : Same lo hi w w') : S2 lo hi w' v I :=
  SS.keep h (fun _ _ h => h) (fun b o _ hb hb2 _ hc => (World.cell?_of_block (w := w) (a := ⟨b, o, none⟩) (s b hb hb2)).trans hc) (fun _ _ h => S1.shape h)
def MarkS (lo hi : Nat) (I : List Iv) (k : Int) (w : World) (e : Ending) (w' : World) : Prop := e = .returned (.int .i64 (k + (ivSize I : Int))) ∧ Only lo hi w w' ∧ Tame w w' ∧ OutC I w w' ∧ Marked w' I k

set_option maxHeartbeats 800000 in
theorem mark1s_any {lo hi : Nat} (v : Value) (I : List Iv) (k : Int) (w : World) (h : S1 lo hi w v I) (hn : Nums lo hi w I) (hk0 : 0 ≤ k) (hk1 : k ≤ 4611686018427387904) :
    Calls Tryz.prog 29 #[v, .int .i64 k] w (MarkS lo hi I k w) := by
  rcases h with ⟨rfl, ad, cap, rfl⟩ | ⟨b, o, n, cap, rfl, hpos, hm, hlo, hhi, rfl⟩
  · go_enter Tryz.func29, Tryz.ntmps29
    go_wp2
    refine wp_loop_rounds 1 ?_
    rw [rounds_succ]
    go_wp2
    go_ret
    exact ⟨ret_int (by simp [ivSize]), Only.refl _ _ _, Tame.refl _, OutC.refl _ _, trivial⟩
  · have HN := Lib.hid (hn (b, o, n) (by simp)).2.2
    clear hn
    go_enter Tryz.func29, Tryz.ntmps29
    go_wp2
    go_loopw [1, 5] (fun kk i wr => ∃ (j : Nat), j ≤ n ∧ i = .int .i64 j ∧ kk = .int .i64 (k + (j : Int)) ∧ Hid (Only lo hi w wr ∧ Tame w wr ∧ OutC [(b, o, n)] w wr) ∧ Hid (∀ q, q < n → ∃ x, wr.cell? ⟨b, o + q, none⟩ = some (.int .i64 x) ∧ (q < j → x = k + (q : Int))) ∧ Hid (∀ q, q < n → wr.frozen? ⟨b, o + q, none⟩ = false)) (fun _ i _ => n - (intOf i).toNat)
    case atStart => exact ⟨0, Nat.zero_le _, rfl, by simp, Lib.hid ⟨Only.refl _ _ _, Tame.refl _, OutC.refl _ _⟩, Lib.hid (fun q hq => by
      obtain ⟨⟨x, hx⟩, _⟩ := HN.out q hq
      exact ⟨x, hx, fun h => absurd h (Nat.not_lt_zero _)⟩), Lib.hid (fun q hq => (HN.out q hq).2)⟩
    case round =>
      clear HN
      obtain ⟨j, hj, rfl, rfl, HO, HX, HZ⟩ := hrel
      by_cases hlt : j < n
      · obtain ⟨x, hx, _⟩ := HX.out j hlt
        have hz := HZ.out j hlt
        have HN : Hid (∀ q, q < n → ∃ x, (wr.setCell ⟨b, o + j, none⟩ (.int .i64 (k + (j : Int)))).cell? ⟨b, o + q, none⟩ = some (.int .i64 x) ∧ (q < j + 1 → x = k + (q : Int))) := Lib.hid (fun q hq => by
          obtain ⟨y, hy, hy2⟩ := HX.out q hq
          by_cases e : q = j
          · subst e
            exact ⟨k + (q : Int), World.cell?_setCell_same _ _ _ hy, fun _ => rfl⟩
          · refine ⟨y, ?_, fun h => hy2 (by omega)⟩
            rw [World.cell?_setCell_other _ _ _ _ (fun hh => e (by have h2 := congrArg Addr.off hh; exact (Nat.add_left_cancel h2).symm))]
            exact hy)
        have HZ2 : Hid (∀ q, q < n → (wr.setCell ⟨b, o + j, none⟩ (.int .i64 (k + (j : Int)))).frozen? ⟨b, o + q, none⟩ = false) := Lib.hid (fun q hq => by rw [World.frozen?_setCell]; exact HZ.out q hq)
        have HO2 : Hid (Only lo hi w (wr.setCell ⟨b, o + j, none⟩ (.int .i64 (k + (j : Int)))) ∧ Tame w (wr.setCell ⟨b, o + j, none⟩ (.int .i64 (k + (j : Int)))) ∧ OutC [(b, o, n)] w (wr.setCell ⟨b, o + j, none⟩ (.int .i64 (k + (j : Int))))) := Lib.hid ⟨HO.out.1.trans (Only.set _ hlo hhi), HO.out.2.1.trans (Tame.set hx), fun b2 o2 hn2 => by
          rw [World.cell?_setCell_other _ _ _ _ (fun hh => hn2 (by
            have h1 := congrArg Addr.block hh
            have h2 := congrArg Addr.off hh
            simp only at h1 h2
            exact ⟨(b, o, n), by simp, h1, by show o ≤ o2; omega, by show o2 < o + n; omega⟩))]
          exact HO.out.2.2 b2 o2 hn2⟩
        go_wp2
        go_roundw
        case rel => exact ⟨j + 1, by omega, by go_num, by go_num, HO2, HN, HZ2⟩
        case measure => simp [intOf]; omega
      · have hjj : Hid (j = n) := Lib.hid (by omega)
        go_wp2
        go_ret
        refine ⟨ret_int (by rw [hjj.out]; simp [ivSize]), HO.out.1, HO.out.2.1, HO.out.2.2, fun q hq => ?_, trivial⟩
        obtain ⟨x, hx, hx2⟩ := HX.out q hq
        rw [hx, hx2 (by have := hjj.out; simp only at hq; omega)]

set_option maxHeartbeats 800000 in
theorem held1s_any {lo hi : Nat} (v : Value) (I : List Iv) (k : Int) (w : World) (h : S1 lo hi w v I) (hm : Marked w I k) (hk0 : 0 ≤ k) (hk1 : k ≤ 4611686018427387904) :
    Calls Tryz.prog 30 #[v, .int .i64 k] w (QW (.int .i64 (k + (ivSize I : Int))) w) := by
  rcases h with ⟨rfl, ad, cap, rfl⟩ | ⟨b, o, n, cap, rfl, hpos, hn, hlo, hhi, rfl⟩
  · have := held1_any (lo := 0) (.slice ad 0 cap) 0 k w (Or.inl ⟨rfl, _, _, rfl⟩) (by omega) hk0 hk1
    simpa [ivSize] using this
  · have := held1_any (lo := 0) (.slice (some ⟨b, o, none⟩) n cap) n k w (Or.inr ⟨b, o, cap, by rw [upFrom_length], Nat.zero_le _, by rw [upFrom_length]; exact hpos, fun q hq => by
      rw [upFrom_length] at hq
      refine ⟨_, hm.1 q hq, ?_⟩
      simp only [IsI, upFrom, List.getElem_map, List.getElem_range]⟩) hn hk0 hk1
    simpa [ivSize] using this

set_option maxHeartbeats 1600000 in
theorem mark2s_any {lo hi : Nat} (v : Value) (I : List Iv) (k : Int) (w : World) (h : S2 lo hi w v I) (hn : Nums lo hi w I) (hd : Disj I) (hk0 : 0 ≤ k) (hk1 : k + (ivSize I : Int) ≤ 4611686018427387904) :
    Calls Tryz.prog 12 #[v, .int .i64 k] w (MarkS lo hi I k w) := by
  obtain ⟨ad, m, cap, f, J, rfl, hm, rfl, hs, hc⟩ := h
  have HS := Lib.hid hs
  have HN := Lib.hid hn
  have HD := Lib.hid hd
  clear hs hn hd
  by_cases h0 : m = 0
  · subst h0
    clear hc
    go_enter Tryz.func12, Tryz.ntmps12
    go_wp2
    refine wp_loop_rounds 1 ?_
    rw [rounds_succ]
    go_wp2
    go_ret
    exact ⟨ret_int (by simp [ivSize, flat]), Only.refl _ _ _, Tame.refl _, OutC.refl _ _, trivial⟩
  · obtain ⟨b, o, rfl, hlo, hhi, hcl⟩ := hc (by omega)
    have HC := Lib.hid hcl
    have HK := Lib.hid hk1
    clear hcl hc hk1
    go_enter Tryz.func12, Tryz.ntmps12
    go_wp2
    go_loopw [1, 5] (fun kk i wr => ∃ (j : Nat) (s : Int), j ≤ m ∧ i = .int .i64 j ∧ kk = .int .i64 s ∧ Hid (s = k + (ivSize (flat J j) : Int)) ∧ Hid (Only lo hi w wr ∧ Tame w wr ∧ OutC (flat J j) w wr ∧ Marked wr (flat J j) k)) (fun _ i _ => m - (intOf i).toNat)
    case atStart => exact ⟨0, k, Nat.zero_le _, rfl, rfl, Lib.hid (by simp [flat, ivSize]), Lib.hid ⟨Only.refl _ _ _, Tame.refl _, OutC.refl _ _, trivial⟩⟩
    case round =>
      obtain ⟨j, s, hj, rfl, rfl, HSU, HO⟩ := hrel
      by_cases hlt : j < m
      · obtain ⟨a1, n1, c1, hu1⟩ := S1.shape (HS.out j hlt)
        have hu := HC.out j hlt
        rw [hu1] at hu
        have hu' := HO.out.2.1.slices _ _ _ _ _ hu
        have hs := HS.out
        have hsz := flat_size (J := J) hlt
        have hs0 : 0 ≤ s ∧ s ≤ 4611686018427387904 := by have := HSU.out; have := HK.out; omega
        have HM1 := Lib.hid (mark1s_any (f j) (J j) s wr (hs j hlt) ((HN.out.sub (flat_mem hlt)).tame HO.out.2.1) (by omega) (by omega))
        rw [hu1] at HM1
        have HS2 : Hid (s + (ivSize (J j) : Int) = k + (ivSize (flat J (j + 1)) : Int)) := Lib.hid (by have := HSU.out; rw [flat_succ, ivSize_append]; omega)
        clear hu hu1 hs hsz
        go_wp2_with fail
        refine HM1.out.mono ?_
        rintro e w2 ⟨rfl, ho, ht, hout, hmk⟩
        have HO2 : Hid (Only lo hi w w2 ∧ Tame w w2 ∧ OutC (flat J (j + 1)) w w2 ∧ Marked w2 (flat J (j + 1)) k) := Lib.hid ⟨HO.out.1.trans ho, HO.out.2.1.trans ht, by rw [flat_succ]; exact HO.out.2.2.1.trans hout, by
          rw [flat_succ]
          exact (HO.out.2.2.2.keep hout (flat_apart hlt HD.out)).append (by rw [← HSU.out]; exact hmk)⟩
        have hs1 : 0 ≤ s + (ivSize (J j) : Int) ∧ s + (ivSize (J j) : Int) ≤ 4611686018427387904 := by
          have h1 := HS2.out
          have h2 := HK.out
          have h3 : ivSize (flat J (j + 1)) ≤ ivSize (flat J m) := by
            obtain ⟨r, hr⟩ := flat_part J (show j + 1 ≤ m by omega)
            rw [hr, ivSize_append]; omega
          omega
        clear ho ht hout hmk HM1
        go_wp2
        go_roundw
        case rel => exact ⟨j + 1, s + (ivSize (J j) : Int), by omega, by go_num, rfl, HS2, HO2⟩
        case measure => simp [intOf]; omega
      · have hjj : Hid (j = m) := Lib.hid (by omega)
        go_wp2
        go_ret
        have h := HO.out
        have h2 := HSU.out
        rw [hjj.out] at h h2
        exact ⟨ret_int h2, h.1, h.2.1, h.2.2.1, h.2.2.2⟩

set_option maxHeartbeats 1600000 in
theorem held2s_any {lo hi : Nat} (v : Value) (I : List Iv) (k : Int) (w : World) (h : S2 lo hi w v I) (hn : Marked w I k) (hk0 : 0 ≤ k) (hk1 : k + (ivSize I : Int) ≤ 4611686018427387904) :
    Calls Tryz.prog 13 #[v, .int .i64 k] w (QW (.int .i64 (k + (ivSize I : Int))) w) := by
  obtain ⟨ad, m, cap, f, J, rfl, hm, rfl, hs, hc⟩ := h
  have HS := Lib.hid hs
  have HN := Lib.hid hn
  clear hs hn
  by_cases h0 : m = 0
  · subst h0
    clear hc
    go_enter Tryz.func13, Tryz.ntmps13
    go_wp2
    refine wp_loop_rounds 1 ?_
    rw [rounds_succ]
    go_wp2
    go_ret
    exact ⟨ret_int (by simp [ivSize, flat]), rfl⟩
  · obtain ⟨b, o, rfl, hlo, hhi, hcl⟩ := hc (by omega)
    have HC := Lib.hid hcl
    have HK := Lib.hid hk1
    clear hcl hc hk1
    go_enter Tryz.func13, Tryz.ntmps13
    go_wp2
    go_loop [1, 5] (fun kk i => ∃ (j : Nat) (s : Int), j ≤ m ∧ i = .int .i64 j ∧ kk = .int .i64 s ∧ Hid (s = k + (ivSize (flat J j) : Int))) (fun _ i => m - (intOf i).toNat)
    case atStart => exact ⟨0, k, Nat.zero_le _, rfl, rfl, Lib.hid (by simp [flat, ivSize])⟩
    case round =>
      obtain ⟨j, s, hj, rfl, rfl, HSU⟩ := hrel
      by_cases hlt : j < m
      · obtain ⟨a1, n1, c1, hu1⟩ := S1.shape (HS.out j hlt)
        have hu' := HC.out j hlt
        rw [hu1] at hu'
        have hs := HS.out
        have hsz := flat_size (J := J) hlt
        have hs0 : 0 ≤ s ∧ s ≤ 4611686018427387904 := by have := HSU.out; have := HK.out; omega
        have hmk : Marked w (J j) s := by
          obtain ⟨r, hr⟩ := flat_part J (show j + 1 ≤ m by omega)
          have h := HN.out
          rw [hr, flat_succ] at h
          have h2 := h.parts.1.parts.2
          rw [← HSU.out] at h2
          exact h2
        have HM1 := Lib.hid (held1s_any (f j) (J j) s w (hs j hlt) hmk (by omega) (by omega))
        rw [hu1] at HM1
        have HS2 : Hid (s + (ivSize (J j) : Int) = k + (ivSize (flat J (j + 1)) : Int)) := Lib.hid (by have := HSU.out; rw [flat_succ, ivSize_append]; omega)
        clear hu1 hs hsz hmk
        go_wp2_with fail
        refine HM1.out.mono ?_
        rintro e w2 ⟨rfl, rfl⟩
        have hneg : ¬ (s + (ivSize (J j) : Int) < 0) := by omega
        have hs1 : 0 ≤ s + (ivSize (J j) : Int) ∧ s + (ivSize (J j) : Int) ≤ 4611686018427387904 := by
          have h1 := HS2.out
          have h2 := HK.out
          have h3 : ivSize (flat J (j + 1)) ≤ ivSize (flat J m) := by
            obtain ⟨r, hr⟩ := flat_part J (show j + 1 ≤ m by omega)
            rw [hr, ivSize_append]; omega
          omega
        clear hu' HM1
        go_wp2
        go_round
        case rel => exact ⟨j + 1, s + (ivSize (J j) : Int), by omega, by go_num, rfl, HS2⟩
        case measure => simp [intOf]; omega
      · have hjj : Hid (j = m) := Lib.hid (by omega)
        go_wp2
        go_ret
        have h2 := HSU.out
        rw [hjj.out] at h2
        exact ⟨ret_int h2, rfl⟩

end Go.Proofs.YtlopenephgabhaaGreat


namespace Go.Proofs.YtlopenephgabhaaGreat
open Go.RowKit

/-- The table at block g: its row of rows there, row j at block g + 1 + j, number i of it Z j i. -/
structure Tb (W : World) (g r c : Nat) (Z : Nat → Nat → Int) : Prop where
  top : W.rowIs g 47 r (fun j => .slice (some ⟨g + 1 + j, 0, none⟩) c c)
  rows : ∀ j, j < r → W.rowIs (g + 1 + j) 2 c (fun i => .int .i64 (Z j i))
  lt : g + 1 + r ≤ W.heap.size
end Go.Proofs.YtlopenephgabhaaGreat


namespace Go.Proofs.YtlopenephgabhaaGreat
open Go.RowKit

theorem S1.wider {lo hi lo' hi' : Nat} {W : World} {u : Value} {I : List Iv} (h : S1 lo hi W u I) (h1 : lo' ≤ lo) (h2 : hi ≤ hi') : S1 lo' hi' W u I := by
  rcases h with h | ⟨b, o, n, cap, e, a, b1, c, d, f⟩
  · exact Or.inl h
  · exact Or.inr ⟨b, o, n, cap, e, a, b1, by omega, by omega, f⟩
theorem SS.wider {S S' : World → Value → List Iv → Prop} {lo hi lo' hi' : Nat} {W : World} {u : Value} {I : List Iv} (h : SS S lo hi W u I) (hS : ∀ v I, S W v I → S' W v I) (h1 : lo' ≤ lo) (h2 : hi ≤ hi') : SS S' lo' hi' W u I := by
  obtain ⟨ad, m, cap, f, J, a, b, c, d, e⟩ := h
  refine ⟨ad, m, cap, f, J, a, b, c, fun j hj => hS _ _ (d j hj), fun hm => ?_⟩
  obtain ⟨b, o, x1, x2, x3, x4⟩ := e hm
  exact ⟨b, o, x1, by omega, by omega, x4⟩
theorem S2.wider {lo hi lo' hi' : Nat} {W : World} {u : Value} {I : List Iv} (h : S2 lo hi W u I) (h1 : lo' ≤ lo) (h2 : hi ≤ hi') : S2 lo' hi' W u I := SS.wider h (fun _ _ k => S1.wider k h1 h2) h1 h2
theorem S3.wider {lo hi lo' hi' : Nat} {W : World} {u : Value} {I : List Iv} (h : S3 lo hi W u I) (h1 : lo' ≤ lo) (h2 : hi ≤ hi') : S3 lo' hi' W u I := SS.wider h (fun _ _ k => S2.wider k h1 h2) h1 h2

/-- A result of 1 level(s) in blocks from lo up to hi, its numbers apart from each other. -/
def Rw1 (lo hi : Nat) (W : World) (u : Value) (out : List Int) : Prop := W1 lo hi W u out ∧ ∃ I, S1 lo hi W u I ∧ Nums lo hi W I ∧ Disj I ∧ ivSize I ≤ 1048576
/-- The same with the marks from 1 on in it. -/
def Hw1 (lo hi : Nat) (W : World) (u : Value) (m : Int) : Prop := ∃ I, S1 lo hi W u I ∧ Marked W I 1 ∧ (∀ x ∈ I, lo ≤ x.1 ∧ x.1 < hi) ∧ m = 1 + (ivSize I : Int) ∧ ivSize I ≤ 1048576
/-- What the mark of a result leaves. -/
def MkR1 (lo hi : Nat) (u : Value) (w : World) (e : Ending) (w' : World) : Prop := ∃ m : Int, e = .returned (.int .i64 m) ∧ 1 ≤ m ∧ m ≤ 4611686018427387904 ∧ Only lo hi w w' ∧ Hw1 lo hi w' u m
theorem markR1_any {lo hi : Nat} {u : Value} {out : List Int} {w : World} (h : Rw1 lo hi w u out) : Calls Tryz.prog 29 #[u, .int .i64 1] w (MkR1 lo hi u w) := by
  obtain ⟨_, I, h2, h3, h4, h5⟩ := h
  refine (mark1s_any u I 1 w h2 h3 (by omega) (by omega)).mono fun e w' ⟨he, ho, ht, _, hm⟩ => ⟨_, he, by omega, by omega, ho, I, h2, hm, fun x hx => ⟨(h3 x hx).1, (h3 x hx).2.1⟩, rfl, h5⟩
/-- A result of 2 level(s) in blocks from lo up to hi, its numbers apart from each other. -/
def Rw2 (lo hi : Nat) (W : World) (u : Value) (out : List (List Int)) : Prop := W2 lo hi W u out ∧ ∃ I, S2 lo hi W u I ∧ Nums lo hi W I ∧ Disj I ∧ ivSize I ≤ 1099511627776
theorem Rw2.same {lo hi : Nat} {W W' : World} {u : Value} {out : List (List Int)} (h : Rw2 lo hi W u out) (s : Same lo hi W W') : Rw2 lo hi W' u out := by
  obtain ⟨h1, I, h2, h3, h4, h5⟩ := h
  exact ⟨h1.same s, I, h2.same s, h3.same s, h4, h5⟩
theorem Rw2.next {lo hi : Nat} {W W' : World} {u : Value} {out : List (List Int)} (h : Rw2 lo hi W u out) (hb : Below W.heap.size W W') (hh : hi ≤ W.heap.size) : Rw2 lo hi W' u out := h.same (Same.of_below hb hh)
theorem Rw2.wider {lo hi lo' hi' : Nat} {W : World} {u : Value} {out : List (List Int)} (h : Rw2 lo hi W u out) (h1 : lo' ≤ lo) (h2 : hi ≤ hi') : Rw2 lo' hi' W u out := by
  obtain ⟨a, I, b, c, d, e⟩ := h
  exact ⟨a.wider h1 h2, I, b.wider h1 h2, c.wider h1 h2, d, e⟩
theorem Rw2.l {lo hi : Nat} {W : World} {u : Value} {out : List (List Int)} (h : Rw2 lo hi W u out) : L2 0 W u out := h.1.l2.lower (Nat.zero_le _)
theorem Rw2.shape {lo hi : Nat} {W : World} {u : Value} {out : List (List Int)} (h : Rw2 lo hi W u out) : ∃ ad cap, u = .slice ad out.length cap := Sw.shape h.1
theorem Rw2.nil (lo hi : Nat) (W : World) : Rw2 lo hi W (.slice none 0 0) [] := ⟨Or.inl ⟨rfl, _, _, rfl⟩, [], ⟨none, 0, 0, fun _ => .slice none 0 0, fun _ => [], rfl, by omega, rfl, fun _ h => absurd h (Nat.not_lt_zero _), fun h => absurd h (Nat.lt_irrefl _)⟩, fun _ h => absurd h (by simp), List.Pairwise.nil, by simp [ivSize]⟩
/-- The same with the marks from 1 on in it. -/
def Hw2 (lo hi : Nat) (W : World) (u : Value) (m : Int) : Prop := ∃ I, S2 lo hi W u I ∧ Marked W I 1 ∧ (∀ x ∈ I, lo ≤ x.1 ∧ x.1 < hi) ∧ m = 1 + (ivSize I : Int) ∧ ivSize I ≤ 1099511627776
theorem Hw2.same {lo hi : Nat} {W W' : World} {u : Value} {m : Int} (h : Hw2 lo hi W u m) (s : Same lo hi W W') : Hw2 lo hi W' u m := by
  obtain ⟨I, h2, h3, h4, h5⟩ := h
  exact ⟨I, h2.same s, h3.same h4 s, h4, h5⟩
/-- What the mark of a result leaves. -/
def MkR2 (lo hi : Nat) (u : Value) (w : World) (e : Ending) (w' : World) : Prop := ∃ m : Int, e = .returned (.int .i64 m) ∧ 1 ≤ m ∧ m ≤ 4611686018427387904 ∧ Only lo hi w w' ∧ Hw2 lo hi w' u m
theorem markR2_any {lo hi : Nat} {u : Value} {out : List (List Int)} {w : World} (h : Rw2 lo hi w u out) : Calls Tryz.prog 12 #[u, .int .i64 1] w (MkR2 lo hi u w) := by
  obtain ⟨_, I, h2, h3, h4, h5⟩ := h
  refine (mark2s_any u I 1 w h2 h3 h4 (by omega) (by omega)).mono fun e w' ⟨he, ho, ht, _, hm⟩ => ⟨_, he, by omega, by omega, ho, I, h2.tame ht, hm, fun x hx => ⟨(h3 x hx).1, (h3 x hx).2.1⟩, rfl, h5⟩
theorem heldR2_any {lo hi : Nat} {u : Value} {m : Int} {w : World} (h : Hw2 lo hi w u m) : Calls Tryz.prog 13 #[u, .int .i64 1] w (QW (.int .i64 m) w) := by
  obtain ⟨I, h2, h3, _, rfl, h5⟩ := h
  exact held2s_any u I 1 w h2 h3 (by omega) (by omega)

/-- Lists of intervals in spans of blocks one behind the other are apart. -/
theorem disj_spans {J : Nat → List Iv} {b : Nat → Nat} {n : Nat} (hi : ∀ j, j < n → b j ≤ b (j + 1)) (hJ : ∀ j, j < n → ∀ x ∈ J j, b j ≤ x.1 ∧ x.1 < b (j + 1)) (hd : ∀ j, j < n → Disj (J j)) : Disj (flat J n) ∧ ∀ x ∈ flat J n, x.1 < b n := by
  induction n with
  | zero => exact ⟨List.Pairwise.nil, fun x hx => absurd hx (by simp [flat])⟩
  | succ n ih =>
    obtain ⟨h1, h2⟩ := ih (fun j hj => hi j (by omega)) (fun j hj => hJ j (by omega)) (fun j hj => hd j (by omega))
    rw [flat_succ]
    refine ⟨List.pairwise_append.2 ⟨h1, hd n (by omega), fun x hx y hy => Or.inl ?_⟩, fun x hx => ?_⟩
    · have a := h2 x hx
      have c := (hJ n (by omega) y hy).1
      omega
    · rcases List.mem_append.1 hx with h | h
      · have a := h2 x h
        have c := hi n (by omega)
        omega
      · exact (hJ n (by omega) x h).2
theorem size_spans {J : Nat → List Iv} {n B : Nat} (h : ∀ j, j < n → ivSize (J j) ≤ B) : ivSize (flat J n) ≤ B * n := by
  induction n with
  | zero => simp [flat, ivSize]
  | succ n ih =>
    have h1 := ih (fun j hj => h j (by omega))
    have h2 := h n (by omega)
    rw [flat_succ, ivSize_append, Nat.mul_succ]
    omega
theorem nums_flat {lo hi : Nat} {W : World} {J : Nat → List Iv} {n : Nat} (h : ∀ j, j < n → Nums lo hi W (J j)) : Nums lo hi W (flat J n) := fun x hx => by
  obtain ⟨j, hj, hx⟩ := List.mem_flatMap.1 hx
  exact h j (List.mem_range.1 hj) x hx
theorem choose2 {α : Type} [Inhabited α] {P : Nat → α → Prop} {n : Nat} (h : ∀ j, j < n → ∃ a, P j a) : ∃ f : Nat → α, ∀ j, j < n → P j (f j) :=
  ⟨fun j => if hj : j < n then Classical.choose (h j hj) else default, fun j hj => by simp only [dif_pos hj]; exact Classical.choose_spec (h j hj)⟩

/-- Tables while they are laid into a row of tables at block g: k of them are there. -/
structure Fill3 (wr : World) (g n k : Nat) (f : Nat → Value) (b : Nat → Nat) (ts : List (List (List Int))) : Prop where
  row : wr.rowIs g 22 n f
  lo : g < b 0
  inc : ∀ j, j < k → b j ≤ b (j + 1)
  hi : b k ≤ wr.heap.size
  at' : ∀ j (h : j < ts.length), j < k → Rw2 (b j) (b (j + 1)) wr (f j) ts[j]
theorem Fill3.next {wr w' : World} {g n k : Nat} {f : Nat → Value} {b : Nat → Nat} {ts : List (List (List Int))} (h : Fill3 wr g n k f b ts) (hb : Below wr.heap.size wr w') (hm : ∀ j, j < k → b (j + 1) ≤ b k) : Fill3 w' g n k f b ts :=
  ⟨h.row.of_block (hb.block _ h.row.lt), h.lo, h.inc, Nat.le_trans h.hi hb.size, fun j hj hk => (h.at' j hj hk).next hb (Nat.le_trans (hm j hk) h.hi)⟩
theorem inc_le {b : Nat → Nat} {k : Nat} (h : ∀ j, j < k → b j ≤ b (j + 1)) : ∀ j, j ≤ k → b j ≤ b k := by
  intro j hj
  induction k with
  | zero => rw [show j = 0 by omega]; exact Nat.le_refl _
  | succ k ih =>
    by_cases e : j = k + 1
    · rw [e]; exact Nat.le_refl _
    · exact Nat.le_trans (ih (fun i hi => h i (by omega)) (by omega)) (h k (by omega))
theorem Fill3.below {wr w' : World} {g n k : Nat} {f : Nat → Value} {b : Nat → Nat} {ts : List (List (List Int))} (h : Fill3 wr g n k f b ts) (hb : Below wr.heap.size wr w') : Fill3 w' g n k f b ts := h.next hb (fun j hj => inc_le h.inc (j + 1) hj)
theorem Fill3.step {wr w1 : World} {g n k : Nat} {f : Nat → Value} {b : Nat → Nat} {ts : List (List (List Int))} {u : Value} (h : Fill3 wr g n k f b ts) (hb : Below wr.heap.size wr w1) (hk : k < ts.length) (hu : Rw2 wr.heap.size w1.heap.size w1 u ts[k]) :
    Fill3 (w1.setCell ⟨g, k, none⟩ u) g n (k + 1) (fun j => if j = k then u else f j) (fun j => if j < k then b j else if j = k then wr.heap.size else w1.heap.size) ts := by
  have hlt := h.row.lt
  have hr : w1.rowIs g 22 n f := h.row.of_block (hb.block _ hlt)
  have hsm : ∀ lo hi, g < lo → Same lo hi w1 (w1.setCell ⟨g, k, none⟩ u) := fun lo hi hl => Same.set u (Or.inl hl)
  refine ⟨hr.set k u, ?_, fun j hj => ?_, ?_, fun j hj hjk => ?_⟩
  · by_cases e : 0 < k
    · simp only [if_pos e]; exact h.lo
    · simp only [if_neg e, if_pos (show 0 = k by omega)]; exact hlt
  · by_cases e : j < k
    · simp only [if_pos e]
      by_cases e2 : j + 1 < k
      · simp only [if_pos e2]; exact h.inc j e
      · simp only [if_neg e2, if_pos (show j + 1 = k by omega)]
        have := inc_le h.inc j (by omega)
        have := h.hi
        omega
    · simp only [if_neg e, if_pos (show j = k by omega), if_neg (show ¬ j + 1 < k by omega), if_neg (show ¬ j + 1 = k by omega)]
      exact hb.size
  · simp only [if_neg (show ¬ k + 1 < k by omega), if_neg (show ¬ k + 1 = k by omega)]
    simp
  · by_cases e : j = k
    · subst e
      simp only [if_neg (show ¬ j < j by omega), if_neg (show ¬ j + 1 < j by omega), if_neg (show ¬ j + 1 = j by omega), if_true]
      exact hu.same (hsm _ _ hlt)
    · have hj' : j < k := by omega
      have hh := inc_le h.inc (j + 1) hj'
      have h0 := inc_le (b := b) (k := j) (fun i hi => h.inc i (by omega)) 0 (Nat.zero_le _)
      have hl0 := h.lo
      have ht := ((h.at' j hj hj').next hb (Nat.le_trans hh h.hi)).same (hsm _ _ (by omega))
      simp only [if_neg e, if_pos hj']
      by_cases e2 : j + 1 < k
      · simp only [if_pos e2]; exact ht
      · simp only [if_neg e2, if_pos (show j + 1 = k by omega)]
        exact ht.wider (Nat.le_refl _) (Nat.le_trans hh h.hi)
/-- What a function answers beside a code. -/
structure RsOut {α : Type} (P : α → Prop) (z : α) (c0 : Int) (out : α) (c : Int) : Prop where
  good : c0 = 0 → P out
  bad : c0 ≠ 0 → out = z
  code : c = c0
theorem RsOut.unique {α : Type} {P : α → Prop} {z : α} {c0 : Int} {o1 o2 : α} {c1 c2 : Int} (hu : c0 = 0 → ∀ a b, P a → P b → a = b) (h1 : RsOut P z c0 o1 c1) (h2 : RsOut P z c0 o2 c2) : o1 = o2 ∧ c1 = c2 := by
  refine ⟨?_, h1.code.trans h2.code.symm⟩
  by_cases h0 : c0 = 0
  · exact hu h0 _ _ (h1.good h0) (h2.good h0)
  · rw [h1.bad h0, h2.bad h0]
theorem RsOut.all {α : Type} {P : α → Prop} {z : α} {c0 : Int} {o : α} {c : Int} (h : RsOut P z c0 o c) {Q : α → Prop} (hz : Q z) (hb : c0 = 0 → ∀ a, P a → Q a) : Q o := by
  by_cases h0 : c0 = 0
  · exact hb h0 _ (h.good h0)
  · rw [h.bad h0]
    exact hz
theorem RsOut.of_no {α : Type} {P : α → Prop} {z : α} {c0 : Int} (h : c0 ≠ 0) : RsOut P z c0 z c0 := ⟨fun h0 => absurd h0 h, fun _ => rfl, rfl⟩
theorem RsOut.of_yes {α : Type} {P : α → Prop} {z : α} {c0 : Int} {o : α} (h : c0 = 0) (hp : P o) : RsOut P z c0 o 0 := ⟨fun _ => hp, fun hh => absurd h hh, h.symm⟩
/-- The answer of the program: a result in memory of its own, and a code; and that of the model. -/
def AnsW {α : Type} (R : Nat → Nat → World → Value → α → Prop) (P : α → Prop) (z : α) (c0 : Int) (w : World) (e : Ending) (w' : World) : Prop :=
  ∃ (u : Value) (out : α) (c : Int), e = .returned (.tuple #[u, .int .i64 c]) ∧ R w.heap.size w'.heap.size w' u out ∧ Below w.heap.size w w' ∧ RsOut P z c0 out c
def AnsS {α : Type} (R : World → Value → α → Prop) (P : α → Prop) (z : α) (c0 : Int) (w : World) (e : Ending) (w' : World) : Prop :=
  ∃ (u : Value) (out : α) (c : Int), e = .returned (.tuple #[u, .int .i64 c]) ∧ R w' u out ∧ Below w.heap.size w w' ∧ RsOut P z c0 out c
end Go.Proofs.YtlopenephgabhaaGreat


namespace Go.Proofs.YtlopenephgabhaaGreat
open Go.RowKit

/-! ### The conditions of the program. -/
/-! ### What a test keeps of the places. -/
def kept (P : Nat → Bool) (d : Nat) : List Nat := (List.range d).filter P
end Go.Proofs.YtlopenephgabhaaGreat

namespace Go.Proofs.YtlopenephgabhaaGreat
open Go.RowKit

end Go.Proofs.YtlopenephgabhaaGreat

namespace Go.Proofs.YtlopenephgabhaaGreat
open Go.RowKit

end Go.Proofs.YtlopenephgabhaaGreat

namespace Go.Proofs.YtlopenephgabhaaGreat
open Go.RowKit

end Go.Proofs.YtlopenephgabhaaGreat

namespace Go.Proofs.YtlopenephgabhaaGreat
open Go.RowKit

end Go.Proofs.YtlopenephgabhaaGreat

namespace Go.Proofs.YtlopenephgabhaaGreat
open Go.RowKit

end Go.Proofs.YtlopenephgabhaaGreat

namespace Go.Proofs.YtlopenephgabhaaGreat
open Go.RowKit

end Go.Proofs.YtlopenephgabhaaGreat

namespace Go.Proofs.YtlopenephgabhaaGreat
open Go.RowKit

end Go.Proofs.YtlopenephgabhaaGreat


namespace Go.Proofs.YtlopenephgabhaaGreat
open Go.RowKit

/-- A table in blocks of its own. -/
theorem Tb.rw2h {lo hi : Nat} {W : World} {g r c : Nat} {Z : Nat → Nat → Int} (h : Tb W g r c Z) (hl : lo ≤ g) (hh : g + 1 + r ≤ hi) (hr : r ≤ 1048576) (hc : c ≤ 1048576) : Rw2 lo hi W (.slice (some ⟨g, 0, none⟩) r r) (tableOf r c Z) := by
  have hlt := hh
  refine ⟨?_, ?_⟩
  · by_cases h0 : r = 0
    · subst h0
      exact Or.inl ⟨rfl, _, _, rfl⟩
    · refine Or.inr ⟨g, 0, r, by simp [tableOf], hl, by omega, by simp [tableOf]; omega, fun k hk => ?_, fun k _ => h.top.frozen _⟩
      have hk' : k < r := by simpa [tableOf] using hk
      refine ⟨_, by rw [Nat.zero_add]; exact h.top.cell hk', ?_⟩
      simp only [tableOf, List.getElem_map, List.getElem_range]
      by_cases hc : c = 0
      · subst hc
        exact Or.inl ⟨rfl, _, _, rfl⟩
      · refine Or.inr ⟨g + 1 + k, 0, c, by simp, by omega, by omega, by simp; omega, fun i hi => ?_, fun i _ => (h.rows k hk').frozen _⟩
        have hi' : i < c := by simpa using hi
        refine ⟨_, by rw [Nat.zero_add]; exact (h.rows k hk').cell hi', ?_⟩
        simp only [IsI, List.getElem_map, List.getElem_range]
  · refine ⟨flat (fun j => if c = 0 then [] else [(g + 1 + j, 0, c)]) r, ⟨some ⟨g, 0, none⟩, r, r, fun j => .slice (some ⟨g + 1 + j, 0, none⟩) c c, fun j => if c = 0 then [] else [(g + 1 + j, 0, c)], rfl, hr, rfl, fun j hj => ?_, fun _ => ⟨g, 0, rfl, hl, by omega, fun j hj => by rw [Nat.zero_add]; exact h.top.cell hj⟩⟩, nums_flat (fun j hj => ?_), ?_, ?_⟩
    · by_cases hc0 : c = 0
      · subst hc0
        exact Or.inl ⟨by simp, _, _, rfl⟩
      · exact Or.inr ⟨g + 1 + j, 0, c, c, if_neg hc0, by omega, hc, by omega, by omega, rfl⟩
    · intro x hx
      by_cases hc0 : c = 0
      · rw [if_pos hc0] at hx; simp at hx
      · rw [if_neg hc0] at hx
        obtain rfl : x = (g + 1 + j, 0, c) := by simpa using hx
        exact ⟨by show lo ≤ g + 1 + j; omega, by show g + 1 + j < _; omega, fun i hi => ⟨⟨Z j i, by rw [Nat.zero_add]; exact (h.rows j hj).cell hi⟩, (h.rows j hj).frozen _⟩⟩
    · refine (disj_spans (b := fun j => g + 1 + j) (fun j _ => by omega) (fun j _ x hx => ?_) (fun j _ => ?_)).1
      · by_cases hc0 : c = 0
        · rw [if_pos hc0] at hx; simp at hx
        · rw [if_neg hc0] at hx
          obtain rfl : x = (g + 1 + j, 0, c) := by simpa using hx
          exact ⟨Nat.le_refl _, by show g + 1 + j < g + 1 + (j + 1); omega⟩
      · by_cases hc0 : c = 0
        · rw [if_pos hc0]; exact List.Pairwise.nil
        · rw [if_neg hc0]; exact List.pairwise_singleton _ _
    · have := size_spans (J := fun j => if c = 0 then [] else [(g + 1 + j, 0, c)]) (n := r) (B := c) (fun j _ => by
        by_cases hc0 : c = 0
        · simp [hc0, ivSize]
        · simp [hc0, ivSize])
      have h2 : c * r ≤ 1048576 * 1048576 := Nat.mul_le_mul hc hr
      omega
theorem Fill3.parts {wr : World} {g n : Nat} {f : Nat → Value} {b : Nat → Nat} {ts : List (List (List Int))} (h : Fill3 wr g n n f b ts) (hn : n = ts.length) (hs : n ≤ 1048576) : W3 g wr.heap.size wr (.slice (some ⟨g, 0, none⟩) n n) ts ∧ ∃ J, S3 g wr.heap.size wr (.slice (some ⟨g, 0, none⟩) n n) J ∧ Nums (b 0) wr.heap.size wr J ∧ Disj J ∧ ivSize J ≤ 1152921504606846976 := by
  have hlt := h.row.lt
  have h1 : ∀ j, j < n → Rw2 g wr.heap.size wr (f j) (ts.getD j []) := fun j hj => by
    rw [getD_of_lt _ (by omega)]
    have a1 := inc_le h.inc (j + 1) hj
    have a2 := inc_le (b := b) (k := j) (fun i hi => h.inc i (by omega)) 0 (Nat.zero_le _)
    have a3 := h.lo
    exact (h.at' j (by omega) hj).wider (by omega) (Nat.le_trans a1 h.hi)
  refine ⟨?_, ?_⟩
  · by_cases h0 : n = 0
    · exact Or.inl ⟨List.eq_nil_of_length_eq_zero (by omega), _, _, by rw [h0]⟩
    · refine Or.inr ⟨g, 0, n, by rw [hn], Nat.le_refl _, hlt, by omega, fun k hk => ?_, fun k _ => h.row.frozen _⟩
      refine ⟨f k, by rw [Nat.zero_add]; exact h.row.cell (by omega), ?_⟩
      have := (h1 k (by omega)).1
      rwa [getD_of_lt _ hk] at this
  · have hex : ∀ j, j < n → ∃ I, S2 (b j) (b (j + 1)) wr (f j) I ∧ Nums (b j) (b (j + 1)) wr I ∧ Disj I ∧ ivSize I ≤ 1099511627776 := fun j hj => (h.at' j (by omega) hj).2
    obtain ⟨J, hJ⟩ := choose2 hex
    have hw : ∀ j, j < n → g ≤ b j ∧ b (j + 1) ≤ wr.heap.size := fun j hj => by
      have a1 := inc_le h.inc (j + 1) hj
      have a2 := inc_le (b := b) (k := j) (fun i hi => h.inc i (by omega)) 0 (Nat.zero_le _)
      have a3 := h.lo
      have a4 := h.hi
      omega
    refine ⟨flat J n, ⟨some ⟨g, 0, none⟩, n, n, f, J, rfl, hs, rfl, fun j hj => (hJ j hj).1.wider (hw j hj).1 (hw j hj).2, fun _ => ⟨g, 0, rfl, Nat.le_refl _, hlt, fun j hj => by rw [Nat.zero_add]; exact h.row.cell hj⟩⟩, nums_flat (fun j hj => (hJ j hj).2.1.wider (inc_le (b := b) (k := j) (fun i hi => h.inc i (by omega)) 0 (Nat.zero_le _)) (hw j hj).2), (disj_spans h.inc (fun j hj x hx => ⟨((hJ j hj).2.1 x hx).1, ((hJ j hj).2.1 x hx).2.1⟩) (fun j hj => (hJ j hj).2.2.1)).1, ?_⟩
    have h2 := size_spans (J := J) (n := n) (B := 1099511627776) (fun j hj => (hJ j hj).2.2.2)
    have h3 : 1099511627776 * n ≤ 1099511627776 * 1048576 := Nat.mul_le_mul (Nat.le_refl _) hs
    omega


/-- A complex that a function answers: numbers in blocks from lo up to hi, apart from each other. -/
def RcW (lo hi : Nat) (W : World) (dv mv : Value) (ds : List Int) (ms : List (List (List Int))) : Prop :=
  CxW lo hi W dv mv ds ms ∧ ∃ I J, S1 lo hi W dv I ∧ S3 lo hi W mv J ∧ Nums lo hi W I ∧ Nums lo hi W J ∧ Disj J ∧ (∀ x ∈ I, ∀ y ∈ J, Apart x y) ∧ ivSize I ≤ 1048576 ∧ ivSize J ≤ 1152921504606846976
/-- Prime, dimensions and tables of a complex. -/
abbrev Co := Int × List Int × List (List (List Int))
def RwC (lo hi : Nat) (W : World) (u : Value) (o : Co) : Prop := ∃ ad cd am cm, u = .agg #[.int .i64 o.1, .slice ad o.2.1.length cd, .slice am o.2.2.length cm] ∧ RcW lo hi W (.slice ad o.2.1.length cd) (.slice am o.2.2.length cm) o.2.1 o.2.2
/-- A row of numbers in a block of its own. -/
theorem row_rc {W : World} {g n lo : Nat} {f : Nat → Value} {xs : List Int} (h : W.rowIs g 2 n f) (hl : xs.length = n) (hf : ∀ i (h : i < xs.length), f i = .int .i64 xs[i]) (hn : n ≤ 1048576) (hb : lo ≤ g) :
    W1 lo W.heap.size W (.slice (some ⟨g, 0, none⟩) n n) xs ∧ ∃ I, S1 lo W.heap.size W (.slice (some ⟨g, 0, none⟩) n n) I ∧ Nums lo W.heap.size W I ∧ (∀ x ∈ I, x.1 = g) ∧ ivSize I ≤ 1048576 := by
  have hlt := h.lt
  by_cases h0 : n = 0
  · subst h0
    exact ⟨Or.inl ⟨List.eq_nil_of_length_eq_zero hl, _, _, rfl⟩, [], Or.inl ⟨rfl, _, _, rfl⟩, fun _ hx => absurd hx (by simp), fun _ hx => absurd hx (by simp), by simp [ivSize]⟩
  · refine ⟨Or.inr ⟨g, 0, n, by rw [hl], hb, hlt, by omega, fun k hk => ⟨f k, by rw [Nat.zero_add]; exact h.cell (by omega), hf k hk⟩, fun k _ => h.frozen _⟩, [(g, 0, n)], Or.inr ⟨g, 0, n, n, rfl, by omega, hn, hb, hlt, rfl⟩, fun x hx => ?_, fun x hx => ?_, by simpa [ivSize] using hn⟩
    · obtain rfl : x = (g, 0, n) := by simpa using hx
      exact ⟨hb, hlt, fun i hi => ⟨⟨xs[i]'(by rw [hl]; exact hi), by rw [Nat.zero_add, ← hf i (by rw [hl]; exact hi)]; exact h.cell hi⟩, h.frozen _⟩⟩
    · obtain rfl : x = (g, 0, n) := by simpa using hx
      rfl
end Go.Proofs.YtlopenephgabhaaGreat


namespace Go.Proofs.YtlopenephgabhaaGreat
open Go.RowKit

/-- The three cells of a box of a complex. -/
def box3 (p : Int) (a b : Value) : Nat → Value := fun i => if i = 0 then .int .i64 p else if i = 1 then a else b
/-- The dual while it is being made: its box, its list of dimensions, its list of tables, each in a block of its own. -/
structure Du (w wx : World) (g bd bm n m : Nat) (p : Int) (D M : Nat → Value) : Prop where
  below : Below w.heap.size w wx
  lo : w.heap.size ≤ g ∧ w.heap.size ≤ bd ∧ w.heap.size ≤ bm
  ne : g ≠ bd ∧ g ≠ bm ∧ bd ≠ bm
  box : wx.rowIs g 66 3 (box3 p (.slice (some ⟨bd, 0, none⟩) n n) (.slice (some ⟨bm, 0, none⟩) m m))
  dims : wx.rowIs bd 2 n D
  maps : wx.rowIs bm 22 m M
theorem Du.setD {w wx : World} {g bd bm n m : Nat} {p : Int} {D M : Nat → Value} (h : Du w wx g bd bm n m p D M) (k : Nat) (v : Value) : Du w (wx.setCell ⟨bd, k, none⟩ v) g bd bm n m p (fun j => if j = k then v else D j) M :=
  ⟨h.below.setCell h.lo.2.1 _, h.lo, h.ne, h.box.setOther h.ne.1 _, h.dims.set k v, h.maps.setOther (Ne.symm h.ne.2.2) _⟩
theorem Du.next {w wx w' : World} {g bd bm n m : Nat} {p : Int} {D M : Nat → Value} (h : Du w wx g bd bm n m p D M) (hb : Below wx.heap.size wx w') : Du w w' g bd bm n m p D M :=
  ⟨h.below.trans (hb.mono h.below.size), h.lo, h.ne, h.box.of_block (hb.block _ h.box.lt), h.dims.of_block (hb.block _ h.dims.lt), h.maps.of_block (hb.block _ h.maps.lt)⟩
theorem Du.congr {w wx : World} {g bd bm n m : Nat} {p : Int} {D D' M : Nat → Value} (h : Du w wx g bd bm n m p D M) (e : ∀ j, j < n → D j = D' j) : Du w wx g bd bm n m p D' M := ⟨h.below, h.lo, h.ne, h.box, h.dims.congr e, h.maps⟩
end Go.Proofs.YtlopenephgabhaaGreat


namespace Go.Proofs.YtlopenephgabhaaGreat
open Go.RowKit

/-- Three cells of a block. -/
def sel3 (x y z : Value) : Nat → Value := fun i => if i = 0 then x else if i = 1 then y else z
theorem rowIs3 {w : World} {b : Nat} {x y z : Value} {t : TypeId} (h : w.heap[b]? = some (.cells #[x, y, z] t)) : w.rowIs b t 3 (sel3 x y z) :=
  ⟨#[x, y, z], h, rfl, fun i hi => by
    match i, hi with
    | 0, _ => rfl
    | 1, _ => rfl
    | 2, _ => rfl⟩
end Go.Proofs.YtlopenephgabhaaGreat


namespace Go.Proofs.YtlopenephgabhaaGreat
open Go.RowKit

section
variable {w w' : World} {base size n k : Nat} {e t : TypeId} {u v : Value} {xs : List Value} {g : Nat} {f : Nat → Value}
theorem owns_off (ho : w.ownsRow base e size u n xs) (hr : w.rowIs g t k f) (h : t ≠ e) (i : Nat) (x : Value) : (w.setCell ⟨g, i, none⟩ x).ownsRow base e size u n xs := by
  obtain ⟨c, hc, _⟩ := hr
  refine ⟨ho.1, ?_⟩
  rcases ho.2 with h2 | ⟨g2, cap, cur, hu, hb, hh, r⟩
  · exact Or.inl h2
  · refine Or.inr ⟨g2, cap, cur, hu, hb, ?_, r⟩
    rw [Below.heap_setCell w _ x g2 (by
      intro e2
      have e3 : g2 = g := e2
      subst e3
      rw [hc] at hh
      simp at hh
      exact h hh.2)]
    exact hh
end
theorem Gb.off {base : Nat} {w : World} {g k : Nat} {t : TypeId} {f : Nat → Value} {u : Value} {xs : List Int} (h : Gb base w u xs) (hr : w.rowIs g t k f) (ht : t ≠ 2) (i : Nat) (x : Value) : Gb base (w.setCell ⟨g, i, none⟩ x) u xs := owns_off h hr ht i x
section
variable {o : Oper} {a : Act} {w : World} {K : Act → World → Prop} {Q : Exit → Act → World → Prop}
theorem wp_appendB1 (dst : Option Tmp) (hdst : o.dst = dst) (s x : Operand) (ho : o.op = .call { callee := .builtin .append, args := #[s, x], argTypes := #[47, 47] }) (base : Nat) (v : Value) (xs : List Int) (hs : a.eval s = v) (hown : Gb base w v xs)
    (b : Nat) (hx : a.eval x = .slice (some ⟨b, 0, none⟩) 1 1) (z : Int) (hc : w.cell? ⟨b, 0, none⟩ = some (.int .i64 z)) (hl : xs.length ≤ 2097151) (hb : base ≤ w.heap.size)
    (h : ∀ g cap w', Gb base w' (.slice (some ⟨g, 0, none⟩) (xs.length + 1) cap) (xs ++ [z]) → w.grownBy w' v.ownBlock → K (a.put dst (.slice (some ⟨g, 0, none⟩) (xs.length + 1) cap)) w') : o.wp Tryz.prog a w K Q := by
  obtain ⟨i, hi, hz, hs1, hb1⟩ := info_parts Tryz.infoI
  subst hdst
  refine wp_append_lies w s x 47 ho base 2 i _ 1 8 Tryz.underlying47 hi hz hs1 hb1 rfl (by decide) v xs.length (xs.map (Value.int .i64)) hs hown ⟨b, 0, none⟩ 1 1 [.int .i64 z] hx rfl ?_ ?_ (by omega) (by unfold maxLen; omega) (by omega) hb _ rfl (fun g cap w' h1 h2 _ _ => h g cap w' (by simpa [Gb] using h1) h2)
  · intro j u hj
    match j, hj with
    | 0, hj =>
      simp at hj
      subst hj
      exact hc
  · intro u hu
    simp at hu
    subst hu
    rfl
end
section
variable {P : Program} {ops : Array Oper} {Q : Exit → Act → World → Prop} {md : Region.Mode} {S : World → Prop}
/-- An operation that makes memory, alone to come up. -/
theorem held_mem {i : Nat} {oi : Oper} {fuel : Nat} {listed : Array Bool} {a : Act} {w w' : World} {v : Value} (d : Option Tmp) (hr : Region.ready md ops listed = [i]) (hi : ops[i]? = some oi) (hg : oi.guard = none) (hd : oi.dst = d)
    (h : (execOp a.eval oi).run P w = .ok (.value v) w') (hS : S w') (hh : wpAnyH P md ops Q S fuel (listed.setIfInBounds i true) (a.put d v) w') : wpAnyH P md ops Q S (fuel + 1) listed a w := by
  subst hd
  refine held_call hr hi hg ?_
  unfold Oper.wp
  rw [h]
  exact ⟨hS, hh⟩
end

end Go.Proofs.YtlopenephgabhaaGreat


namespace Go.Proofs.YtlopenephgabhaaGreat
open Go.RowKit

section
variable {P : Program} {ops : Array Oper} {Q : Exit → Act → World → Prop} {md : Region.Mode} {S : World → Prop}
/-- A drawn region within a round, its last operation apart. -/
theorem wpIn_region_last {l m id : Nat} {a : Act} {w : World} {on : Oper} (S : World → Prop) (n : Nat) (hm : P.follows .mixedOrders = true) (hd : noDefer ops = true) (hno : ¬ LetsOut Q) (hn : ops[n]? = some on) (hB : lastB .any ops n = true)
    (h : wpAnyH P .any (ops.setIfInBounds n (calmOp on)) (lastQ P ops n Q) S ops.size (Array.replicate ops.size false) a { w with drawn := w.drawn + 1 }) : (Code.region id ops true).wpIn (Fence.wide.inRound l) m P Q a w := by
  have hl := lastB_ok hn hB
  refine wpIn_region_any hm (wpAnyIn_of (noDefer_spec hd) hno _ _ _ _ (any_of_calm (S := S) hl _ _ _ _ (by simp) ?_ h))
  have := hl.size
  have hlt : n < ops.size := by omega
  simp [hlt]
/-- append, by the run's equation. -/
theorem held_app {i : Nat} {oi : Oper} {fuel : Nat} {listed : Array Bool} {a : Act} {w w' : World} {v x y : Value} (d : Option Tmp) (ta : Array TypeId) (l c : Operand) (hr : Region.ready md ops listed = [i]) (hi : ops[i]? = some oi) (hg : oi.guard = none) (hd : oi.dst = d)
    (ho : oi.op = .call { callee := .builtin .append, args := #[l, c], argTypes := ta }) (hl : a.eval l = x) (hc : a.eval c = y) (h : ∀ ty, (Builtin.append_ ta ty #[x, y]).run P w = .ok v w') (hS : S w') (hh : wpAnyH P md ops Q S fuel (listed.setIfInBounds i true) (a.put d v) w') : wpAnyH P md ops Q S (fuel + 1) listed a w :=
  held_mem d hr hi hg hd (by simp [execOp, ho, resolve, invoke, builtin, hl, hc, h, Result.andThen]) hS hh
end
section
variable {ops : Array Oper} {Q : Exit → Act → World → Prop} {n : Nat}
theorem lastQ_storeN {on : Oper} {a : Act} {w : World} (hn : ops[n]? = some on) (hg : on.guard = none) (_ : on.dst = none) (x y : Operand) (ho : on.op = .store 47 x y)
    (b o : Nat) (ad : Option Addr) (l c : Nat) (u : Value) (hx : a.eval x = .pointer (some ⟨b, o, none⟩)) (hy : a.eval y = .slice ad l c) (hc : w.cell? ⟨b, o, none⟩ = some u) (hf : w.frozen? ⟨b, o, none⟩ = false)
    (h : Q .normal a (w.setCell ⟨b, o, none⟩ (.slice ad l c))) : lastQ Tryz.prog ops n Q .normal a w :=
  lastQ_of hn hg (by
    unfold Oper.wp execOp
    simp only [ho, hx, hy]
    go_simp
    exact h)
end

/-- append of a row: where the new one lies. -/
theorem run_append_at {base : Nat} (w : World) (ty : TypeId) (v : Value) (xs : List Int) (hown : Gb base w v xs) (u : Value) (ys : List Int) (hy : L1 0 w u ys) (h63 : xs.length + ys.length ≤ 2097152) (hb : base ≤ w.heap.size) :
    ∃ v' w', (Builtin.append_ #[47, 47] ty #[v, u]).run Tryz.prog w = .ok v' w' ∧ Gb base w' v' (xs ++ ys) ∧ w.grownBy w' v.ownBlock ∧ (v'.ownBlock = v.ownBlock ∨ v'.ownBlock = some w.heap.size) := by
  obtain ⟨i, hi, hz, hs, hbt⟩ := info_parts Tryz.infoI
  rcases hy with ⟨rfl, ad, cap, rfl⟩ | ⟨b, o, cap, rfl, _, hpos, hc⟩
  · exact ⟨v, w, run_append_none' w _ _ _ i Tryz.underlying47 hi hown ad cap, by rw [List.append_nil]; exact hown, ⟨rfl, rfl, rfl, Nat.le_refl _, fun _ _ _ => rfl⟩, .inl rfl⟩
  · obtain ⟨g, cp, w', hr, h2, h3, h4, _⟩ := run_append_lies (P := Tryz.prog) (w := w) 47 ty base 2 i _ 1 8 Tryz.underlying47 hi hz hs hbt (by rfl) (by decide) v xs.length (xs.map (Value.int .i64)) hown ⟨b, o, none⟩ ys.length cap (ys.map (Value.int .i64)) (by simp)
      (fun j u hj => by
        have hj' : j < ys.length := by have := (List.getElem?_eq_some_iff.1 hj).1; simpa using this
        obtain ⟨u2, hu2, hr2⟩ := hc j hj'
        rw [Addr.add_mid, hu2, hr2]
        simp [hj'] at hj
        rw [← hj]) (fun u hu => by
        obtain ⟨y, _, rfl⟩ := List.mem_map.1 hu
        rfl) hpos (by unfold maxLen; omega) (by omega) hb w.heap.size rfl
    refine ⟨_, w', hr, by simpa [Gb] using h2, h3, ?_⟩
    rcases h4 with h4 | h4
    · exact .inl h4.symm
    · exact .inr (by rw [h4]; rfl)

/-- What a block that a list of numbers owns is. -/
theorem own_cells {base : Nat} {W : World} {v : Value} {xs : List Int} (h : Gb base W v xs) {g : Nat} (hg : v.ownBlock = some g) : ∃ c, W.heap[g]? = some (.cells c 2 (0, 0)) ∧ base ≤ g := by
  rcases h.2 with ⟨rfl, _⟩ | ⟨g', cap, cur, rfl, hb, hgb, _⟩
  · cases hg
  · obtain rfl : g' = g := by simpa [Value.ownBlock] using hg
    exact ⟨cur, hgb, hb⟩
theorem own_lt {base : Nat} {W : World} {v : Value} {xs : List Int} (h : Gb base W v xs) {g : Nat} (hg : v.ownBlock = some g) : g < W.heap.size := by
  obtain ⟨c, hc, _⟩ := own_cells h hg
  exact (Array.getElem?_eq_some_iff.1 hc).1
theorem off_type {base : Nat} {W : World} {v : Value} {xs : List Int} (h : Gb base W v xs) {b : Nat} {c : Array Value} {t : TypeId} {f : Nat × Nat} (hb : W.heap[b]? = some (.cells c t f)) (ht : t ≠ 2) : some b ≠ v.ownBlock := fun e => by
  obtain ⟨c', hc, _⟩ := own_cells h e.symm
  rw [hc] at hb
  cases hb
  exact ht rfl
theorem off_other {base : Nat} {W : World} {v : Value} {xs : List Int} (h : Gb base W v xs) {b : Nat} {o : Obj} (hb : W.heap[b]? = some o) (ho : o.isCells = false) : some b ≠ v.ownBlock := fun e => by
  obtain ⟨c', hc, _⟩ := own_cells h e.symm
  rw [hc] at hb
  cases hb
  cases ho
theorem off_low {base : Nat} {W : World} {v : Value} {xs : List Int} (h : Gb base W v xs) {b : Nat} (hb : b < base) : some b ≠ v.ownBlock := fun e => by
  obtain ⟨_, _, h2⟩ := own_cells h e.symm
  omega
theorem off_new {base : Nat} {W : World} {v : Value} {xs : List Int} (h : Gb base W v xs) {b : Nat} (hb : W.heap.size ≤ b) : some b ≠ v.ownBlock := fun e => by
  have := own_lt h e.symm
  omega

/-- The list in its box. -/
structure Tn (Bn base : Nat) (W : World) (v : Value) (xs : List Int) : Prop where
  box : Go.Boxed W Bn 47 v
  row : Gb base W v xs
/-- Nothing changed but the box and the block that its value owns. -/
structure Stp (Bn : Nat) (A W : World) (v v' : Value) : Prop where
  os : W.os = A.os
  tape : W.tape = A.tape
  output : W.output = A.output
  size : A.heap.size ≤ W.heap.size
  block : ∀ k, k < A.heap.size → k ≠ Bn → some k ≠ v.ownBlock → W.heap[k]? = A.heap[k]?
  own : v'.ownBlock = v.ownBlock ∨ ∃ g, v'.ownBlock = some g ∧ A.heap.size ≤ g
theorem Stp.refl (Bn : Nat) (A : World) (v : Value) : Stp Bn A A v v := ⟨rfl, rfl, rfl, Nat.le_refl _, fun _ _ _ _ => rfl, .inl rfl⟩
theorem Stp.off {Bn : Nat} {A W : World} {v v' : Value} (h : Stp Bn A W v v') {b : Nat} (hb : b < A.heap.size) (ho : some b ≠ v.ownBlock) : some b ≠ v'.ownBlock := fun e => by
  rcases h.own with h1 | ⟨g, h1, h2⟩
  · exact ho (e.trans h1)
  · rw [h1] at e
    cases e
    omega
theorem Stp.trans {Bn : Nat} {A B C : World} {u v z : Value} (h : Stp Bn A B u v) (k : Stp Bn B C v z) : Stp Bn A C u z :=
  ⟨k.os.trans h.os, k.tape.trans h.tape, k.output.trans h.output, Nat.le_trans h.size k.size, fun i hi hn ho => (k.block i (Nat.lt_of_lt_of_le hi h.size) hn (h.off hi ho)).trans (h.block i hi hn ho), by
    rcases k.own with h1 | ⟨g, h1, h2⟩
    · rcases h.own with h3 | ⟨g, h3, h4⟩
      · exact .inl (h1.trans h3)
      · exact .inr ⟨g, h1.trans h3, h4⟩
    · exact .inr ⟨g, h1, Nat.le_trans h.size h2⟩⟩
theorem Stp.of_below {Bn : Nat} {A W : World} (v : Value) (h : Below A.heap.size A W) : Stp Bn A W v v := ⟨h.os, h.tape, h.output, h.size, fun k hk _ _ => h.block k hk, .inl rfl⟩
/-- One append and its store. -/
theorem Stp.app {Bn : Nat} {A X W : World} {v v' : Value} (h : Below A.heap.size A X) (hg : X.grownBy W v.ownBlock) (ho : v'.ownBlock = v.ownBlock ∨ v'.ownBlock = some X.heap.size) : Stp Bn A (W.setCell ⟨Bn, 0, none⟩ v') v v' :=
  ⟨hg.os.trans h.os, hg.tape.trans h.tape, hg.output.trans h.output, by simpa [World.setCell] using Nat.le_trans h.size hg.size, fun k hk hn hk2 =>
    ((Below.heap_setCell W ⟨Bn, 0, none⟩ v' k (by exact hn)).trans (hg.block k (Nat.lt_of_lt_of_le hk h.size) hk2)).trans (h.block k hk), by
    rcases ho with ho | ho
    · exact .inl ho
    · exact .inr ⟨_, ho, h.size⟩⟩
theorem Stp.low {Bn base n0 : Nat} {A W : World} {v v' : Value} {xs : List Int} (h : Stp Bn A W v v') (hr : Gb base A v xs) (h1 : n0 ≤ Bn) (h2 : n0 ≤ base) (h3 : n0 ≤ A.heap.size) : Below n0 A W :=
  ⟨h.os, h.tape, h.output, h.size, fun k hk => h.block k (by omega) (by omega) (off_low hr (by omega))⟩
theorem Stp.keeps {Bn base B : Nat} {A W : World} {v v' : Value} {xs : List Int} (h : Stp Bn A W v v') (hr : Tn Bn base A v xs) : KeepsFrom B A W :=
  ⟨h.size, fun k o _ hk ho => (h.block k (Array.getElem?_eq_some_iff.1 hk).1 (fun e => by
    subst e
    rw [show A.heap[k]? = _ from hr.box] at hk
    cases hk
    cases ho) (off_other hr.row hk ho)).trans hk⟩
theorem Tn.below {Bn base : Nat} {W W' : World} {v : Value} {xs : List Int} (h : Tn Bn base W v xs) (hb : Below W.heap.size W W') : Tn Bn base W' v xs := ⟨(hb.block _ h.box.lt).trans h.box, h.row.below hb⟩
theorem Tn.kept {Bn base : Nat} {W W' : World} {v : Value} {xs : List Int} {row : Option Nat} (h : Tn Bn base W v xs) (hg : W.grownBy W' row) (hr : ∀ r, row = some r → ∃ o : Obj, W.heap[r]? = some o ∧ o.isCells = false) : Tn Bn base W' v xs := by
  refine ⟨h.box.kept hg (fun e => ?_), h.row.kept hg ?_⟩
  · obtain ⟨o, ho, hc⟩ := hr _ e.symm
    rw [show W.heap[Bn]? = _ from h.box] at ho
    cases ho
    cases hc
  · cases hv : v.ownBlock with
    | none => exact .inl rfl
    | some g =>
      refine .inr (fun e => ?_)
      obtain ⟨o, ho, hc⟩ := hr g e.symm
      obtain ⟨c, hcc, _⟩ := own_cells h.row hv
      rw [hcc] at ho
      cases ho
      cases hc
/-- The two together abide turns of blocks beyond the beginning. -/
theorem tn_own {β : Type} {Bn base : Nat} {A : World} {v0 : Value} (f : β → List Int) : OwnFrom A.heap.size (fun (s : β) W => ∃ v, Tn Bn base W v (f s) ∧ Stp Bn A W v0 v) := fun s X Y row ⟨v, ht, hs⟩ hg hr =>
  ⟨v, ht.kept hg (fun r e => (hr r e).2), ⟨hg.os.trans hs.os, hg.tape.trans hs.tape, hg.output.trans hs.output, Nat.le_trans hs.size hg.size, fun k hk hn ho =>
    (hg.block k (Nat.lt_of_lt_of_le hk hs.size) (fun e => by have := (hr k e.symm).1; omega)).trans (hs.block k hk hn ho), hs.own⟩⟩

/-- What the bodies keep of the iterator's boxes. -/
structure Kd (n0 bn : Nat) (A W : World) : Prop where
  bel : Below n0 A W
  num : W.heap[bn]? = A.heap[bn]?
  fns : ∀ k v, Go.Boxed A k 101 v → Go.Boxed W k 101 v
theorem Stp.kd {Bn base n0 bn : Nat} {A W : World} {v v' : Value} {xs : List Int} (h : Stp Bn A W v v') (hr : Tn Bn base A v xs) (h1 : n0 ≤ Bn) (h2 : n0 ≤ base) (h3 : n0 ≤ A.heap.size) (h4 : bn ≠ Bn) (h5 : some bn ≠ v.ownBlock) (h6 : bn < A.heap.size) : Kd n0 bn A W :=
  ⟨h.low hr.row h1 h2 h3, h.block bn h6 h4 h5, fun k u hu => (h.block k hu.lt (fun e => by
    subst e
    have := (show A.heap[k]? = _ from hu).symm.trans hr.box
    simp at this) (off_type hr.row hu (by decide))).trans hu⟩
theorem kd_dgk {n0 bn : Nat} {n : Int} {dv : Value} {ds : List (List Int)} {w0 w : World} (h0 : w0.heap.size = n0) (hl : L2 0 w0 dv ds) (hb : Below n0 w0 w) (hbn : bn < w.heap.size) : DgK (Kd n0 bn) w bn n dv ds where
  refl A := ⟨Below.refl _ _, rfl, fun _ _ h => h⟩
  trans h k := ⟨h.bel.trans k.bel, k.num.trans h.num, fun i v hv => k.fns i v (h.fns i v hv)⟩
  dims hA hAB := by
    subst h0
    exact hl.below ((hb.trans (hA.mono hb.size)).trans hAB.bel)
  num h k := k.num.trans h
  fns h k := k.fns _ _ h
  put A k o o' hk ho hc := by
    have hs := hb.size
    refine ⟨⟨rfl, rfl, rfl, by simp, fun i hi => World.putObj_heap_other (by omega)⟩, World.putObj_heap_other (by omega), fun i v hv => ?_⟩
    refine (World.putObj_heap_other (fun e => ?_)).trans hv
    subst e
    rw [show A.heap[_]? = _ from hv] at ho
    cases ho
    cases hc
  alloc A o hA := by
    have hs := hb.size
    exact ⟨(Below.refl _ _).alloc (by omega) _, Below.heap_alloc A o bn (by omega), fun i v hv => hv.alloc _⟩
end Go.Proofs.YtlopenephgabhaaGreat


namespace Go.Proofs.YtlopenephgabhaaGreat
open Go.RowKit Go.Shelf
attribute [local go_sem] Oper.semAt_some

/-- The numbers of the rows of some cells. -/
def tnum (ds : List (List Int)) (ac dn : List (List (List (List Int)))) (q : Nat) (fs : List (Nat × Nat)) : List Int := fs.flatMap fun f => (List.range (cdim ds f)).flatMap fun r => trow ds ac dn q f r
theorem flat_le {α β : Type} (f : α → List β) (m : Nat) : ∀ L : List α, (∀ c ∈ L, (f c).length ≤ m) → (L.flatMap f).length ≤ m * L.length
  | [], _ => by simp
  | c :: L, h => by
    rw [List.flatMap_cons, List.length_append, List.length_cons, Nat.mul_succ]
    have h1 := h c (by simp)
    have h2 := flat_le f m L (fun d hd => h d (by simp [hd]))
    omega
theorem cells_le {ds : List (List Int)} (hok : DclOk ds) : (cellsTo ds ds.length).length ≤ 16 := by
  have h := flat_le (rowCells ds) 4 (List.range ds.length) (fun i hi => by
    have hi := List.mem_range.1 hi
    unfold rowCells
    rw [List.length_map, List.length_range, getD_of_lt _ hi, (hok.col _ (List.getElem_mem hi)).1]
    exact hok.h1)
  rw [List.length_range] at h
  have := hok.len1
  unfold cellsTo
  omega
theorem dgn_le {ds : List (List Int)} (hok : DclOk ds) (n : Nat) : (dgn ds n).length ≤ 16 := Nat.le_trans (List.length_filter_le _ _) (cells_le hok)
theorem prt_le {p : Int} {ds : List (List Int)} {ac dn : List (List (List (List Int)))} (hp : IsP p) (hok : DclOk ds) (ht : TbsOk p ds ac dn) {f c : Nat × Nat} (hf : f ∈ cellsTo ds ds.length) (hc : c ∈ cellsTo ds ds.length) {r : Nat} (hr : r < cdim ds f) : (prt ds ac dn f r c).length ≤ 4 := by
  have h1 := (prt_ok hp hok ht hf hc hr).1
  have h2 := (cdim_cast hok hc).2
  omega
theorem pre_le {p : Int} {ds : List (List Int)} {ac dn : List (List (List (List Int)))} (hp : IsP p) (hok : DclOk ds) (ht : TbsOk p ds ac dn) {f : Nat × Nat} (hf : f ∈ cellsTo ds ds.length) {r : Nat} (hr : r < cdim ds f) {n : Nat} (pre : List (DgIn ds n)) : ((pre.map (·.1)).flatMap (prt ds ac dn f r)).length ≤ 4 * pre.length := by
  have h := flat_le (prt ds ac dn f r) 4 (pre.map (·.1)) (fun c hc => by
    obtain ⟨x, _, rfl⟩ := List.mem_map.1 hc
    exact prt_le hp hok ht hf (mem_cells.2 (mem_dgn.1 x.2).1) hr)
  rwa [List.length_map] at h
theorem trow_le {p : Int} {ds : List (List Int)} {ac dn : List (List (List (List Int)))} (hp : IsP p) (hok : DclOk ds) (ht : TbsOk p ds ac dn) {f : Nat × Nat} (hf : f ∈ cellsTo ds ds.length) {r : Nat} (hr : r < cdim ds f) (q : Nat) : (trow ds ac dn q f r).length ≤ 64 := by
  have h := flat_le (prt ds ac dn f r) 4 (dgn ds q) (fun c hc => prt_le hp hok ht hf (mem_cells.2 (mem_dgn.1 hc).1) hr)
  have := dgn_le hok q
  unfold trow
  omega
theorem rows_le {p : Int} {ds : List (List Int)} {ac dn : List (List (List (List Int)))} (hp : IsP p) (hok : DclOk ds) (ht : TbsOk p ds ac dn) {f : Nat × Nat} (hf : f ∈ cellsTo ds ds.length) (q : Nat) {k : Nat} (hk : k ≤ cdim ds f) : ((List.range k).flatMap fun r => trow ds ac dn q f r).length ≤ 64 * k := by
  have h := flat_le (fun r => trow ds ac dn q f r) 64 (List.range k) (fun r hr => trow_le hp hok ht hf (by have := List.mem_range.1 hr; omega) q)
  rwa [List.length_range] at h
theorem tnum_le {p : Int} {ds : List (List Int)} {ac dn : List (List (List (List Int)))} (hp : IsP p) (hok : DclOk ds) (ht : TbsOk p ds ac dn) (q : Nat) {n : Nat} (pre : List (DgIn ds n)) : (tnum ds ac dn q (pre.map (·.1))).length ≤ 256 * pre.length := by
  have h := flat_le (fun f => (List.range (cdim ds f)).flatMap fun r => trow ds ac dn q f r) 256 (pre.map (·.1)) (fun f hf => by
    obtain ⟨x, _, rfl⟩ := List.mem_map.1 hf
    have hc := mem_cells.2 (mem_dgn.1 x.2).1
    have h1 := rows_le hp hok ht hc q (Nat.le_refl _)
    have h2 := (cdim_cast hok hc).2
    omega)
  rwa [List.length_map] at h
theorem tnum_snoc (ds : List (List Int)) (ac dn : List (List (List (List Int)))) (q : Nat) (fs : List (Nat × Nat)) (f : Nat × Nat) : tnum ds ac dn q (fs ++ [f]) = tnum ds ac dn q fs ++ (List.range (cdim ds f)).flatMap fun r => trow ds ac dn q f r := by
  simp [tnum]

set_option maxRecDepth 100000 in
set_option maxHeartbeats 8000000 in
theorem totalNumbers_any (p : Int) (hp : IsP p) (dv av vv : Value) (ds : List (List Int)) (ac dn : List (List (List (List Int)))) (q : Nat) (hq : q + 1 ≤ 1000) (w : World) (h : Dx 0 w dv av vv ds ac dn) (hok : DclOk ds) (ht : TbsOk p ds ac dn) :
    Calls Tryz.prog 92 #[.agg #[.int .i64 p, dv, av, vv], .int .i64 ((q + 1 : Nat) : Int)] w fun e w' => ∃ v, e = .returned v ∧ Gb w.heap.size w' v (tnum ds ac dn q (dgn ds (q + 1))) ∧ Below w.heap.size w w' := by
  have HP := Lib.hid hp
  have HOK := Lib.hid hok
  have HT := Lib.hid ht
  have HX := Lib.hid h
  obtain ⟨n, hn⟩ : ∃ n, n = q + 1 := ⟨_, rfl⟩
  rw [← hn] at hq ⊢
  have HN := Lib.hid hn
  clear hp hok ht h hn
  refine (callsIn_wide (n := 8)).1 ?_
  refine callsIn_of_wp_marks Tryz.func92 rfl trivial ?_
  simp only [Tryz.ntmps92, List.size_toArray, List.length_cons, List.length_nil, Nat.reduceAdd, Nat.reduceSub, Array.replicate_succ, Array.replicate_zero, List.push_toArray, List.append_toArray, List.nil_append, List.cons_append]
  gi_wp2_with fail
  refine ⟨trivial, (callsIn_wide.2 (diagonalOf_any p n dv av vv _)).mono ?_⟩
  rintro e w2 ⟨rfl, rfl⟩
  dsimp only
  gi_wp2
  have hsA : (((w.alloc (.cells #[.int .i64 p, dv, av, vv] 29)).alloc (.cells #[.int .i64 (n : Int)] 2)).alloc (.cells #[.slice none 0 0] 47)).heap.size = w.heap.size + 3 := by simp
  have hBA : Below w.heap.size w (((w.alloc (.cells #[.int .i64 p, dv, av, vv] 29)).alloc (.cells #[.int .i64 (n : Int)] 2)).alloc (.cells #[.slice none 0 0] 47)) := (((Below.refl _ _).alloc (Nat.le_refl _) _).alloc (by simp) _).alloc (by simp; omega) _
  have hx0 := ((DBx.start (p := p) 29 HX.out).next ((Below.refl _ _).alloc (Nat.le_refl _) (.cells #[.int .i64 (n : Int)] 2))).next ((Below.refl _ _).alloc (Nat.le_refl _) (.cells #[.slice none 0 0] 47))
  have hn0 := (Go.Boxed.new (w.alloc (.cells #[.int .i64 p, dv, av, vv] 29)) 2 (.int .i64 (n : Int))).alloc (.cells #[.slice none 0 0] 47)
  have hz0 := Go.Boxed.new ((w.alloc (.cells #[.int .i64 p, dv, av, vv] 29)).alloc (.cells #[.int .i64 (n : Int)] 2)) 47 (.slice none 0 0)
  rw [World.size_alloc] at hn0
  rw [World.size_alloc, World.size_alloc] at hz0
  obtain ⟨WA, hWA⟩ : ∃ WA, WA = ((w.alloc (.cells #[.int .i64 p, dv, av, vv] 29)).alloc (.cells #[.int .i64 (n : Int)] 2)).alloc (.cells #[.slice none 0 0] 47) := ⟨_, rfl⟩
  rw [← hWA] at hsA hBA hx0 hn0 hz0 ⊢
  clear hWA
  have hs1 : ((WA.alloc (.cells #[.int .i64 p, dv, av, vv] 29)).alloc (.cells #[.int .i64 (n : Int)] 2)).heap.size = WA.heap.size + 2 := by simp
  have hB1 : Below WA.heap.size WA ((WA.alloc (.cells #[.int .i64 p, dv, av, vv] 29)).alloc (.cells #[.int .i64 (n : Int)] 2)) := ((Below.refl _ _).alloc (Nat.le_refl _) _).alloc (by simp) _
  have hy1 := (DBx.start (p := p) 29 (HX.out.below hBA)).next ((Below.refl _ _).alloc (Nat.le_refl _) (.cells #[.int .i64 (n : Int)] 2))
  have hm1 := Go.Boxed.new (WA.alloc (.cells #[.int .i64 p, dv, av, vv] 29)) 2 (.int .i64 (n : Int))
  rw [World.size_alloc] at hm1
  have hx1 := hx0.next hB1
  have hn1 : Go.Boxed ((WA.alloc (.cells #[.int .i64 p, dv, av, vv] 29)).alloc (.cells #[.int .i64 (n : Int)] 2)) (w.heap.size + 1) 2 (.int .i64 (n : Int)) := (hB1.block _ hn0.lt).trans hn0
  have hz1 : Go.Boxed ((WA.alloc (.cells #[.int .i64 p, dv, av, vv] 29)).alloc (.cells #[.int .i64 (n : Int)] 2)) (w.heap.size + 1 + 1) 47 (.slice none 0 0) := (hB1.block _ hz0.lt).trans hz0
  obtain ⟨W1, hW1⟩ : ∃ W1, W1 = (WA.alloc (.cells #[.int .i64 p, dv, av, vv] 29)).alloc (.cells #[.int .i64 (n : Int)] 2) := ⟨_, rfl⟩
  rw [← hW1] at hs1 hB1 hy1 hm1 hx1 hn1 hz1 ⊢
  clear hW1 hx0 hn0 hz0
  have hBW := hBA.trans (hB1.mono hBA.size)
  have HB1 := Lib.hid hBW
  have hdk := kd_dgk (n0 := w.heap.size) (bn := WA.heap.size + 1) (n := (n : Int)) (w := W1) rfl HX.out.dims hBW (by omega)
  have HDK := Lib.hid hdk
  have HS1 := Lib.hid hs1
  have HSA := Lib.hid hsA
  have HT1 : Hid (Tn (w.heap.size + 1 + 1) (w.heap.size + 1 + 1) W1 (.slice none 0 0) []) := Lib.hid ⟨hz1, by simp [Gb, World.ownsRow]⟩
  have HCTX : Hid (∀ W v, Stp (w.heap.size + 1 + 1) W1 W (.slice none 0 0) v → DBx w W w.heap.size p dv av vv ds ac dn ∧ Go.Boxed W (w.heap.size + 1) 2 (.int .i64 (n : Int))) := Lib.hid (fun W v hs => by
    have hk : ∀ b, b < W1.heap.size → b ≠ w.heap.size + 1 + 1 → W.heap[b]? = W1.heap[b]? := fun b hb hne => hs.block b hb hne (by simp [Value.ownBlock])
    have hbw : Below w.heap.size w W := hBW.trans (hs.low HT1.out.row (by omega) (by omega) hBW.size)
    have hc : ∀ o, W.cell? ⟨w.heap.size, o, none⟩ = W1.cell? ⟨w.heap.size, o, none⟩ := fun o => World.cell?_of_block (hk w.heap.size hx1.lt (by omega))
    exact ⟨⟨hbw, (hc 0).trans hx1.c0, (hc 1).trans hx1.c1, (hc 2).trans hx1.c2, (hc 3).trans hx1.c3, Nat.lt_of_lt_of_le hx1.lt hs.size, HX.out.below hbw⟩, (hk _ hn1.lt (by omega)).trans hn1⟩)
  have hl1 : ds.length ≤ 1000 := by have := HOK.out.len1; omega
  have hl2 : ∀ r ∈ ds, r.length ≤ 1000 := fun r hr => by have := (HOK.out.col r hr).1; have := HOK.out.h1; omega
  have hseq := diag_seq 7 (by decide) p n hq WA.heap.size (WA.heap.size + 1) dv av vv ds hl1 hl2 (Kd w.heap.size (WA.heap.size + 1)) W1 hdk (by omega) hy1.c0 hy1.c1 hy1.c2 hy1.c3 hm1
  clear hy1 hm1 hx1 hn1 hz1 hBA hB1 hBW hdk hs1 hsA
  refine wpIn_rangeO_cell rfl (by decide : 1 ≤ 8) (gf := 109) (lb := #[.pointer (some ⟨WA.heap.size, 0, none⟩), .pointer (some ⟨WA.heap.size + 1, 0, none⟩)]) rfl trivial (enters_of Tryz.func109 (by kernel_rfl) rfl)
    hseq (fun h k => HDK.out.trans h k) (fun A l o o' hl ho hc => HDK.out.put A l o o' hl ho hc) (Below.refl _ _) (fun _ => rfl)
    (fun pre W => ∃ v, Tn (w.heap.size + 1 + 1) (w.heap.size + 1 + 1) W v (tnum ds ac dn q (pre.map (·.1))) ∧ Stp (w.heap.size + 1 + 1) W1 W (.slice none 0 0) v)
    (fun _ _ _ => False) (tn_own (fun pre : List (DgIn ds n) => tnum ds ac dn q (pre.map (·.1)))) (fun _ _ _ _ _ h _ _ => h)
    ⟨_, HT1.out, Stp.refl _ _ _⟩
    (fun x => #[.int .i64 (x.1.1 : Int), .int .i64 (x.1.2 : Int)]) 6 63 W1.heap.size
    ?assign ?body ?done ?stop
  case assign =>
    rintro l pre x A K ⟨v, htn, hst⟩ hKK
    simp only [dgV] at hKK ⊢
    have hsz := hst.size
    gi_wp2
    have hba : Below A.heap.size A (A.alloc (.cells #[.int .i64 (x.1.1 : Int), .int .i64 (x.1.2 : Int)] 63)) := (Below.refl _ _).alloc (Nat.le_refl _) _
    have hk := hKK A.heap.size _ hsz (World.alloc_heap_new A _) ((KeepsOthers.alloc _ _).from _) (HDK.out.alloc A _ hsz) ⟨v, htn.below hba, hst.trans (Stp.of_below v hba)⟩
    simp at hk
    refine Eq.mp ?_ hk
    congr 1
    all_goals (try congr 1)
  case body =>
    rintro l pre x Bx A hl ⟨r, hr⟩ ⟨v, htn, hst⟩ hD hX hlt
    obtain ⟨⟨i, j⟩, hxm⟩ := x
    dsimp only at hX
    have hfc : (i, j) ∈ cellsTo ds ds.length := mem_cells.2 (mem_dgn.1 hxm).1
    have HFC := Lib.hid hfc
    have hmf := mem_cells.1 hfc
    dsimp only at hmf
    obtain ⟨hxA, _⟩ := HCTX.out A v hst
    obtain ⟨d, hd⟩ : ∃ d, d = cdim ds (i, j) := ⟨_, rfl⟩
    have hd4 : d ≤ 4 := by rw [hd]; exact (cdim_cast HOK.out hfc).2
    have HD := Lib.hid hd
    have HDC : Hid (Calls Tryz.prog 75 #[.agg #[.int .i64 p, dv, av, vv], .agg #[.int .i64 (i : Int), .int .i64 (j : Int)]] A fun e w' => e = .returned (.int .i64 (d : Int)) ∧ Below A.heap.size A w') := Lib.hid (by
      rw [hd, (cdim_cast HOK.out hfc).1]
      exact dimOfCell_any p i j _ _ _ ds A hxA.dx.dims ⟨by have := HOK.out.len1; omega, fun r hr => by have := hl2 r hr; show r.length ≤ _; omega⟩ (by omega) (by omega) (by omega) (fun _ => by simp only [Int.toNat_natCast]; exact Int.ofNat_lt.2 hmf.2))
    have x0 : A.cell? ⟨Bx, 0, none⟩ = some (.int .i64 (i : Int)) := by simp [World.cell?, hX]
    have x1 : A.cell? ⟨Bx, 1, none⟩ = some (.int .i64 (j : Int)) := by simp [World.cell?, hX]
    have c0 := hxA.c0
    have c1 := hxA.c1
    have c2 := hxA.c2
    have c3 := hxA.c3
    have HTN := Lib.hid htn
    have HST := Lib.hid hst
    have HXB := Lib.hid hX
    have HR := Lib.hid hr
    clear hd htn hst hX hr hxA hfc
    gi_wp2_with fail
    refine ⟨trivial, (CallsIn.inRound l (callsIn_wide.2 HDC.out)).mono ?_⟩
    rintro e A2 ⟨rfl, hb2⟩
    clear HDC c0 c1 c2 c3 x0 x1
    have HB2 := Lib.hid hb2
    clear hb2
    gi_wp2
    gi_loopw [16] (fun i' wr => ∃ k : Nat, k ≤ d ∧ i' = .int .i64 k ∧ ∃ v', Hid (Tn (w.heap.size + 1 + 1) (w.heap.size + 1 + 1) wr v' (tnum ds ac dn q (pre.map (·.1)) ++ (List.range k).flatMap fun r => trow ds ac dn q (i, j) r)) ∧ Hid (Stp (w.heap.size + 1 + 1) A wr v v')) (fun i' _ => d - (intOf i').toNat)
    case atStart => exact ⟨0, Nat.zero_le _, rfl, v, Lib.hid (by simpa using HTN.out.below HB2.out), Lib.hid (Stp.of_below v HB2.out)⟩
    case round =>
      obtain ⟨k, hk, rfl, v2, HTN2, HST2⟩ := hrel
      by_cases hlk : k < d
      · have hnq : IntKind.i64.wrap ((n : Int) - 1) = (q : Int) := by rw [IntWalk.i64_in _ (by omega)]; have := HN.out; omega
        obtain ⟨hxr, hnr⟩ := HCTX.out wr v2 (HST.out.trans HST2.out)
        have c0 := hxr.c0
        have c1 := hxr.c1
        have c2 := hxr.c2
        have c3 := hxr.c3
        have nb := hnr.cell
        have hxl := hxr.lt
        have hnl := hnr.lt
        have HXR := Lib.hid hxr
        have xb : wr.heap[Bx]? = some (.cells #[.int .i64 (i : Int), .int .i64 (j : Int)] 63 (0, 0)) := (HST2.out.block Bx (Array.getElem?_eq_some_iff.1 HXB.out).1 (fun e => by
          have h1 := HTN.out.box
          rw [← e] at h1
          have := (show A.heap[Bx]? = _ from h1).symm.trans HXB.out
          simp at this) (off_type HTN.out.row HXB.out (by decide))).trans HXB.out
        have HXR2 := Lib.hid xb
        clear hxr hnr xb
        gi_wp2_with fail
        refine ⟨trivial, (CallsIn.inRound l (callsIn_wide.2 (diagonalOf_any p q dv av vv _))).mono ?_⟩
        rintro e w3 ⟨rfl, rfl⟩
        dsimp only
        gi_wp2
        have hsR : (wr.alloc (.cells #[.int .i64 (k : Int)] 2)).heap.size = wr.heap.size + 1 := by simp
        have hBR : Below wr.heap.size wr (wr.alloc (.cells #[.int .i64 (k : Int)] 2)) := (Below.refl _ _).alloc (Nat.le_refl _) _
        have hrR := Go.Boxed.new wr 2 (.int .i64 (k : Int))
        obtain ⟨WR, hWR⟩ : ∃ WR, WR = wr.alloc (.cells #[.int .i64 (k : Int)] 2) := ⟨_, rfl⟩
        rw [← hWR] at hsR hBR hrR ⊢
        clear hWR
        have hs3 : ((WR.alloc (.cells #[.int .i64 p, dv, av, vv] 29)).alloc (.cells #[.int .i64 (q : Int)] 2)).heap.size = WR.heap.size + 2 := by simp
        have hB3 : Below WR.heap.size WR ((WR.alloc (.cells #[.int .i64 p, dv, av, vv] 29)).alloc (.cells #[.int .i64 (q : Int)] 2)) := ((Below.refl _ _).alloc (Nat.le_refl _) _).alloc (by simp) _
        have hy3 := (DBx.start (p := p) 29 (HXR.out.dx.below hBR)).next ((Below.refl _ _).alloc (Nat.le_refl _) (.cells #[.int .i64 (q : Int)] 2))
        have hm3 := Go.Boxed.new (WR.alloc (.cells #[.int .i64 p, dv, av, vv] 29)) 2 (.int .i64 (q : Int))
        rw [World.size_alloc] at hm3
        obtain ⟨A3, hA3⟩ : ∃ A3, A3 = (WR.alloc (.cells #[.int .i64 p, dv, av, vv] 29)).alloc (.cells #[.int .i64 (q : Int)] 2) := ⟨_, rfl⟩
        rw [← hA3] at hs3 hB3 hy3 hm3 ⊢
        clear hA3
        have hBr3 : Below wr.heap.size wr A3 := hBR.trans (hB3.mono (by omega))
        have HBR3 := Lib.hid hBr3
        have HTN3 := Lib.hid (HTN2.out.below hBr3)
        have HST3 := Lib.hid (HST2.out.trans (Stp.of_below v2 hBr3))
        have HRB3 : Hid (Go.Boxed A3 wr.heap.size 2 (.int .i64 (k : Int))) := Lib.hid ((hB3.block _ hrR.lt).trans hrR)
        have HXB3 : Hid (A3.heap[Bx]? = some (.cells #[.int .i64 (i : Int), .int .i64 (j : Int)] 63 (0, 0))) := Lib.hid ((hBr3.block Bx (Array.getElem?_eq_some_iff.1 HXR2.out).1).trans HXR2.out)
        have hlo : A3.heap[l]? = some (.loop r) := (HST3.out.keeps (B := 0) HTN.out).same l _ (Nat.zero_le _) HR.out rfl
        have hBw3 : Below w.heap.size w A3 := HXR.out.below.trans (hBr3.mono HXR.out.below.size)
        have hdk := kd_dgk (n0 := w.heap.size) (bn := WR.heap.size + 1) (n := (q : Int)) (w := A3) rfl HX.out.dims hBw3 (by omega)
        have HDK3 := Lib.hid hdk
        have HS3 := Lib.hid hs3
        have HSR := Lib.hid hsR
        have hwr : w.heap.size ≤ wr.heap.size := HXR.out.below.size
        have hseq := diag_seq 5 (by decide) p q (by have := HN.out; omega) WR.heap.size (WR.heap.size + 1) dv av vv ds hl1 hl2 (Kd w.heap.size (WR.heap.size + 1)) A3 hdk (by omega) hy3.c0 hy3.c1 hy3.c2 hy3.c3 hm3
        clear hy3 hm3 hrR hBR hB3 hBr3 hBw3 hdk hs3 hsR c0 c1 c2 c3 nb
        refine wpIn_rangeOin_cell (lo := l) (r0 := r) rfl hlo (by decide : 1 ≤ 6) (gf := 109) (lb := #[.pointer (some ⟨WR.heap.size, 0, none⟩), .pointer (some ⟨WR.heap.size + 1, 0, none⟩)]) rfl trivial (enters_of Tryz.func109 (by kernel_rfl) rfl)
          (hseq.inRound l) (fun h k => HDK3.out.trans h k) (fun A l o o' hl ho hc => HDK3.out.put A l o o' hl ho hc) (Below.refl _ _) (fun _ => rfl)
          (fun pre2 W => ∃ v', Tn (w.heap.size + 1 + 1) (w.heap.size + 1 + 1) W v' ((tnum ds ac dn q (pre.map (·.1)) ++ (List.range k).flatMap fun r => trow ds ac dn q (i, j) r) ++ (pre2.map (·.1)).flatMap (prt ds ac dn (i, j) k)) ∧ Stp (w.heap.size + 1 + 1) A3 W v2 v')
          (fun _ _ _ => False) (tn_own (fun pre2 : List (DgIn ds q) => (tnum ds ac dn q (pre.map (·.1)) ++ (List.range k).flatMap fun r => trow ds ac dn q (i, j) r) ++ (pre2.map (·.1)).flatMap (prt ds ac dn (i, j) k))) (fun _ _ _ _ _ h _ _ => h)
          ⟨v2, by simpa using HTN3.out, Stp.refl _ _ _⟩
          (fun x => #[.int .i64 (x.1.1 : Int), .int .i64 (x.1.2 : Int)]) 8 63 A3.heap.size
          ?assign2 ?body2 ?done2 ?stop2
        case assign2 =>
          rintro l2 pre2 x B K ⟨v3, htn3, hst3⟩ hKK
          simp only [dgV] at hKK ⊢
          have hsz := hst3.size
          gi_wp2
          have hba : Below B.heap.size B (B.alloc (.cells #[.int .i64 (x.1.1 : Int), .int .i64 (x.1.2 : Int)] 63)) := (Below.refl _ _).alloc (Nat.le_refl _) _
          have hk := hKK B.heap.size _ hsz (World.alloc_heap_new B _) ((KeepsOthers.alloc _ _).from _) (HDK3.out.alloc B _ hsz) ⟨v3, htn3.below hba, hst3.trans (Stp.of_below v3 hba)⟩
          simp at hk
          refine Eq.mp ?_ hk
          congr 1
          all_goals (try congr 1)
        case body2 =>
          rintro l2 pre2 y By B hl2' ⟨r2, hr2⟩ ⟨v3, htn3, hst3⟩ hDy hY hlt2
          obtain ⟨⟨a, b⟩, hym⟩ := y
          dsimp only at hY
          have hyc : (a, b) ∈ cellsTo ds ds.length := mem_cells.2 (mem_dgn.1 hym).1
          have hkd : k < cdim ds (i, j) := by rw [← HD.out]; exact hlk
          obtain ⟨hxB, _⟩ := HCTX.out B v3 (HST.out.trans (HST3.out.trans hst3))
          have hrB : Go.Boxed B wr.heap.size 2 (.int .i64 (k : Int)) := (hst3.block _ HRB3.out.lt (by have := HST3.out.size; have h1 := HTN2.out.box.lt; omega) (off_new HTN2.out.row (Nat.le_refl _))).trans HRB3.out
          have hfB : B.heap[Bx]? = some (.cells #[.int .i64 (i : Int), .int .i64 (j : Int)] 63 (0, 0)) := (hst3.block Bx (Array.getElem?_eq_some_iff.1 HXB3.out).1 (fun e => by
            have h1 := HTN3.out.box
            rw [← e] at h1
            have := (show A3.heap[Bx]? = _ from h1).symm.trans HXB3.out
            simp at this) (off_type HTN3.out.row HXB3.out (by decide))).trans HXB3.out
          have HCALL : Hid (∀ X, Below B.heap.size B X → Calls Tryz.prog 104 #[.agg #[.int .i64 p, dv, av, vv], .agg #[.int .i64 (i : Int), .int .i64 (j : Int)], .int .i64 (k : Int), .agg #[.int .i64 (a : Int), .int .i64 (b : Int)]] X fun e w' => ∃ v, e = .returned v ∧ L1 0 w' v (prt ds ac dn (i, j) k (a, b)) ∧ Below X.heap.size X w') :=
            Lib.hid (fun X hb => partOfRow_any p (i, j) (a, b) k dv av vv ds ac dn X (hxB.dx.below hb) HOK.out HT.out HFC.out hyc hkd)
          have hoff : ∀ {b : Nat}, b < B.heap.size → some b ≠ v3.ownBlock → ∀ X, B.grownBy X v3.ownBlock → ∀ o, X.cell? ⟨b, o, none⟩ = B.cell? ⟨b, o, none⟩ := fun hb hne X hg o => World.cell?_of_block (hg.block _ hb hne)
          have ox : some w.heap.size ≠ v3.ownBlock := off_low htn3.row (by omega)
          have on : some (w.heap.size + 1 + 1) ≠ v3.ownBlock := off_type htn3.row htn3.box (by decide)
          have of : some Bx ≠ v3.ownBlock := off_type htn3.row hfB (by decide)
          have oy : some By ≠ v3.ownBlock := off_type htn3.row hY (by decide)
          have or : some wr.heap.size ≠ v3.ownBlock := hst3.off HRB3.out.lt (off_new HTN2.out.row (Nat.le_refl _))
          have HL0 : Hid (∀ X, B.grownBy X v3.ownBlock → (Instr.loadAt 47 (.pointer (some ⟨w.heap.size + 1 + 1, 0, none⟩))).run Tryz.prog X = .ok v3 X) := Lib.hid (fun X hg => by
            have hc := (hoff htn3.box.lt on X hg 0).trans htn3.box.cell
            obtain ⟨a3, c3, hv3⟩ := Sl.shape htn3.row.l1
            subst hv3
            go_simp)
          have HL1 : Hid (∀ X, B.grownBy X v3.ownBlock → (Instr.loadAt 29 (.pointer (some ⟨w.heap.size, 0, none⟩))).run Tryz.prog X = .ok (.agg #[.int .i64 p, dv, av, vv]) X) := Lib.hid (fun X hg => by
            have c0 := (hoff hxB.lt ox X hg 0).trans hxB.c0
            have c1 := (hoff hxB.lt ox X hg 1).trans hxB.c1
            have c2 := (hoff hxB.lt ox X hg 2).trans hxB.c2
            have c3 := (hoff hxB.lt ox X hg 3).trans hxB.c3
            go_simp)
          have HL2 : Hid (∀ X, B.grownBy X v3.ownBlock → (Instr.loadAt 63 (.pointer (some ⟨Bx, 0, none⟩))).run Tryz.prog X = .ok (.agg #[.int .i64 (i : Int), .int .i64 (j : Int)]) X) := Lib.hid (fun X hg =>
            hloadCe X ((hoff (Array.getElem?_eq_some_iff.1 hfB).1 of X hg 0).trans (by simp [World.cell?, hfB])) ((hoff (Array.getElem?_eq_some_iff.1 hfB).1 of X hg 1).trans (by simp [World.cell?, hfB])))
          have HL3 : Hid (∀ X, B.grownBy X v3.ownBlock → (Instr.loadAt 2 (.pointer (some ⟨wr.heap.size, 0, none⟩))).run Tryz.prog X = .ok (.int .i64 (k : Int)) X) := Lib.hid (fun X hg => hloadIn X ((hoff hrB.lt or X hg 0).trans hrB.cell))
          have HL4 : Hid (∀ X, B.grownBy X v3.ownBlock → (Instr.loadAt 63 (.pointer (some ⟨By, 0, none⟩))).run Tryz.prog X = .ok (.agg #[.int .i64 (a : Int), .int .i64 (b : Int)]) X) := Lib.hid (fun X hg =>
            hloadCe X ((hoff (Array.getElem?_eq_some_iff.1 hY).1 oy X hg 0).trans (by simp [World.cell?, hY])) ((hoff (Array.getElem?_eq_some_iff.1 hY).1 oy X hg 1).trans (by simp [World.cell?, hY])))
          have HTNB := Lib.hid htn3
          have HSTB := Lib.hid hst3
          have hxs : (((tnum ds ac dn q (pre.map (·.1)) ++ (List.range k).flatMap fun r => trow ds ac dn q (i, j) r) ++ (pre2.map (·.1)).flatMap (prt ds ac dn (i, j) k))).length + (prt ds ac dn (i, j) k (a, b)).length ≤ 2097152 := by
            have h1 := tnum_le HP.out HOK.out HT.out q pre
            have h2 := rows_le HP.out HOK.out HT.out HFC.out q (Nat.le_of_lt hkd)
            have h3 := pre_le HP.out HOK.out HT.out HFC.out hkd pre2
            have h4 := prt_le HP.out HOK.out HT.out HFC.out hyc hkd
            have h5 := cells_le HOK.out
            simp only [List.length_append]
            omega
          have HXS := Lib.hid hxs
          have HFIN : Hid (∀ W v', Gb (w.heap.size + 1 + 1) W v' (((tnum ds ac dn q (pre.map (·.1)) ++ (List.range k).flatMap fun r => trow ds ac dn q (i, j) r) ++ (pre2.map (·.1)).flatMap (prt ds ac dn (i, j) k)) ++ prt ds ac dn (i, j) k (a, b)) → Go.Boxed W (w.heap.size + 1 + 1) 47 v' → Stp (w.heap.size + 1 + 1) B W v3 v' →
              KeepsFrom A3.heap.size B W ∧ Kd w.heap.size (WR.heap.size + 1) B W ∧ ∃ v', Tn (w.heap.size + 1 + 1) (w.heap.size + 1 + 1) W v' ((tnum ds ac dn q (pre.map (·.1)) ++ (List.range k).flatMap fun r => trow ds ac dn q (i, j) r) ++ ((pre2 ++ ([⟨(a, b), hym⟩] : List (DgIn ds q))).map (·.1)).flatMap (prt ds ac dn (i, j) k)) ∧ Stp (w.heap.size + 1 + 1) A3 W v2 v') := Lib.hid (fun W v' hg hb hs => by
            have hs3 := HS3.out
            have hsr := HSR.out
            have hsz := HSTB.out.size
            have hbl := HTN2.out.box.lt
            refine ⟨hs.keeps HTNB.out, hs.kd HTNB.out (by omega) (by omega) (by omega) (by omega) (HSTB.out.off (by omega) (off_new HTN2.out.row (by omega))) (by omega), v', ⟨hb, ?_⟩, HSTB.out.trans hs⟩
            have e : ((pre2 ++ ([⟨(a, b), hym⟩] : List (DgIn ds q))).map (·.1)).flatMap (prt ds ac dn (i, j) k) = (pre2.map (·.1)).flatMap (prt ds ac dn (i, j) k) ++ prt ds ac dn (i, j) k (a, b) := by
              rw [List.map_append, List.flatMap_append]
              refine congrArg _ ?_
              show List.flatMap _ [(a, b)] = _
              simp
            rw [e, ← List.append_assoc]
            exact hg)
          clear hoff hxs hxB hrB hfB htn3 hst3 hY hr2 ox on of oy or hlt2
          gi_wp2_with fail
          refine wpIn_region_last (fun X => B.grownBy X v3.ownBlock) 7 (by kernel_rfl) (by kernel_rfl) (fun ⟨_, _, h⟩ => h) rfl (by kernel_rfl) ?_
          have S0 : B.grownBy B.drew v3.ownBlock := ⟨rfl, rfl, rfl, Nat.le_refl _, fun _ _ _ => rfl⟩
          have hbd : Below B.heap.size B B.drew := (Below.refl _ _).drew
          change wpAnyH _ _ _ _ _ _ _ _ B.drew
          generalize B.drew = wd at *
          refine held_take (i := 0) (v := v3) (some 24) rfl rfl (by kernel_rfl) (by kernel_rfl) (by kernel_rfl) (fun _ _ _ h => h) (yieldsIf_cell (by kernel_rfl) rfl (by kernel_rfl) HL0.out) S0 ?_
          refine held_take (i := 1) (v := .agg #[.int .i64 p, dv, av, vv]) (some 25) rfl rfl (by kernel_rfl) (by kernel_rfl) (by kernel_rfl) (fun _ _ _ h => h) (yieldsIf_cell (by kernel_rfl) rfl (by kernel_rfl) HL1.out) S0 ?_
          refine held_take (i := 2) (v := .agg #[.int .i64 (i : Int), .int .i64 (j : Int)]) (some 26) rfl rfl (by kernel_rfl) (by kernel_rfl) (by kernel_rfl) (fun _ _ _ h => h) (yieldsIf_cell (by kernel_rfl) rfl (by kernel_rfl) HL2.out) S0 ?_
          refine held_take (i := 3) (v := .int .i64 (k : Int)) (some 27) rfl rfl (by kernel_rfl) (by kernel_rfl) (by kernel_rfl) (fun _ _ _ h => h) (yieldsIf_cell (by kernel_rfl) rfl (by kernel_rfl) HL3.out) S0 ?_
          refine held_take (i := 4) (v := .agg #[.int .i64 (a : Int), .int .i64 (b : Int)]) (some 28) rfl rfl (by kernel_rfl) (by kernel_rfl) (by kernel_rfl) (fun _ _ _ h => h) (yieldsIf_cell (by kernel_rfl) rfl (by kernel_rfl) HL4.out) S0 ?_
          refine held_enter (i := 5) (some 29) (f := 104) (args := #[.agg #[.int .i64 p, dv, av, vv], .agg #[.int .i64 (i : Int), .int .i64 (j : Int)], .int .i64 (k : Int), .agg #[.int .i64 (a : Int), .int .i64 (b : Int)]]) (by kernel_rfl) rfl rfl rfl (by kernel_rfl) (HCALL.out wd hbd) ?_ (fun c w' h => by obtain ⟨_, h, _⟩ := h; cases h) (fun w' h => by obtain ⟨_, h, _⟩ := h; cases h)
          rintro u6 w6 ⟨u, hu, hl6, hb6⟩
          injection hu with hu
          subst hu
          have hbB : Below B.heap.size B w6 := hbd.trans (hb6.mono hbd.size)
          have S6 : B.grownBy w6 v3.ownBlock := ⟨hbB.os, hbB.tape, hbB.output, hbB.size, fun k hk _ => hbB.block k hk⟩
          refine ⟨S6, ?_⟩
          have ht6 := HTNB.out.below hbB
          have hb0 : w.heap.size + 1 + 1 ≤ w6.heap.size := Nat.le_of_lt ht6.box.lt
          obtain ⟨v7, W7, hrun, hg7, hgr7, hown7⟩ := run_append_at w6 47 v3 _ ht6.row u6 _ hl6 HXS.out hb0
          have S7 : B.grownBy W7 v3.ownBlock := ⟨hgr7.os.trans S6.os, hgr7.tape.trans S6.tape, hgr7.output.trans S6.output, Nat.le_trans S6.size hgr7.size, fun k hk hne => (hgr7.block k (Nat.lt_of_lt_of_le hk S6.size) hne).trans (S6.block k hk hne)⟩
          refine held_app (i := 6) (some 30) #[47, 47] (.tmp 24) (.tmp 29) (by kernel_rfl) rfl rfl rfl rfl (by kernel_rfl) (by kernel_rfl) (fun _ => hrun) S7 ?_
          have hbx7 : Go.Boxed W7 (w.heap.size + 1 + 1) 47 v3 := ht6.box.kept hgr7 (off_type ht6.row ht6.box (by decide))
          have hfin := HFIN.out (W7.setCell ⟨w.heap.size + 1 + 1, 0, none⟩ v7) v7 (hg7.kept (grownBy_setCell' W7 _ _) (by
            cases hv : v7.ownBlock with
            | none => exact .inl rfl
            | some g => exact .inr (fun e => off_type hg7 hbx7 (by decide) (e.symm.trans hv.symm)))) (hbx7.set v7) (Stp.app hbB hgr7 hown7)
          obtain ⟨a7, c7, hv7⟩ := Sl.shape hg7.l1
          generalize hn7 : (((tnum ds ac dn q (pre.map (·.1)) ++ (List.range k).flatMap fun r => trow ds ac dn q (i, j) r) ++ (pre2.map (·.1)).flatMap (prt ds ac dn (i, j) k)) ++ prt ds ac dn (i, j) k (a, b)).length = n7 at hv7
          subst hv7
          have HFI := Lib.hid hfin
          have zc := hbx7.cell
          have zf := hbx7.frozen
          clear hfin hg7 hgr7 hown7 hbx7 ht6 hn7 hrun
          refine held_none (i := 7) (v := .bool false) rfl rfl (by kernel_rfl) (by kernel_rfl) (by kernel_rfl) (fun _ _ _ h => h) (yieldsIf_move (by kernel_rfl) rfl (by kernel_rfl)) S7 ?_
          refine wpAnyH_done (by kernel_rfl) (lastQ_storeN rfl (by kernel_rfl) (by kernel_rfl) (.tmp 5) (.tmp 30) (by kernel_rfl) (w.heap.size + 1 + 1) 0 a7 n7 c7 _ (by kernel_rfl) (by kernel_rfl) zc zf ?_) _
          exact HFI.out
        case done2 =>
          rintro zs B hS ⟨v3, htn3, hst3⟩
          have HF : Hid (Tn (w.heap.size + 1 + 1) (w.heap.size + 1 + 1) B v3 (tnum ds ac dn q (pre.map (·.1)) ++ (List.range (k + 1)).flatMap fun r => trow ds ac dn q (i, j) r)) := Lib.hid (by
            rw [hS, List.append_assoc] at htn3
            rw [List.range_succ, List.flatMap_append]
            simpa [trow] using htn3)
          have HG := Lib.hid (HST3.out.trans hst3)
          clear hS htn3 hst3
          gi_wp2
          go_roundw
          case rel => exact ⟨k + 1, by omega, by go_num, v3, HF, HG⟩
          case measure => simp [intOf]; omega
        case stop2 =>
          rintro c pre2 B _ hf
          exact hf.elim
      · obtain rfl : k = d := by omega
        have HF : Hid (KeepsFrom W1.heap.size A wr ∧ Kd w.heap.size (WA.heap.size + 1) A wr ∧ ∃ v', Tn (w.heap.size + 1 + 1) (w.heap.size + 1 + 1) wr v' (tnum ds ac dn q ((pre ++ ([⟨(i, j), hxm⟩] : List (DgIn ds n))).map (·.1))) ∧ Stp (w.heap.size + 1 + 1) W1 wr (.slice none 0 0) v') := Lib.hid (by
          have hs1 := HS1.out
          have hsa := HSA.out
          have hsz := HST.out.size
          refine ⟨HST2.out.keeps HTN.out, HST2.out.kd HTN.out (by omega) (by omega) (by omega) (by omega) (HST.out.off (by omega) (by simp [Value.ownBlock])) (by omega), v2, ?_, HST.out.trans HST2.out⟩
          rw [List.map_append]
          have h2 := HTN2.out
          rw [HD.out, ← tnum_snoc] at h2
          exact h2)
        gi_wp2
        exact HF.out
  case done =>
    rintro D zs A hD hS ⟨v, htn, hst⟩ hKD
    have hdq : tnum ds ac dn q (zs.map (·.1)) = tnum ds ac dn q (dgn ds n) := by rw [hS]
    rw [hdq] at htn
    have HTN := Lib.hid htn
    have HST := Lib.hid hst
    have HKD := Lib.hid hKD
    obtain ⟨av', cv', hv'⟩ := Sl.shape htn.row.l1
    have zc := htn.box.cell
    subst hv'
    clear htn hst hKD hS hdq
    gi_wp2
    refine ⟨by simp, .inl ⟨_, _, rfl, run_takeDeferred HKD.out, ?_⟩⟩
    have HG : Gb w.heap.size (A.putObj D (.deferred none)) (.slice av' (tnum ds ac dn q (dgn ds n)).length cv') (tnum ds ac dn q (dgn ds n)) := Gb.mono (ownsRow_putObj HTN.out.row _ HKD.out rfl) (by omega)
    exact ⟨_, results_tmp rfl _ _ _, .slice av' (tnum ds ac dn q (dgn ds n)).length cv', rfl, HG,
      ((HB1.out.trans (HST.out.low HT1.out.row (by omega) (by omega) HB1.out.size)).trans (belowK_b (w := W1) HB1.out.size _ D _ _ hD HKD.out rfl rfl))⟩
  case stop =>
    rintro D c pre A hD _ hf hKD
    exact hf.elim
end Go.Proofs.YtlopenephgabhaaGreat


namespace Go.Proofs.YtlopenephgabhaaGreat
open Go.RowKit

/-- The row k of a list that is cut into rows of c numbers. -/
def cutV (ad : Option Addr) (c k : Nat) : Value := .slice (if c = 0 then ad else ad.map (·.add (k * c))) c c
def cutL (xs : List Int) (n c : Nat) : List (List Int) := (List.range n).map fun k => (xs.drop (k * c)).take c
/-- n rows of a table's top laid, each a part. -/
structure CuTo (w wr : World) (ad : Option Addr) (c n k : Nat) : Prop where
  below : Below w.heap.size w wr
  top : wr.rowIs w.heap.size 47 n (fun j => if j < k then cutV ad c j else .slice none 0 0)
theorem CuTo.step {w wr : World} {ad : Option Addr} {c n k : Nat} (h : CuTo w wr ad c n k) : CuTo w (wr.setCell ⟨w.heap.size, k, none⟩ (cutV ad c k)) ad c n (k + 1) := by
  refine ⟨h.below.setCell (Nat.le_refl _) _, (h.top.set k _).congr (fun j hj => ?_)⟩
  by_cases e : j = k
  · subst e
    rw [if_pos rfl, if_pos (by omega)]
  · rw [if_neg e]
    by_cases h2 : j < k
    · rw [if_pos h2, if_pos (by omega)]
    · rw [if_neg h2, if_neg (by omega)]
theorem cu_bd {k n c : Nat} (h : k ≤ n) : k * c ≤ n * c := Nat.mul_le_mul_right c h

set_option maxRecDepth 100000 in
set_option maxHeartbeats 2000000 in
theorem cutRows_at (ad : Option Addr) (m cap n c : Nat) (w : World) (hn : n ≤ 1000) (hc : c ≤ 1000) (hm : m = n * c) (hcap : m ≤ cap) :
    Calls Tryz.prog 91 #[.slice ad m cap, .int .i64 (n : Int), .int .i64 (c : Int)] w fun e w' => e = .returned (.slice (some ⟨w.heap.size, 0, none⟩) n n) ∧ CuTo w w' ad c n n := by
  have hmk := run_make_row' (P := Tryz.prog) 22 47 (.slice none 0 0) 24 Tryz.underlying22 Tryz.infoS rfl .i64 .i64 n (by omega) (by omega)
  have HM := Lib.hid hm
  clear hm
  go_enter Tryz.func91, Tryz.ntmps91
  go_wp2
  clear hmk
  go_loopw [8, 9, 10, 14] (fun _ _ _ i wr => ∃ (k : Nat), k ≤ n ∧ i = .int .i64 k ∧ Hid (CuTo w wr ad c n k)) (fun _ _ _ i _ => n - (intOf i).toNat)
  case atStart => exact ⟨0, Nat.zero_le _, rfl, Lib.hid ⟨below_alloc1 _ _, (World.rowIs_made w (.slice none 0 0) n 47).congr (fun j _ => by simp)⟩⟩
  case round =>
    obtain ⟨k, hk, rfl, HC⟩ := hrel
    by_cases hlt : k < n
    · have hkl : (k : Int) < (n : Int) := by omega
      have h0 : wr.cell? ⟨w.heap.size, k, none⟩ = some (.slice none 0 0) := by rw [HC.out.top.cell hlt, if_neg (Nat.lt_irrefl _)]
      have hf := HC.out.top.frozen k
      obtain ⟨lo, hlo⟩ : ∃ lo, lo = k * c := ⟨_, rfl⟩
      obtain ⟨hi, hhi⟩ : ∃ hi, hi = (k + 1) * c := ⟨_, rfl⟩
      have hs : hi = lo + c := by rw [hhi, hlo, Nat.succ_mul]
      have hb : hi ≤ m := by rw [hhi, HM.out]; exact cu_bd (show k + 1 ≤ n by omega)
      have hb2 : hi ≤ 1000000 := by
        have : hi ≤ 1000 * 1000 := by rw [hhi]; exact Nat.mul_le_mul (by omega) hc
        omega
      have w1 : IntKind.i64.wrap ((k : Int) * (c : Int)) = (lo : Int) := by rw [show (k : Int) * (c : Int) = (lo : Int) by rw [hlo]; simp]; exact IntWalk.i64_in _ (by omega)
      have w2 : IntKind.i64.wrap ((k : Int) + 1) = ((k + 1 : Nat) : Int) := by rw [show (k : Int) + 1 = ((k + 1 : Nat) : Int) by omega]; exact IntWalk.i64_in _ (by omega)
      have w3 : IntKind.i64.wrap (((k : Int) + 1) * (c : Int)) = (hi : Int) := by rw [show ((k : Int) + 1) * (c : Int) = (hi : Int) by rw [hhi]; simp]; exact IntWalk.i64_in _ (by omega)
      have s1 : (lo : Int) ≤ (hi : Int) := by omega
      have s2 : (hi : Int) ≤ (cap : Int) := by omega
      have s0 : (0 : Int) ≤ (lo : Int) := by omega
      have HS : Hid (CuTo w (wr.setCell ⟨w.heap.size, k, none⟩ (.slice (if hi = lo then ad else ad.map (·.add lo)) (hi - lo) (hi - lo))) ad c n (k + 1)) := Lib.hid (by
        have e : Value.slice (if hi = lo then ad else ad.map (·.add lo)) (hi - lo) (hi - lo) = cutV ad c k := by
          unfold cutV
          rw [show hi - lo = c by omega, hlo]
          by_cases hz : c = 0
          · rw [if_pos hz, if_pos (by omega)]
          · rw [if_neg hz, if_neg (by omega)]
        rw [e]
        exact HC.out.step)
      clear HC hs hlo hhi hb
      go_wp2
      exact ⟨⟨k + 1, by omega, by go_num, HS⟩, by simp [intOf]; omega⟩
    · have hkn : ¬ (k : Int) < (n : Int) := by omega
      obtain rfl : k = n := by omega
      go_wp2
      go_ret
      exact ⟨rfl, HC.out⟩

theorem cut_len {xs : List Int} {n c k : Nat} (hl : xs.length = n * c) (hk : k < n) : ((xs.drop (k * c)).take c).length = c := by
  have h := cu_bd (c := c) (show k + 1 ≤ n by omega)
  rw [Nat.succ_mul] at h
  rw [List.length_take, List.length_drop, hl]
  omega
theorem drop_flat {c : Nat} : ∀ (t : List (List Int)), (∀ r ∈ t, r.length = c) → ∀ k, k ≤ t.length → t.flatten.drop (k * c) = (t.drop k).flatten
  | t, _, 0, _ => by simp
  | [], _, k + 1, hk => by simp at hk
  | r :: t, h, k + 1, hk => by
    have hr := h r (by simp)
    rw [List.flatten_cons, Nat.succ_mul, Nat.add_comm, ← List.drop_drop, show (r ++ t.flatten).drop c = t.flatten by rw [← hr]; simp]
    exact drop_flat t (fun x hx => h x (by simp [hx])) k (by simpa using hk)
theorem cut_flat {c : Nat} {t : List (List Int)} (h : ∀ r ∈ t, r.length = c) : cutL t.flatten t.length c = t := by
  unfold cutL
  refine List.ext_getElem (by simp) (fun k h1 h2 => ?_)
  rw [List.getElem_map, List.getElem_range, drop_flat t h k (Nat.le_of_lt h2), List.drop_eq_getElem_cons h2, List.flatten_cons]
  have hr := h _ (List.getElem_mem h2)
  rw [List.take_append_of_le_length (by omega), List.take_of_length_le (by omega)]
theorem flat_len {c : Nat} : ∀ {t : List (List Int)}, (∀ r ∈ t, r.length = c) → t.flatten.length = t.length * c
  | [], _ => by simp
  | r :: t, h => by
    rw [List.flatten_cons, List.length_append, List.length_cons, Nat.succ_mul, h r (by simp), flat_len (fun x hx => h x (by simp [hx]))]
    omega
theorem ttab_flat (ds : List (List Int)) (ac dn : List (List (List (List Int)))) (q : Nat) : (ttab ds ac dn q).flatten = tnum ds ac dn q (dgn ds (q + 1)) := by
  unfold ttab tnum
  generalize dgn ds (q + 1) = L
  induction L with
  | nil => rfl
  | cons f L ih => rw [List.flatMap_cons, List.flatMap_cons, List.flatten_append, ih]; rfl
end Go.Proofs.YtlopenephgabhaaGreat


namespace Go.Proofs.YtlopenephgabhaaGreat
open Go.RowKit

theorem Gb.parts {lo : Nat} {w : World} {ad : Option Addr} {m cap : Nat} {xs : List Int} (h : Gb lo w (.slice ad m cap) xs) (hp : 0 < xs.length) : ∃ b, ad = some ⟨b, 0, none⟩ ∧ lo ≤ b ∧ b < w.heap.size ∧ ∀ i (hi : i < xs.length), w.cell? ⟨b, i, none⟩ = some (.int .i64 xs[i]) ∧ w.frozen? ⟨b, i, none⟩ = false := by
  rcases h.2 with ⟨_, h0⟩ | ⟨g, cp, cur, hv, hb, hgb, h1, h2, h3, h4⟩
  · omega
  · injection hv with e1 _ _
    refine ⟨g, e1, hb, (Array.getElem?_eq_some_iff.1 hgb).1, fun i hi => ⟨?_, by simp [World.frozen?, hgb]⟩⟩
    have h5 : (cur.toList.take (xs.length * 1))[i]? = (xs.map (Value.int .i64))[i]? := by rw [h4]
    rw [List.getElem?_take, if_pos (by omega), List.getElem?_map, List.getElem?_eq_getElem hi] at h5
    simp [World.cell?, hgb]
    simpa using h5

theorem CuTo.rw2 {w wr : World} {ad : Option Addr} {c n m cap lo : Nat} {xs : List Int} (h : CuTo w wr ad c n n) (hn : n ≤ 1000) (hc : c ≤ 1000) (hg : Gb lo w (.slice ad m cap) xs) (hl : xs.length = n * c) (hlo : lo ≤ w.heap.size) :
    Rw2 lo wr.heap.size wr (.slice (some ⟨w.heap.size, 0, none⟩) n n) (cutL xs n c) := by
  have hlt := h.top.lt
  by_cases hz : n * c = 0
  · have hr : ∀ k, k < n → c = 0 := fun k hk => by
      rcases Nat.mul_eq_zero.1 hz with h1 | h1
      · omega
      · exact h1
    refine ⟨?_, ?_⟩
    · by_cases h0 : n = 0
      · subst h0
        exact Or.inl ⟨rfl, _, _, rfl⟩
      · have hc0 := hr 0 (by omega)
        refine Or.inr ⟨w.heap.size, 0, n, by simp [cutL], hlo, hlt, by simp [cutL]; omega, fun k hk => ?_, fun k _ => h.top.frozen _⟩
        have hk' : k < n := by simpa [cutL] using hk
        refine ⟨cutV ad c k, by rw [Nat.zero_add, h.top.cell hk', if_pos hk'], ?_⟩
        simp only [cutL, List.getElem_map, List.getElem_range]
        subst hc0
        exact Or.inl ⟨by simp, _, _, rfl⟩
    · refine ⟨flat (fun _ => []) n, ⟨some ⟨w.heap.size, 0, none⟩, n, n, fun j => cutV ad c j, fun _ => [], rfl, by omega, rfl, fun j hj => Or.inl ?_, fun _ => ⟨w.heap.size, 0, rfl, hlo, hlt, fun j hj => by rw [Nat.zero_add, h.top.cell hj, if_pos hj]⟩⟩, nums_flat (fun j _ x hx => absurd hx (by simp)), ?_, ?_⟩
      · rw [hr j hj]
        exact ⟨rfl, _, _, rfl⟩
      · have : flat (fun _ => ([] : List Iv)) n = [] := by simp [flat]
        rw [this]
        exact List.Pairwise.nil
      · have := size_spans (J := fun _ => []) (n := n) (B := 0) (fun j _ => by simp [ivSize])
        omega
  · have hc0 : c ≠ 0 := fun e => hz (by rw [e, Nat.mul_zero])
    obtain ⟨b, rfl, hlb, hb, hcz⟩ := hg.parts (by omega)
    have hv : ∀ j, cutV (some ⟨b, 0, none⟩) c j = .slice (some ⟨b, j * c, none⟩) c c := fun j => by
      unfold cutV
      rw [if_neg hc0, Option.map_some, Addr.add_mid, Nat.zero_add]
    have hz' : ∀ i (hi : i < xs.length), wr.cell? ⟨b, i, none⟩ = some (.int .i64 xs[i]) ∧ wr.frozen? ⟨b, i, none⟩ = false := fun i hi => ⟨(h.below.cell (p := ⟨b, i, none⟩) hb).trans (hcz i hi).1, (h.below.frozen (p := ⟨b, i, none⟩) hb).trans (hcz i hi).2⟩
    have hbr : b < wr.heap.size := by have := h.below.size; omega
    have hin : ∀ {j i : Nat}, j < n → i < c → j * c + i < xs.length := fun {j i} hj hi => by
      have := cu_bd (c := c) (show j + 1 ≤ n by omega)
      rw [Nat.succ_mul] at this
      omega
    refine ⟨?_, ?_⟩
    · have h0 : n ≠ 0 := fun e => hz (by rw [e, Nat.zero_mul])
      refine Or.inr ⟨w.heap.size, 0, n, by simp [cutL], hlo, hlt, by simp [cutL]; omega, fun k hk => ?_, fun k _ => h.top.frozen _⟩
      have hk' : k < n := by simpa [cutL] using hk
      refine ⟨.slice (some ⟨b, k * c, none⟩) c c, by rw [Nat.zero_add, h.top.cell hk', if_pos hk', hv], ?_⟩
      simp only [cutL, List.getElem_map, List.getElem_range]
      have hlen := cut_len hl hk'
      refine Or.inr ⟨b, k * c, c, by rw [hlen], hlb, hbr, by rw [hlen]; omega, fun i hi => ?_, fun i hi => ?_⟩
      · rw [hlen] at hi
        refine ⟨_, (hz' (k * c + i) (hin hk' hi)).1, ?_⟩
        simp only [IsI, List.getElem_take, List.getElem_drop]
      · rw [hlen] at hi
        exact (hz' (k * c + i) (hin hk' hi)).2
    · refine ⟨flat (fun j => [(b, j * c, c)]) n, ⟨some ⟨w.heap.size, 0, none⟩, n, n, fun j => .slice (some ⟨b, j * c, none⟩) c c, fun j => [(b, j * c, c)], rfl, by omega, rfl, fun j _ => Or.inr ⟨b, j * c, c, c, rfl, by omega, by omega, hlb, hbr, rfl⟩, fun _ => ⟨w.heap.size, 0, rfl, hlo, hlt, fun j hj => by rw [Nat.zero_add, h.top.cell hj, if_pos hj, hv]⟩⟩, nums_flat (fun j hj x hx => ?_), ?_, ?_⟩
      · obtain rfl : x = (b, j * c, c) := by simpa using hx
        exact ⟨hlb, hbr, fun i hi => by
          have hi' : i < c := hi
          exact ⟨⟨_, (hz' (j * c + i) (hin hj hi')).1⟩, (hz' (j * c + i) (hin hj hi')).2⟩⟩
      · have hgen : ∀ q, Disj (flat (fun j => [(b, j * c, c)]) q) := fun q => by
          induction q with
          | zero => exact List.Pairwise.nil
          | succ q ih =>
            rw [flat_succ]
            refine List.pairwise_append.2 ⟨ih, List.pairwise_singleton _ _, fun x hx y hy => Or.inr (Or.inl ?_)⟩
            obtain rfl : y = (b, q * c, c) := by simpa using hy
            obtain ⟨j, hj, hx⟩ := List.mem_flatMap.1 hx
            obtain rfl : x = (b, j * c, c) := by simpa using hx
            have := cu_bd (c := c) (show j + 1 ≤ q by have := List.mem_range.1 hj; omega)
            rw [Nat.succ_mul] at this
            exact this
        exact hgen n
      · have h1 := size_spans (J := fun j => [(b, j * c, c)]) (n := n) (B := 1000) (fun j _ => by simp [ivSize]; omega)
        omega
end Go.Proofs.YtlopenephgabhaaGreat


namespace Go.Proofs.YtlopenephgabhaaGreat
open Go.RowKit

section
variable {P : Program} {ops : Array Oper} {Q : Exit → Act → World → Prop} {md : Region.Mode} {S : World → Prop}
theorem held_one {i : Nat} {fuel : Nat} {listed : Array Bool} {a : Act} {w : World} (hr : Region.ready md ops listed = [i])
    (h1 : wpOp P ops Q i (fun a' w' => S w' ∧ wpAnyH P md ops Q S fuel (listed.setIfInBounds i true) a' w') a w) : wpAnyH P md ops Q S (fuel + 1) listed a w :=
  wpAnyH_all hr (by simp) (fun k hk => by obtain rfl := List.mem_singleton.1 hk; exact h1)
theorem held_two {i j : Nat} {fuel : Nat} {listed : Array Bool} {a : Act} {w : World} (hr : Region.ready md ops listed = [i, j])
    (h1 : wpOp P ops Q i (fun a' w' => S w' ∧ wpAnyH P md ops Q S fuel (listed.setIfInBounds i true) a' w') a w)
    (h2 : wpOp P ops Q j (fun a' w' => S w' ∧ wpAnyH P md ops Q S fuel (listed.setIfInBounds j true) a' w') a w) : wpAnyH P md ops Q S (fuel + 1) listed a w :=
  wpAnyH_all hr (by simp) (fun k hk => by
    rcases List.mem_cons.1 hk with rfl | hk
    · exact h1
    · obtain rfl := List.mem_singleton.1 hk; exact h2)
theorem held_three {i j l : Nat} {fuel : Nat} {listed : Array Bool} {a : Act} {w : World} (hr : Region.ready md ops listed = [i, j, l])
    (h1 : wpOp P ops Q i (fun a' w' => S w' ∧ wpAnyH P md ops Q S fuel (listed.setIfInBounds i true) a' w') a w)
    (h2 : wpOp P ops Q j (fun a' w' => S w' ∧ wpAnyH P md ops Q S fuel (listed.setIfInBounds j true) a' w') a w)
    (h3 : wpOp P ops Q l (fun a' w' => S w' ∧ wpAnyH P md ops Q S fuel (listed.setIfInBounds l true) a' w') a w) : wpAnyH P md ops Q S (fuel + 1) listed a w :=
  wpAnyH_all hr (by simp) (fun k hk => by
    rcases List.mem_cons.1 hk with rfl | hk
    · exact h1
    · rcases List.mem_cons.1 hk with rfl | hk
      · exact h2
      · obtain rfl := List.mem_singleton.1 hk; exact h3)
theorem op_plain {i : Nat} {oi : Oper} {K : Act → World → Prop} {a : Act} {w : World} (hi : ops[i]? = some oi) (hg : oi.guard = none) (h : oi.wp P a w K Q) : wpOp P ops Q i K a w := by
  unfold wpOp
  rw [hi]
  have hw : Region.wanted oi (yielded ops a.tmps) = true := by unfold Region.wanted; rw [hg]
  simp only [hw, if_true]
  exact Or.inl h
theorem op_enter {i : Nat} {oi : Oper} {K : Act → World → Prop} {a : Act} {w : World} (d : Option Tmp) {f : FuncId} {args : Array Value} (hi : ops[i]? = some oi) (hg : oi.guard = none) (hd : oi.dst = d)
    (h : (execOp a.eval oi).run P w = .ok (.enter f args) w) {R : Ending → World → Prop} (hc : Calls P f args w R) (hR : ∀ v w', R (.returned v) w' → K (a.put d v) w') (h2 : ∀ c w', ¬ R (.panicked c) w') (h3 : ∀ w', ¬ R .outgrown w') : wpOp P ops Q i K a w :=
  op_plain hi hg (wp_enter h hc (fun v w' hv => by rw [hd]; exact hR v w' hv) h2 h3)
theorem op_mem {i : Nat} {oi : Oper} {K : Act → World → Prop} {a : Act} {w w' : World} {v : Value} (d : Option Tmp) (hi : ops[i]? = some oi) (hg : oi.guard = none) (hd : oi.dst = d)
    (h : (execOp a.eval oi).run P w = .ok (.value v) w') (hK : K (a.put d v) w') : wpOp P ops Q i K a w := by
  subst hd
  refine op_plain hi hg ?_
  unfold Oper.wp
  rw [h]
  exact hK
theorem op_row {i : Nat} {oi : Oper} {K : Act → World → Prop} {a : Act} {w : World} (hi : ops[i]? = some oi) (hgd : oi.guard = none) (hd : oi.dst = none) (ty : TypeId) (x y : Operand) (ho : oi.op = .store ty x y)
    (g : Nat) (cells : Array Value) (hx : a.eval x = .pointer (some ⟨g, 0, none⟩)) (hy : a.eval y = .agg cells) (t : TypeId) (old : Array Value) (hg : w.heap[g]? = some (.cells old t (0, 0))) (hs : (P.info? ty).map (·.size) = some cells.size)
    (hold : old.size = cells.size) (h1 : cells.all (·.oneCell') = true) (hK : K a (w.setRow g cells)) : wpOp P ops Q i K a w :=
  op_plain hi hgd (wp_store_row ty x y ho g cells hx hy t old hg hs hold h1 (by rw [hd]; exact hK))
end
/-- A block of cells that may be written. -/
def Rz (W : World) (g : Nat) (t : TypeId) (cs : Array Value) : Prop := W.heap[g]? = some (.cells cs t (0, 0))
theorem Rz.lt {W : World} {g : Nat} {t : TypeId} {cs : Array Value} (h : Rz W g t cs) : g < W.heap.size := (Array.getElem?_eq_some_iff.1 h).1
theorem Rz.next {W W' : World} {g : Nat} {t : TypeId} {cs : Array Value} (h : Rz W g t cs) (hb : Below W.heap.size W W') : Rz W' g t cs := (hb.block g h.lt).trans h
theorem Rz.new (W : World) (t : TypeId) (cs : Array Value) : Rz (W.alloc (.cells cs t)) W.heap.size t cs := by simpa [Rz] using heap_alloc_new W (.cells cs t)
theorem Rz.set {W : World} {g : Nat} {t : TypeId} {cs : Array Value} (h : Rz W g t cs) (x : Array Value) : Rz (W.setRow g x) g t x := setRow_heap W g cs x t _ h
theorem Rz.off {W : World} {g g' : Nat} {t : TypeId} {cs : Array Value} (h : Rz W g t cs) (hne : g ≠ g') (x : Array Value) : Rz (W.setRow g' x) g t cs := (setRow_other W g' g x hne).trans h
theorem Rz.cell {W : World} {g : Nat} {t : TypeId} {cs : Array Value} (h : Rz W g t cs) {i : Nat} {v : Value} (hv : cs[i]? = some v) : W.cell? ⟨g, i, none⟩ = some v := by
  have h' : W.heap[g]? = some (.cells cs t (0, 0)) := h
  simp [World.cell?, h', hv]
end Go.Proofs.YtlopenephgabhaaGreat


namespace Go.Proofs.YtlopenephgabhaaGreat
open Go.RowKit
theorem haddA {a b s : Int} (h : IntKind.i64.wrap (a + b) = s) (w : World) : (binOp .add 2 (.int .i64 a) (.int .i64 b)).run Tryz.prog w = .ok (.int .i64 s) w := by go_simp
theorem hloadD (w : World) {b o : Nat} {x : Value} (h : w.cell? ⟨b, o, none⟩ = some x) : (Instr.loadAt 47 (.pointer (some ⟨b, o, none⟩))).run Tryz.prog w = .ok x w := by go_simp
theorem hloadM (w : World) {b o : Nat} {x : Value} (h : w.cell? ⟨b, o, none⟩ = some x) : (Instr.loadAt 51 (.pointer (some ⟨b, o, none⟩))).run Tryz.prog w = .ok x w := by go_simp
theorem hsubA {a b s : Int} (h : IntKind.i64.wrap (a - b) = s) (w : World) : (binOp .sub 2 (.int .i64 a) (.int .i64 b)).run Tryz.prog w = .ok (.int .i64 s) w := by go_simp
section
variable {P : Program} {ops : Array Oper} {Q : Exit → Act → World → Prop} {md : Region.Mode} {S : World → Prop}
theorem op_make {i : Nat} {oi : Oper} {K : Act → World → Prop} {a : Act} {w w' : World} {v x y : Value} (d : Option Tmp) (t : TypeId) (l c : Operand) (hi : ops[i]? = some oi) (hg : oi.guard = none) (hd : oi.dst = d) (ho : oi.op = .makeSlice t l c) (hl : a.eval l = x) (hc : a.eval c = y)
    (h : (Instr.makeSlice t x y).run P w = .ok v w') (hK : K (a.put d v) w') : wpOp P ops Q i K a w :=
  op_mem d hi hg hd (by simp [execOp, ho, hl, hc, h, Result.andThen]) hK
end
theorem infoCo (y0 y1 y2 : Value) : (Tryz.prog.info? 66).map (·.size) = some (#[y0, y1, y2] : Array Value).size := by kernel_rfl
end Go.Proofs.YtlopenephgabhaaGreat


namespace Go.Proofs.YtlopenephgabhaaGreat
open Go.RowKit

def tdl (ds : List (List Int)) (L : List (Nat × Nat)) (s : Nat) : Nat := ((L.filter (onD s)).map (cdim ds)).sum
theorem tdl_snoc (ds : List (List Int)) (L : List (Nat × Nat)) (c : Nat × Nat) (s : Nat) : tdl ds (L ++ [c]) s = tdl ds L s + if onD s c then cdim ds c else 0 := by
  unfold tdl
  rw [List.filter_append, List.map_append, List.sum_append]
  by_cases h : onD s c <;> simp [h]
theorem sum_le4 {α : Type} (f : α → Nat) : ∀ L : List α, (∀ c ∈ L, f c ≤ 4) → (L.map f).sum ≤ 4 * L.length
  | [], _ => by simp
  | c :: L, h => by
    rw [List.map_cons, List.sum_cons, List.length_cons]
    have h1 := h c (by simp)
    have h2 := sum_le4 f L (fun d hd => h d (by simp [hd]))
    omega
theorem tdl_le {ds : List (List Int)} (hok : DclOk ds) (pre : List (CellIn ds)) (s : Nat) : tdl ds (pre.map (·.1)) s ≤ 4 * pre.length := by
  unfold tdl
  have h := sum_le4 (cdim ds) ((pre.map (·.1)).filter (onD s)) (fun c hc => by
    obtain ⟨x, _, rfl⟩ := List.mem_map.1 (List.mem_filter.1 hc).1
    exact (cdim_cast hok x.2).2)
  have h2 := List.length_filter_le (onD s) (pre.map (·.1))
  rw [List.length_map] at h2
  omega
theorem tdim_le {ds : List (List Int)} (hok : DclOk ds) (s : Nat) : tdim ds s ≤ 64 := by
  have h := sum_le4 (cdim ds) (dgn ds s) (fun c hc => (cdim_cast hok (mem_cells.2 (mem_dgn.1 hc).1)).2)
  have h2 := dgn_le hok s
  unfold tdim
  omega
/-- The degrees of the total. -/
def ttop (ds : List (List Int)) : Nat := ds.length + (ds.getD 0 []).length - 2
def tD (ds : List (List Int)) : List Int := (List.range (ttop ds + 1)).map fun s => ((tdim ds s : Nat) : Int)
def tM (ds : List (List Int)) (ac dn : List (List (List (List Int)))) : List (List (List Int)) := (List.range (ttop ds)).map (ttab ds ac dn)
theorem tD_len (ds : List (List Int)) : (tD ds).length = ttop ds + 1 := by simp [tD]
theorem tM_len (ds : List (List Int)) (ac dn : List (List (List (List Int)))) : (tM ds ac dn).length = ttop ds := by simp [tM]
theorem tD_at {ds : List (List Int)} {s : Nat} (h : s < ttop ds + 1) : (tD ds).getD s 0 = ((tdim ds s : Nat) : Int) := by simp [tD, h]
theorem tM_at {ds : List (List Int)} {ac dn : List (List (List (List Int)))} {s : Nat} (h : s < ttop ds) : (tM ds ac dn).getD s [] = ttab ds ac dn s := by simp [tM, h]

theorem gen_rc {lo : Nat} {W : World} {D : List Int} {M : List (List (List Int))} {bd bm n m : Nat} {f : Nat → Value} {b : Nat → Nat} (hm : m = M.length) (hn : n = D.length) (hb : n ≤ 1048576) (hb2 : m ≤ 1048576)
    (hdim : W.rowIs bd 2 n (fun j => .int .i64 (D.getD j 0))) (hfill : Fill3 W bm m m f b M) (l1 : lo ≤ bd) (l2 : lo ≤ bm) (l3 : bd < b 0) :
    RcW lo W.heap.size W (.slice (some ⟨bd, 0, none⟩) n n) (.slice (some ⟨bm, 0, none⟩) m m) D M := by
  obtain ⟨q3, J, s3, n3, d3, z3⟩ := hfill.parts hm hb2
  obtain ⟨q1, I, s1, n1, b1, z1⟩ := row_rc (xs := D) hdim hn.symm (fun i hi => by rw [getD_of_lt _ hi]) hb l1
  refine ⟨⟨q1, q3.wider l2 (Nat.le_refl _)⟩, I, J, s1, s3.wider l2 (Nat.le_refl _), n1, n3.wider ?_ (Nat.le_refl _), d3, fun x hx y hy => Or.inl ?_, z1, z3⟩
  · omega
  · have h1 := b1 x hx
    have h2 := (n3 y hy).1
    rw [h1]
    omega
theorem fill3_put {W : World} {g n k D : Nat} {f : Nat → Value} {b : Nat → Nat} {ts : List (List (List Int))} (h : Fill3 W g n k f b ts) (hD : D < b 0) (hg : D ≠ g) (o : Obj) : Fill3 (W.putObj D o) g n k f b ts := by
  have hb : ∀ i, i ≠ D → (W.putObj D o).heap[i]? = W.heap[i]? := fun i hi => World.putObj_heap_other (by omega)
  have h0 : ∀ j, j ≤ k → b 0 ≤ b j := by
    intro j
    induction j with
    | zero => intro _; exact Nat.le_refl _
    | succ j ih => intro hj; exact Nat.le_trans (ih (by omega)) (h.inc j (by omega))
  refine ⟨h.row.of_block (hb g (Ne.symm hg)), h.lo, h.inc, by simpa using h.hi, fun j hj hk => (h.at' j hj hk).same (fun i hi _ => hb i ?_)⟩
  have := h0 j (by omega)
  omega
theorem results_cx {fn : Func} {t : Tmp} (h : fn.results = #[.cell t 66]) (tmps : Array Value) (B : Nat) (x0 x1 x2 : Value) (W : World) (ht : tmps.getD t undef = .pointer (some ⟨B, 0, none⟩)) (c0 : W.cell? ⟨B, 0, none⟩ = some x0) (c1 : W.cell? ⟨B, 1, none⟩ = some x1) (c2 : W.cell? ⟨B, 2, none⟩ = some x2) :
    (results fn tmps).run Tryz.prog W = .ok (.agg #[x0, x1, x2]) W := by
  simp only [Array.getD_eq_getD_getElem?] at ht
  simp [results, h, ht, go_sem, c0, c1, c2]
theorem du_own {β : Type} {wB : World} {g bd bm n t B : Nat} {p : Int} (D : β → Nat → Value) (M : Nat → Value) (h0 : wB.heap.size ≤ B) (h1 : g < B) (h2 : bd < B) (h3 : bm < B) : OwnFrom B (fun (s : β) W => Du wB W g bd bm n t p (D s) M) := fun s X Y row h hg hr => by
  have hb : ∀ k, k < B → k < X.heap.size → Y.heap[k]? = X.heap[k]? := fun k hk hl => hg.block k hl (fun e => by have := (hr k e.symm).1; omega)
  exact ⟨⟨hg.os.trans h.below.os, hg.tape.trans h.below.tape, hg.output.trans h.below.output, Nat.le_trans h.below.size hg.size, fun k hk => (hb k (by omega) (by have := h.below.size; omega)).trans (h.below.block k hk)⟩,
    h.lo, h.ne, h.box.of_block (hb g h1 h.box.lt), h.dims.of_block (hb bd h2 h.dims.lt), h.maps.of_block (hb bm h3 h.maps.lt)⟩

section
variable {ops : Array Oper} {Q : Exit → Act → World → Prop} {n : Nat}
theorem lastQ_storeJ {on : Oper} {a : Act} {w : World} (hn : ops[n]? = some on) (hg : on.guard = none) (_ : on.dst = none) (x y : Operand) (ho : on.op = .store 2 x y)
    (b o : Nat) (z : Int) (u : Value) (hx : a.eval x = .pointer (some ⟨b, o, none⟩)) (hy : a.eval y = .int .i64 z) (hc : w.cell? ⟨b, o, none⟩ = some u) (hf : w.frozen? ⟨b, o, none⟩ = false)
    (h : Q .normal a (w.setCell ⟨b, o, none⟩ (.int .i64 z))) : lastQ Tryz.prog ops n Q .normal a w :=
  lastQ_of hn hg (by
    unfold Oper.wp execOp
    simp only [ho, hx, hy]
    go_simp
    exact h)
end
/-- No panic is left open. -/
def calmQ (Q : Exit → Act → World → Prop) : Exit → Act → World → Prop
  | .panic _, _, _ => False
  | .outgrown, _, _ => False
  | .normal, a, w => Q .normal a w
  | .ret, a, w => Q .ret a w
  | .exit i, a, w => Q (.exit i) a w
  | .goto t, a, w => Q (.goto t) a w
theorem wpIn_calm {F : Fence} {n : Nat} {P : Program} {c : Code} {Q : Exit → Act → World → Prop} {a : Act} {w : World} (h : c.wpIn F n P (calmQ Q) a w) : c.wpIn F n P Q a w :=
  wpIn_mono h (fun e _ _ h => by cases e <;> first | exact h | exact h.elim)
theorem calm_normal (Q : Exit → Act → World → Prop) (a : Act) (w : World) : calmQ Q .normal a w = Q .normal a w := rfl
theorem calm_ret (Q : Exit → Act → World → Prop) (a : Act) (w : World) : calmQ Q .ret a w = Q .ret a w := rfl
end Go.Proofs.YtlopenephgabhaaGreat

