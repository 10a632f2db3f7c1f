/-
  Spaces of a degree of a complex: spaceAt, boundarySpace, l01Bounds by their contracts.
  Boundaries: impl.mapAt, boundarySpace, BoundariesOf and spec.l01Bounds, BoundariesOf by their contracts.
  The kernel of rows in the reference model: l01Kernel by its contract.
  What annihilates a list of vectors: impl.annihilator by its contract.
  Cycles: impl.cycleSpace, CyclesOf and spec.l01Cycles, CyclesOf by their contracts.
-/
import Derived.Test.YtpdkfidmmjlmnabP3
import Derived.Test.YtpdkfidmmjlmnabQf
import Derived.Deep.RegionHeld3
import Derived.Test.YtpdkfidmmjlmnabQa
import Derived.Test.YtpdkfidmmjlmnabP2
import Derived.Test.YtpdkfidmmjlmnabQe
import Derived.Test.YtpdkfidmmjlmnabEnd
namespace Go.Proofs.Ytpdkfidmmjlmnab
open Go.RowKit

theorem hloadC (w : World) {b : Nat} {p : Int} {dv mv : Value} (c0 : w.cell? ⟨b, 0, none⟩ = some (.int .i64 p)) (c1 : w.cell? ⟨b, 1, none⟩ = some dv) (c2 : w.cell? ⟨b, 2, none⟩ = some mv) : (Instr.loadAt 31 (.pointer (some ⟨b, 0, none⟩))).run Try.prog w = .ok (.agg #[.int .i64 p, dv, mv]) w := by go_simp

open Classical in
/-- The code of a complex and a degree. -/
noncomputable def cxCode (p : Int) (ds : List Int) (ms : List (List (List Int))) (n : Int) : Int := if IsCx p ds ms then (if 0 ≤ n ∧ n ≤ (ds.length : Int) - 1 then 0 else 2) else 1
theorem cxCode_of {p : Int} {ds : List Int} {ms : List (List (List Int))} {n c : Int} (h : CodeOf p ds ms n c) : c = cxCode p ds ms n := by
  unfold cxCode
  by_cases a : IsCx p ds ms
  · rw [if_pos a]
    by_cases b : 0 ≤ n ∧ n ≤ (ds.length : Int) - 1
    · rw [if_pos b]; exact h.2.2 a b
    · rw [if_neg b]; exact h.2.1 a b
  · rw [if_neg a]; exact h.1 a
theorem cxCode_zero {p : Int} {ds : List Int} {ms : List (List (List Int))} {n : Int} (h : cxCode p ds ms n = 0) : IsCx p ds ms ∧ 0 ≤ n ∧ n ≤ (ds.length : Int) - 1 := by
  unfold cxCode at h
  by_cases a : IsCx p ds ms
  · rw [if_pos a] at h
    by_cases b : 0 ≤ n ∧ n ≤ (ds.length : Int) - 1
    · exact ⟨a, b⟩
    · rw [if_neg b] at h; exact absurd h (by decide)
  · rw [if_neg a] at h; exact absurd h (by decide)
theorem cxCode_ok {p : Int} {ds : List Int} {ms : List (List (List Int))} {n : Int} (a : IsCx p ds ms) (b : 0 ≤ n ∧ n ≤ (ds.length : Int) - 1) : cxCode p ds ms n = 0 := by
  unfold cxCode
  rw [if_pos a, if_pos b]
/-- The dimension of a degree. -/
def dimN (ds : List Int) (n : Int) : Nat := (ds.getD n.toNat 0).toNat

theorem dimN_le (p : Int) (ds : List Int) (ms : List (List (List Int))) (n : Int) : cxCode p ds ms n = 0 → dimN ds n ≤ 1048576 := fun h => by
  have := (cxCode_zero h).1.1.dim n.toNat
  unfold dimN
  omega
/-- What a function on a complex and a degree answers as a list of vectors. -/
def SpF (p : Int) (n : Nat) (S : Lin.V → Prop) (R : List Lin.V) : Prop := Lin.Red p R ∧ (∀ u ∈ R, Lin.Wd n u) ∧ (∀ v, Lin.Sp p R v ↔ S v)
theorem SpF.short {p : Int} {n : Nat} {S : Lin.V → Prop} {R : List Lin.V} (h : SpF p n S R) : R.length ≤ n := red_length h.1 h.2.1

end Go.Proofs.Ytpdkfidmmjlmnab

namespace Go.Proofs.Ytpdkfidmmjlmnab
open Go.RowKit

/-- The table from the degree k + 1 to k, none beyond the degrees. -/
def tabN (ms : List (List (List Int))) (k : Nat) : List (List Int) := ms.getD k []
theorem tabN_ok {p : Int} {ds : List Int} {ms : List (List (List Int))} (h : IsCx p ds ms) (k : Nat) : ∀ r ∈ tabN ms k, RowOk p (ds.getD k 0) r := fun r hr => by
  by_cases hk : k < ms.length
  · exact (h.tab hk).2 r hr
  · have e : tabN ms k = [] := by simp [tabN, List.getD, show ms.length ≤ k by omega]
    rw [e] at hr
    cases hr
theorem tabN_len {p : Int} {ds : List Int} {ms : List (List (List Int))} (h : IsCx p ds ms) (k : Nat) : (tabN ms k).length ≤ 8 := by
  by_cases hk : k < ms.length
  · have h1 := (h.tab hk).1
    have := (h.1.dim (k + 1)).2
    have e : tabN ms k = ms.getD k [] := rfl
    rw [e]
    omega
  · have e : tabN ms k = [] := by simp [tabN, List.getD, show ms.length ≤ k by omega]
    rw [e]
    simp
theorem cx_row {p : Int} {ds : List Int} {ms : List (List (List Int))} (h : IsCx p ds ms) {k : Nat} {r : List Int} (hr : RowOk p (ds.getD k 0) r) : r.length = dimN ds (k : Int) ∧ dimN ds (k : Int) ≤ 8 := by
  have := h.1.dim k
  have h1 := hr.1
  unfold dimN
  rw [Int.toNat_natCast]
  omega
theorem vecs_md {p d : Int} {rows : List (List Int)} (hp : 0 < p) (h : ∀ r ∈ rows, RowOk p d r) : ∀ u ∈ rows.map ofL, Lin.Md p u := fun u hu => by
  obtain ⟨r, hr, rfl⟩ := List.mem_map.1 hu
  exact ofL_md hp (h r hr)
theorem vecs_wd {n : Nat} {rows : List (List Int)} (h : ∀ r ∈ rows, r.length = n) : ∀ u ∈ rows.map ofL, Lin.Wd n u := fun u hu => by
  obtain ⟨r, hr, rfl⟩ := List.mem_map.1 hu
  exact ofL_wd (by rw [h r hr]; exact Nat.le_refl _)
theorem rows_toL' {n : Nat} {rows : List (List Int)} (h : ∀ r ∈ rows, r.length = n) : (rows.map ofL).map (toL n) = rows := by
  rw [List.map_map]
  have : ∀ r ∈ rows, (toL n ∘ ofL) r = id r := fun r hr => toL_ofL (h r hr)
  rw [List.map_congr_left this, List.map_id]

set_option maxHeartbeats 1600000 in
set_option maxRecDepth 100000 in
theorem mapAt_any (p : Int) (k : Nat) (dv mv : Value) (ds : List Int) (ms : List (List (List Int))) (w : World) (h : Cx 0 w dv mv ds ms) (hcx : IsCx p ds ms) :
    Calls Try.prog 206 #[.agg #[.int .i64 p, dv, mv], .int .i64 k] w (L2R (tabN ms k) w) := by
  have HX0 := Lib.hid (Bx.start (p := p) 31 h)
  obtain ⟨ad, cap, rfl⟩ := Sl.shape h.dims
  obtain ⟨am, capm, rfl⟩ := Sl.shape h.maps
  have hml := hcx.1.mlen
  have hl6 := hcx.1.len1
  have c0 := HX0.out.c0
  have c1 := HX0.out.c1
  have c2 := HX0.out.c2
  clear h
  by_cases hk : k < ms.length
  · have hr : 0 ≤ (k : Int) ∧ (k : Int) ≤ (ds.length : Int) - 1 - 1 := by omega
    have HR := Lib.hid hr
    clear hr
    go_enter Try.func206, Try.ntmps206
    go_wp2_with fail
    refine (topOf_any p _ _ ds.length ad cap _ rfl (by omega)).mono ?_
    rintro e w1 ⟨rfl, hb1⟩
    have HX1 := Lib.hid (HX0.out.next hb1)
    clear hb1 c0 c1 c2
    have c0 := HX1.out.c0
    have c1 := HX1.out.c1
    have c2 := HX1.out.c2
    have hw1 : IntKind.i64.wrap ((ds.length : Int) - 1 - 1) = (ds.length : Int) - 1 - 1 := IntWalk.i64_in _ (by omega)
    go_wp2_with fail
    refine (in_yes HR.out _).mono ?_
    rintro e w' ⟨rfl, rfl⟩
    refine Sl.cases HX1.out.cx.maps (fun _ _ hx _ => absurd hk (by simp [hx])) (fun bm om capm2 hvm _ _ hclm => ?_)
    injection hvm with e1 _ e3
    subst e1 e3
    obtain ⟨um, hum, hrm⟩ := hclm k hk
    have HRM : Hid (L2 0 w1 um (tabN ms k)) := Lib.hid (by unfold tabN; rw [getD_of_lt _ hk]; exact hrm)
    have hk2 : (k : Int) < (ms.length : Int) := by omega
    have hk3 : (0 : Int) ≤ (k : Int) := by omega
    clear hrm hclm
    go_wp2
    go_ret
    exact ⟨um, rfl, HRM.out, HX1.out.below⟩
  · have hr : ¬ (0 ≤ (k : Int) ∧ (k : Int) ≤ (ds.length : Int) - 1 - 1) := by omega
    have HR := Lib.hid hr
    have HE : Hid (tabN ms k = []) := Lib.hid (by simp [tabN, List.getD, show ms.length ≤ k by omega])
    clear hr
    go_enter Try.func206, Try.ntmps206
    go_wp2_with fail
    refine (topOf_any p _ _ ds.length ad cap _ rfl (by omega)).mono ?_
    rintro e w1 ⟨rfl, hb1⟩
    have HX1 := Lib.hid (HX0.out.next hb1)
    clear hb1 c0 c1 c2
    have hw1 : IntKind.i64.wrap ((ds.length : Int) - 1 - 1) = (ds.length : Int) - 1 - 1 := IntWalk.i64_in _ (by omega)
    go_wp2_with fail
    refine (in_no HR.out _).mono ?_
    rintro e w' ⟨rfl, rfl⟩
    go_wp2
    go_ret
    exact ⟨_, rfl, by rw [HE.out]; exact nil2 _, HX1.out.below⟩

set_option maxHeartbeats 1600000 in
set_option maxRecDepth 100000 in
theorem boundarySpace_any (p : Int) (q : Nat) (dv mv : Value) (ds : List Int) (ms : List (List (List Int))) (w : World) (h : Cx 0 w dv mv ds ms) (hcx : IsCx p ds ms) :
    Calls Try.prog 202 #[.agg #[.int .i64 p, dv, mv], .int .i64 q] w (VsR (SpF p (dimN ds (q : Int)) (Lin.Sp p ((tabN ms q).map ofL))) w) := by
  have HX0 := Lib.hid (Bx.start (p := p) 31 h)
  obtain ⟨ad, cap, rfl⟩ := Sl.shape h.dims
  obtain ⟨am, capm, rfl⟩ := Sl.shape h.maps
  have HCX := Lib.hid hcx
  have hp1 := hcx.1.prime.lo1
  have c0 := HX0.out.c0
  have c1 := HX0.out.c1
  have c2 := HX0.out.c2
  have HLEN := Lib.hid (tabN_len hcx q)
  have HOK := Lib.hid (tabN_ok hcx q)
  have HRL : Hid (∀ r ∈ tabN ms q, r.length = dimN ds (q : Int)) := Lib.hid (fun r hr => (cx_row hcx (tabN_ok hcx q r hr)).1)
  have HR40 : Hid (∀ r ∈ tabN ms q, r.length ≤ 40) := Lib.hid (fun r hr => by have := cx_row hcx (tabN_ok hcx q r hr); omega)
  have HW40 : Hid (∀ u ∈ (tabN ms q).map ofL, Lin.Wd 40 u) := Lib.hid (fun u hu => by
    obtain ⟨r, hr, rfl⟩ := List.mem_map.1 hu
    exact ofL_wd (HR40.out r hr))
  clear h hcx
  go_enter Try.func202, Try.ntmps202
  go_wp2
  go_region_held3 (fun w' => w'.cell? ⟨w.heap.size, 0, none⟩ = some (.int .i64 p) ∧ w'.cell? ⟨w.heap.size, 1, none⟩ = some (.slice ad ds.length cap) ∧ w'.cell? ⟨w.heap.size, 2, none⟩ = some (.slice am ms.length capm) ∧ Hid (Bx w w' w.heap.size p (.slice ad ds.length cap) (.slice am ms.length capm) ds ms))
    (first | exact ⟨HX0.out.c0, HX0.out.c1, HX0.out.c2, HX0⟩ | exact ⟨HX0.out.c0, HX0.out.c1, HX0.out.c2, Lib.hid (HX0.out.next (Below.refl _ _).drew)⟩ | exact ⟨HX3.out.c0, HX3.out.c1, HX3.out.c2, HX3⟩ | exact ⟨HX4.out.c0, HX4.out.c1, HX4.out.c2, HX4⟩ | exact ⟨HX5.out.c0, HX5.out.c1, HX5.out.c2, HX5⟩ | go_keep)
    (first
      | (go_at_call 206; refine (mapAt_any p q _ _ ds ms _ ?_ HCX.out).mono ?_; (exact (HX0.out.next (Below.refl _ _).drew).cx); rintro e w3 ⟨v3, rfl, hl3, hb3⟩; have HX3 := Lib.hid ((HX0.out.next (Below.refl _ _).drew).next hb3); have HL3 := Lib.hid hl3; clear hl3 hb3)
      | (go_at_call 111; refine (vectorsOf_any v3 (tabN ms q) _ HL3.out (by have := HLEN.out; omega) HR40.out).mono ?_; rintro e w4 ⟨s4, M, rfl, hb4, ho4, rfl⟩; have HX4 := Lib.hid (HX3.out.next hb4); have HO4 := Lib.hid (ho4.vs.lower (Nat.zero_le _)); clear ho4 hb4)
      | (go_at_call 112; refine (reducedList_any p s4 _ _ HCX.out.1.prime HO4.out (vecs_md (by omega) HOK.out) HW40.out (by rw [List.length_map]; have := HLEN.out; omega)).mono ?_; rintro e w5 ⟨s5, R, rfl, hb5, ho5, hr5, hl5⟩; have HX5 := Lib.hid (HX4.out.next hb5); have HO5 := Lib.hid (And.intro ho5 HX4.out.below.size); have HR5 := Lib.hid hr5; clear ho5 hb5 hr5 hl5))
  go_wp2
  go_ret
  refine ⟨s5, R, rfl, HX5.out.below, ⟨HO5.out.1.1, HO5.out.1.2.imp id (fun ⟨g, cap, cur, h1, h2, h3⟩ => ⟨g, cap, cur, h1, Nat.le_trans HO5.out.2 h2, h3⟩)⟩, HR5.out.red, fun u hu => ?_, HR5.out.eqv⟩
  exact Lin.Sp.wd (vecs_wd HRL.out) ((HR5.out.eqv u).1 (Lin.Sp.mem hu (HR5.out.red.md u hu)))

set_option maxHeartbeats 1600000 in
set_option maxRecDepth 100000 in
theorem l01Bounds_any (p : Int) (q : Nat) (dv mv : Value) (ds : List Int) (ms : List (List (List Int))) (w : World) (h : Cx 0 w dv mv ds ms) (hcx : IsCx p ds ms) (hq : q < ds.length) :
    Calls Try.prog 177 #[.agg #[.int .i64 p, dv, mv], .int .i64 q] w (EchR p (dimN ds (q : Int)) ((tabN ms q).map ofL) w) := by
  have HX0 := Lib.hid (Bx.start (p := p) 31 h)
  obtain ⟨ad, cap, rfl⟩ := Sl.shape h.dims
  obtain ⟨am, capm, rfl⟩ := Sl.shape h.maps
  have HCX := Lib.hid hcx
  have hp1 := hcx.1.prime.lo1
  have hl6 := hcx.1.len1
  have hml := hcx.1.mlen
  have c0 := HX0.out.c0
  have c1 := HX0.out.c1
  have c2 := HX0.out.c2
  have HLEN := Lib.hid (tabN_len hcx q)
  have HOK := Lib.hid (tabN_ok hcx q)
  have HRL : Hid (∀ r ∈ tabN ms q, r.length = dimN ds (q : Int)) := Lib.hid (fun r hr => (cx_row hcx (tabN_ok hcx q r hr)).1)
  have HDIM : Hid (dimN ds (q : Int) ≤ 8) := Lib.hid (by unfold dimN; rw [Int.toNat_natCast]; have := hcx.1.dim q; omega)
  have HMAP : Hid (mapZ ds ms ((q : Int) + 1) = tabN ms q) := Lib.hid (by
    unfold mapZ tabN
    by_cases hr : 1 ≤ (q : Int) + 1 ∧ (q : Int) + 1 ≤ (ds.length : Int) - 1
    · rw [if_pos hr, show ((q : Int) + 1).toNat - 1 = q by omega]
    · rw [if_neg hr]
      have : dimZ ds ((q : Int) + 1) = 0 := by
        unfold dimZ
        rw [if_neg (by omega)]
      rw [this]
      simp [List.getD, show ms.length ≤ q by omega])
  have hw1 : IntKind.i64.wrap ((q : Int) + 1) = (q : Int) + 1 := IntWalk.i64_in _ (by omega)
  clear h hcx
  go_enter Try.func177, Try.ntmps177
  go_wp2
  go_region_held3 (fun w' => w'.cell? ⟨w.heap.size, 0, none⟩ = some (.int .i64 p) ∧ w'.cell? ⟨w.heap.size, 1, none⟩ = some (.slice ad ds.length cap) ∧ w'.cell? ⟨w.heap.size, 2, none⟩ = some (.slice am ms.length capm) ∧ Hid (Bx w w' w.heap.size p (.slice ad ds.length cap) (.slice am ms.length capm) ds ms))
    (first | exact ⟨HX0.out.c0, HX0.out.c1, HX0.out.c2, HX0⟩ | exact ⟨HX0.out.c0, HX0.out.c1, HX0.out.c2, Lib.hid (HX0.out.next (Below.refl _ _).drew)⟩ | exact ⟨HX3.out.c0, HX3.out.c1, HX3.out.c2, HX3⟩ | exact ⟨HX4.out.c0, HX4.out.c1, HX4.out.c2, HX4⟩ | go_keep)
    (first
      | (go_at_call 144; refine (l01Map_any p ((q : Int) + 1) _ _ ds ms _ ?_ HCX.out).mono ?_; (exact (HX0.out.next (Below.refl _ _).drew).cx); rw [HMAP.out]; rintro e w3 ⟨v3, rfl, hl3, hb3⟩; have HX3 := Lib.hid ((HX0.out.next (Below.refl _ _).drew).next hb3); have HL3 := Lib.hid hl3; clear hl3 hb3)
      | (go_at_call 153; refine (l01Echelon_any p (dimN ds (q : Int)) v3 ((tabN ms q).map ofL) _ HCX.out.1.prime (by rw [rows_toL' HRL.out]; exact HL3.out) (vecs_md (by omega) HOK.out) (vecs_wd HRL.out) (by have := HDIM.out; omega) (by rw [List.length_map]; have := HLEN.out; omega)).mono ?_; rintro e w4 ⟨u4, R, rfl, hg4, hb4, hr4, hl4⟩; have HX4 := Lib.hid (HX3.out.next hb4); have HG4 := Lib.hid (hg4.mono HX3.out.below.size); have HR4 := Lib.hid (And.intro hr4 hl4); clear hg4 hb4 hr4 hl4))
  go_wp2
  go_ret
  exact ⟨u4, R, rfl, HG4.out, HX4.out.below, HR4.out.1, HR4.out.2⟩

end Go.Proofs.Ytpdkfidmmjlmnab

namespace Go.Proofs.Ytpdkfidmmjlmnab
open Go.RowKit

/-- append of numbers to a row that the call owns. -/
theorem wpList_appendN {ops : Array Oper} {rest : List Oper} {o : Oper} {a : Act} {w : World} {Q : Exit → Act → World → Prop} (hgd : o.guard = none) (dst : Option Tmp) (hdst : o.dst = dst) (s x : Operand)
    (ho : o.op = .call { callee := .builtin .append, args := #[s, x], argTypes := #[22, 22] }) (base : Nat) (v u : Value) (xs ys : List Int) (hs : a.eval s = v) (hx : a.eval x = u) (hown : Gb base w v xs) (hy : L1 0 w u ys)
    (hl : xs.length + ys.length ≤ 2097152) (hb : base ≤ w.heap.size)
    (h : ∀ v' w', Gb base w' v' (xs ++ ys) → w.grownBy w' v.ownBlock → wpList Try.prog ops Q rest (a.put dst v') w') : wpList Try.prog ops Q (o :: rest) a w := by
  obtain ⟨i, hi, hz, hs1, hb1⟩ := info_parts Try.infoI
  subst hdst
  refine Sl.cases hy (fun ad cap hys hu => ?_) (fun b o' cap hu _ hpos hc => ?_)
  · subst hys hu
    refine Lib.wpList_append_run _ hgd s x _ _ ho _ _ hs hx _ _ (run_append_none' w _ _ _ i Try.underlying22 hi hown ad cap) ?_
    rw [List.append_nil] at h
    exact h v w hown ⟨rfl, rfl, rfl, Nat.le_refl _, fun _ _ _ => rfl⟩
  · subst hu
    refine wpList_append_own w hgd s x 22 ho base 2 i _ 1 8 Try.underlying22 hi hz hs1 hb1 rfl (by decide) v xs.length (xs.map (Value.int .i64)) hs hown ⟨b, o', none⟩ ys.length cap (ys.map (Value.int .i64)) hx (by simp) ?_ ?_ (by unfold maxLen; omega) (by omega) hb (fun v' w' h1 h2 _ => h v' w' ?_ h2)
    · intro j y hj
      have hj' : j < ys.length := by have := (List.getElem?_eq_some_iff.1 hj).1; simpa using this
      obtain ⟨u2, h2, h3⟩ := hc j hj'
      rw [Addr.add_lit, h2, h3]
      simp [hj'] at hj
      rw [hj]
    · intro y hy2
      obtain ⟨z, _, rfl⟩ := List.mem_map.1 hy2
      rfl
    · unfold Gb
      rw [List.length_append, List.map_append]
      exact h1
theorem Gs.lt {base : Nat} {w : World} {v : Value} {tb : List (List Int)} (h : Gs base w v tb) : ∀ k, v.ownBlock = some k → base ≤ k ∧ k < w.heap.size := by
  obtain ⟨vs, ho, _⟩ := h
  exact World.ownsRow.lt ho
theorem Gs.row {base : Nat} {w : World} {u : Value} {tb : List (List Int)} (h : Gs base w u tb) {k : Nat} (hk : k < tb.length) (hpos : 0 < (tb[k]).length) :
    ∃ b c, u = .slice (some ⟨b, 0, none⟩) tb.length c ∧ ∃ g cap, w.cell? ⟨b, k, none⟩ = some (.slice (some ⟨g, 0, none⟩) (tb[k]).length cap) ∧ (tb[k]).length ≤ cap ∧ G1 w (.slice (some ⟨g, 0, none⟩) (tb[k]).length cap) tb[k] := by
  obtain ⟨vs, ho, hr⟩ := h
  obtain ⟨b, c, rfl, _, _⟩ := World.ownsRow.form ho (by omega)
  have hvl : vs.length = tb.length := by have := ho.1; omega
  have hg := hr k (by omega) hk
  obtain ⟨g, cap, hv, _, _⟩ := World.ownsRow.form hg hpos
  refine ⟨b, c, rfl, g, cap, ?_, ?_, by rw [← hv]; exact hg⟩
  · rw [World.ownsRow.cellAt ho k (by omega), List.getElem?_eq_getElem (by omega), hv]
  · rw [hv] at hg
    rcases hg.2 with ⟨h0, _⟩ | ⟨g', cap', cur, h0, _, _, hnc, _⟩
    · cases h0
    · injection h0 with _ _ e3
      omega
/-- append of one row to a table that the call gathers. -/
theorem wpList_appendG {ops : Array Oper} {rest : List Oper} {o : Oper} {a : Act} {w : World} {Q : Exit → Act → World → Prop} (hgd : o.guard = none) (dst : Option Tmp) (hdst : o.dst = dst) (s x : Operand)
    (ho : o.op = .call { callee := .builtin .append, args := #[s, x], argTypes := #[26, 26] }) (base : Nat) (v : Value) (tb : List (List Int)) (hs : a.eval s = v) (hown : Gs base w v tb)
    (b : Nat) (hx : a.eval x = .slice (some ⟨b, 0, none⟩) 1 1) (ar : Option Addr) (nr cr : Nat) (hc : w.cell? ⟨b, 0, none⟩ = some (.slice ar nr cr)) (y : List Int) (hy : G1 w (.slice ar nr cr) y) (hl : tb.length ≤ 2097151) (hb : base ≤ w.heap.size)
    (h : ∀ v' w', Gs base w' v' (tb ++ [y]) → w.grownBy w' v.ownBlock → wpList Try.prog ops Q rest (a.put dst v') w') : wpList Try.prog ops Q (o :: rest) a w := by
  obtain ⟨i, hi, hz, hs1, hb1⟩ := info_parts Try.infoS
  obtain ⟨vs, hvo, hvr⟩ := hown
  subst hdst
  refine wpList_append_own w hgd s x 26 ho base 22 i _ 1 24 Try.underlying26 hi hz hs1 hb1 rfl (by decide) v tb.length vs hs hvo ⟨b, 0, none⟩ 1 1 [.slice ar nr cr] hx rfl ?_ ?_ (by unfold maxLen; omega) (by omega) hb (fun v' w' h1 h2 _ => h v' w' (Gs.push hvo hvr hy h1 h2) h2)
  · intro j u hj
    match j, hj with
    | 0, hj =>
      simp at hj
      subst hj
      exact hc
  · intro u hu
    simp at hu
    subst hu
    rfl

/-- The vectors of n numbers that all columns of a table annihilate. -/
def CycS (p : Int) (n m : Nat) (t : List (List Int)) (v : Lin.V) : Prop := Lin.Md p v ∧ Lin.Wd n v ∧ ∀ j, j < m → Lin.dot n (Lin.col (fun i => ofL (t.getD i [])) j) v % p = 0
def unitV (k : Nat) : Lin.V := fun i => if i = k then 1 else 0
theorem long_toL {m n k : Nat} (r : Lin.V) : toL m r ++ toL n (unitV k) = toL (m + n) (Lin.long m r k) := by
  refine List.ext_getElem (by simp [toL_length]) fun i h1 h2 => ?_
  rw [toL_get]
  by_cases h : i < m
  · rw [List.getElem_append_left (by rw [toL_length]; exact h), toL_get]
    simp [Lin.long, h]
  · rw [List.getElem_append_right (by rw [toL_length]; omega), toL_get]
    simp only [toL_length, unitV, Lin.long, if_neg h]
    by_cases e : i = m + k
    · rw [if_pos e, if_pos (by omega)]
    · rw [if_neg e, if_neg (by omega)]
/-- The first k long rows. -/
def longs (m : Nat) (t : List (List Int)) (k : Nat) : List Lin.V := (List.range k).map fun i => Lin.long m (ofL (t.getD i [])) i
theorem longs_succ (m : Nat) (t : List (List Int)) (k : Nat) : longs m t (k + 1) = longs m t k ++ [Lin.long m (ofL (t.getD k [])) k] := by simp [longs, List.range_succ]
theorem longs_length (m : Nat) (t : List (List Int)) (k : Nat) : (longs m t k).length = k := by simp [longs]
theorem longs_mem (m n : Nat) (t : List (List Int)) : Lin.Longs m n (fun i => ofL (t.getD i [])) (longs m t n) := ⟨fun y => by
  simp only [longs, List.mem_map, List.mem_range]
  exact ⟨fun ⟨i, hi, e⟩ => ⟨i, hi, e.symm⟩, fun ⟨i, hi, e⟩ => ⟨i, hi, e.symm⟩⟩⟩
theorem longs_wd {m n : Nat} {t : List (List Int)} : ∀ y ∈ longs m t n, Lin.Wd (m + n) y := fun y hy => by
  obtain ⟨i, hi, rfl⟩ := ((longs_mem m n t).mem y).1 hy
  intro j hj
  simp [Lin.long, show ¬ j < m by omega, show ¬ j = m + i by omega]
/-- The rows whose leads stand behind m, cut. -/
noncomputable def cuts (m : Nat) (E : List Lin.V) : List Lin.V := (E.filter fun y => decide (m ≤ Lin.ld y)).map (Lin.tail m)
theorem cuts_cut {p : Int} {m : Nat} {E : List Lin.V} (hE : Lin.Red p E) : Lin.Cut p m E (cuts m E) := by
  refine ⟨fun x => ?_, ?_⟩
  · simp only [cuts, List.mem_map, List.mem_filter, decide_eq_true_eq]
    exact ⟨fun ⟨y, ⟨h1, h2⟩, e⟩ => ⟨y, h1, h2, e.symm⟩, fun ⟨y, h1, h2, e⟩ => ⟨y, ⟨h1, h2⟩, e.symm⟩⟩
  · unfold cuts
    rw [List.pairwise_map]
    refine List.Pairwise.imp_of_mem (fun {a b} ha hb h => ?_) (hE.inc.filter _)
    obtain ⟨ha1, ha2⟩ := List.mem_filter.1 ha
    obtain ⟨hb1, hb2⟩ := List.mem_filter.1 hb
    have ha3 : m ≤ Lin.ld a := by simpa using ha2
    have hb3 : m ≤ Lin.ld b := by simpa using hb2
    rw [(Lin.cut_ld hE ha1 ha3).2.1, (Lin.cut_ld hE hb1 hb3).2.1]
    omega
theorem cuts_keep {m : Nat} {E : List Lin.V} {k : Nat} (hk : k < E.length) (h : m ≤ Lin.ld E[k]) : cuts m (E.take (k + 1)) = cuts m (E.take k) ++ [Lin.tail m E[k]] := by
  unfold cuts
  rw [List.take_succ_eq_append_getElem hk, List.filter_append, List.map_append, List.filter_cons_of_pos (by simpa using h)]
  rfl
theorem cuts_skip {m : Nat} {E : List Lin.V} {k : Nat} (hk : k < E.length) (h : ¬ m ≤ Lin.ld E[k]) : cuts m (E.take (k + 1)) = cuts m (E.take k) := by
  unfold cuts
  rw [List.take_succ_eq_append_getElem hk, List.filter_append, List.map_append, List.filter_cons_of_neg (by simpa using h)]
  simp
theorem cuts_length (m : Nat) (E : List Lin.V) : (cuts m E).length ≤ E.length := by
  unfold cuts
  rw [List.length_map]
  exact List.length_filter_le _ _
/-- What the model's kernel answers. -/
theorem kernel_spf {p : Int} (hp : 1 < p) {m n : Nat} {t : List (List Int)} {E : List Lin.V} (h : RedN p (m + n) E (longs m t n)) : SpF p n (CycS p n m t) (cuts m E) := by
  have hc := cuts_cut (m := m) h.red
  refine ⟨hc.red h.red, fun u hu => ?_, fun x => hc.ker hp h.red (longs_mem m n t) h.eqv x⟩
  obtain ⟨y, hy, _, rfl⟩ := (hc.mem u).1 hu
  intro i hi
  exact h.wd y hy _ (by omega)

theorem unit_row (w : World) {n k : Nat} (hk : k < n) : (w.alloc (.cells ((madeCells #[.int .i64 0] n).setIfInBounds k (.int .i64 1)) 2)).rowIs w.heap.size 2 n (fun i => .int .i64 (unitV k i)) := by
  refine ⟨_, heap_alloc_new w _, by simp [size_madeCells], fun i hi => ?_⟩
  rw [Array.getElem?_setIfInBounds]
  unfold unitV
  by_cases e : k = i
  · subst e
    simp [size_madeCells, hk]
  · have e2 : ¬ i = k := fun h => e h.symm
    simp [e, e2, madeCells, hi, Nat.mod_one]
def KerR (p : Int) (n m : Nat) (t : List (List Int)) (w : World) (e : Ending) (w' : World) : Prop :=
  ∃ (u : Value) (R : List Lin.V), e = .returned u ∧ Gs w.heap.size w' u (R.map (toL n)) ∧ Below w.heap.size w w' ∧ SpF p n (CycS p n m t) R

set_option maxHeartbeats 12800000 in
set_option maxRecDepth 100000 in
theorem l01Kernel_any (p : Int) (n m : Nat) (vt : Value) (t : List (List Int)) (w : World) (hp : IsP p) (ht : L2 0 w vt t) (htn : t.length = n) (hrow : ∀ r ∈ t, RowOk p (m : Int) r) (hn : n ≤ 1000) (hm : m ≤ 1000) :
    Calls Try.prog 155 #[.int .i64 p, .int .i64 n, vt] w (KerR p n m t w) := by
  have HP := Lib.hid hp
  have hp1 := hp.lo1
  have HT := Lib.hid ht
  have HROW := Lib.hid hrow
  have HTN := Lib.hid htn
  have hmk := run_make_row' (P := Try.prog) 22 2 (.int .i64 0) 8 Try.underlying22 Try.infoI rfl .i64 .i64 n (by omega) (by omega)
  have HMK := Lib.hid hmk
  obtain ⟨at', ct, hvt⟩ := Sl.shape ht
  rw [htn] at hvt
  subst hvt
  have HOWN0 := Lib.hid (World.ownsRow_made (base := w.heap.size) (e := 22) (size := 1) w #[] 0 (Nat.le_refl _) (by unfold maxLen; omega) (by simp))
  clear hp ht hrow htn hmk
  go_enter Try.func155, Try.ntmps155
  go_wp2
  go_loopw [7, 8, 9] (fun lv wv i wr => ∃ (k : Nat), k ≤ n ∧ i = .int .i64 k ∧ wv = .int .i64 (if k = 0 then 0 else (m : Int)) ∧ Hid (Below w.heap.size w wr) ∧ Hid (Gs w.heap.size wr lv ((longs m t k).map (toL (m + n))))) (fun _ _ i _ => n - (intOf i).toNat)
  case atStart => exact ⟨0, Nat.zero_le _, rfl, rfl, Lib.hid ((Below.refl _ _).alloc (Nat.le_refl _) _), Lib.hid ⟨[], by simpa [longs] using HOWN0.out, fun k h1 _ => absurd h1 (Nat.not_lt_zero _)⟩⟩
  case round =>
    clear HOWN0
    obtain ⟨k, hk, rfl, rfl, HB, HG⟩ := hrel
    obtain ⟨wx, hwx⟩ : ∃ wx : World, wx = wr := ⟨_, rfl⟩
    subst hwx
    have hsz : w.heap.size ≤ wx.heap.size := HB.out.size
    obtain ⟨al, cl, hlv⟩ := Sl.shape HG.out.l2
    rw [List.length_map, longs_length] at hlv
    subst hlv
    by_cases hlt : k < n
    · have hkt : k < t.length := by rw [HTN.out]; exact hlt
      refine Sl.cases HT.out (fun _ _ hx _ => absurd hkt (by simp [hx])) (fun b o c2 hvv _ _ hc => ?_)
      rw [HTN.out] at hvv
      obtain ⟨rfl, rfl⟩ : at' = some ⟨b, o, none⟩ ∧ ct = c2 := by simpa using hvv
      obtain ⟨ur, hur, hrr⟩ := hc k hkt
      obtain ⟨r, hr⟩ : ∃ r, r = t[k] := ⟨_, rfl⟩
      have HRE : Hid (t.getD k [] = r) := Lib.hid (by rw [getD_of_lt _ hkt, hr])
      have hrm : r.length = m := by have := (HROW.out _ (List.getElem_mem hkt)).1; rw [← hr] at this; omega
      rw [← hr] at hrr
      obtain ⟨ar, cr, hus⟩ := Sl.shape hrr
      rw [hrm] at hus
      subst hus
      have HRR := Lib.hid hrr
      have HUR : Hid (∀ W, Below w.heap.size w W → W.cell? ⟨b, o + k, none⟩ = some (.slice ar m cr)) := Lib.hid (fun W h => later h (Nat.le_refl _) hur)
      have HRM := Lib.hid hrm
      have hq1 : (k : Int) < (n : Int) := by omega
      have hq2 : (0 : Int) ≤ (k : Int) := by omega
      clear hvv hc hur hrr hr hrm
      have hmk := HMK.out
      have hrow0 := World.rowIs_made wx (.int .i64 0) n 2
      have hc0 := hrow0.cell hlt
      have hf0 := hrow0.frozen k
      have HR1 := Lib.hid (unit_row wx hlt)
      have HB1 : Hid (Below wx.heap.size wx (wx.alloc (.cells ((madeCells #[.int .i64 0] n).setIfInBounds k (.int .i64 1)) 2))) := Lib.hid ((Below.refl _ _).alloc (Nat.le_refl _) _)
      clear hrow0
      go_upto_region 8 with fail
      refine forget_wp (fun W => Hid (W.rowIs wx.heap.size 2 n (fun i => .int .i64 (unitV k i)) ∧ Below wx.heap.size wx W)) (Lib.hid ⟨HR1.out, HB1.out⟩) ?_
      intro W3 HS3
      clear hmk hc0 hf0 HR1 HB1
      have HB3 := Lib.hid (HB.out.trans (HS3.out.2.mono hsz))
      have hcell := HUR.out _ HB3.out
      have HG3 := Lib.hid (HG.out.below HS3.out.2)
      have HUN : Hid (L1 0 W3 (.slice (some ⟨wx.heap.size, 0, none⟩) n n) (toL n (unitV k))) := Lib.hid (Or.inr ⟨wx.heap.size, 0, n, by rw [toL_length], Nat.zero_le _, by rw [toL_length]; omega, fun i hi => ⟨_, by rw [Nat.zero_add]; exact HS3.out.1.cell (by rw [toL_length] at hi; exact hi), by rw [toL_get]; rfl⟩⟩)
      go_wp2_with fail
      refine (l01Own_any _ r W3 (HRR.out.below HB3.out) (by rw [HRM.out]; omega)).mono ?_
      rintro e W4 ⟨u4, rfl, hg4, hb4⟩
      have HG4 := Lib.hid hg4
      have HB4 := Lib.hid (HB3.out.trans (hb4.mono HB3.out.size))
      have HUN4 := Lib.hid (HUN.out.below hb4)
      have HGL4 := Lib.hid (HG3.out.below hb4)
      have hs34 : W3.heap.size ≤ W4.heap.size := hb4.size
      have HB34 := Lib.hid hb4
      clear hb4 hg4 hcell HUN HGL4
      go_wp2_with (at_builtin; refine wpList_appendN rfl (some 37) rfl (.tmp 35) (.tmp 36) rfl W3.heap.size _ _ r (toL n (unitV k)) rfl rfl HG4.out HUN4.out ?c1 ?c2 ?_)
      case c1 => rw [toL_length, HRM.out]; omega
      case c2 => exact hs34
      intro v5 W5 hg5 hgr5
      have HB45 : Hid (Below W3.heap.size W3 W5) := Lib.hid (HB34.out.grown hgr5 hs34 (fun g hg => ((World.ownsRow.lt HG4.out) g hg).1))
      have HROWL : Hid (r ++ toL n (unitV k) = toL (m + n) (Lin.long m (ofL (t.getD k [])) k)) := Lib.hid (by
        rw [← long_toL, HRE.out, toL_ofL HRM.out])
      have HG5 : Hid (G1 W5 v5 (toL (m + n) (Lin.long m (ofL (t.getD k [])) k))) := Lib.hid (by rw [← HROWL.out]; exact hg5.g1)
      have HGL5 := Lib.hid (HG3.out.below HB45.out)
      obtain ⟨a5, c5, hv5⟩ := l1_slice HG5.out.l1
      subst hv5
      have hs35 : w.heap.size ≤ W5.heap.size := by have := HB3.out.size; have := HB45.out.size; omega
      have hba : Below W5.heap.size W5 (W5.alloc (.cells #[.slice a5 (m + n) c5] 22)) := below_alloc1 _ _
      have HGL6 := Lib.hid (HGL5.out.below hba)
      have HG6 := Lib.hid (HG5.out.below hba)
      have hcell6 := cell_alloc1 W5 (.slice a5 (m + n) c5) 22
      have HB6 := Lib.hid ((HB3.out.trans (HB45.out.mono HB3.out.size)).trans (hba.mono hs35))
      clear hg5 hgr5 hba HG4 HUN4 HB34 HB4 HG3 HB45
      go_wp2_with (at_builtin; refine wpList_appendG rfl (some 39) rfl (.tmp 30) (.tmp 38) rfl w.heap.size _ ((longs m t k).map (toL (m + n))) rfl HGL6.out W5.heap.size rfl a5 (m + n) c5 hcell6 _ HG6.out ?c1 ?c2 ?_)
      case c1 => rw [List.length_map, longs_length]; omega
      case c2 => simp; omega
      intro v7 W7 hg7 hgr7
      have HG7 : Hid (Gs w.heap.size W7 v7 ((longs m t (k + 1)).map (toL (m + n)))) := Lib.hid (by
        rw [longs_succ, List.map_append]
        exact hg7)
      have HB7 : Hid (Below w.heap.size w W7) := Lib.hid (HB6.out.grown hgr7 (by simp; omega) (fun g hg => (HGL6.out.lt g hg).1))
      have hk1 : (if k + 1 = 0 then 0 else (m : Int)) = (m : Int) := by simp
      clear hg7 hgr7 hcell6
      go_wp2
      go_roundw
      case rel => exact ⟨k + 1, by omega, by go_num, by rw [hk1], HB7, HG7⟩
      case measure => simp [intOf]; omega
    · have hkn : Hid (k = n) := Lib.hid (by omega)
      have HGN : Hid (Gs w.heap.size wx (.slice al k cl) ((longs m t n).map (toL (m + n)))) := Lib.hid (by have := HG.out; rwa [hkn.out] at this ⊢)
      have HLM : Hid (∀ y ∈ longs m t n, Lin.Md p y) := Lib.hid ((longs_mem m n t).md hp1 (fun i hi => by
        have hit : i < t.length := by rw [HTN.out]; exact hi
        rw [getD_of_lt _ hit]
        exact ofL_md (by omega) (HROW.out _ (List.getElem_mem hit))))
      have HECH := Lib.hid (l01Echelon_any p (m + n) (.slice al k cl) (longs m t n) wx HP.out HGN.out.l2 HLM.out longs_wd (by omega) (by rw [longs_length]; omega))
      obtain ⟨wv, hwv⟩ : ∃ wv : Int, wv = (if k = 0 then 0 else (m : Int)) := ⟨_, rfl⟩
      have HWV : Hid (0 < n → wv = (m : Int)) := Lib.hid (fun h => by rw [hwv, if_neg (by have := hkn.out; omega)])
      have HEN : Hid (n = 0 → longs m t n = []) := Lib.hid (fun h => by rw [h]; rfl)
      rw [← hwv]
      clear hwv HG HGN
      go_wp2_with fail
      refine HECH.out.mono ?_
      rintro e w2 ⟨u2, E, rfl, hg2, hb2, hr2, hl2⟩
      have HE := Lib.hid hr2
      have HGE := Lib.hid hg2
      have HB2 := Lib.hid (HB.out.trans (hb2.mono hsz))
      have hs2 : w.heap.size ≤ w2.heap.size := HB2.out.size
      have hEl : E.length ≤ n := by rw [longs_length] at hl2; exact hl2
      have HOWN2 := Lib.hid (World.ownsRow_made (base := w.heap.size) (e := 22) (size := 1) w2 #[] 0 hs2 (by unfold maxLen; omega) (by simp))
      obtain ⟨ae, ce, hev⟩ := Sl.shape HGE.out.l2
      rw [List.length_map] at hev
      subst hev
      clear hg2 hb2 hr2 hl2 HECH HB
      go_wp2
      go_loopw [12, 13] (fun ov i wr => ∃ (q : Nat), q ≤ E.length ∧ i = .int .i64 q ∧ Hid (Below w2.heap.size w2 wr) ∧ Hid (Gs w2.heap.size wr ov ((cuts m (E.take q)).map (toL n)))) (fun _ i _ => E.length - (intOf i).toNat)
      case atStart => exact ⟨0, Nat.zero_le _, rfl, Lib.hid ((Below.refl _ _).alloc (Nat.le_refl _) _), Lib.hid ⟨[], by simpa [cuts] using World.ownsRow_made (base := w2.heap.size) (e := 22) (size := 1) w2 #[] 0 (Nat.le_refl _) (by unfold maxLen; omega) (by simp), fun k h1 _ => absurd h1 (Nat.not_lt_zero _)⟩⟩
      case round =>
        clear HOWN2
        obtain ⟨q, hq, rfl, HBX, HGO⟩ := hrel
        obtain ⟨wy, hwy⟩ : ∃ wy : World, wy = wr := ⟨_, rfl⟩
        subst hwy
        have hsy : w2.heap.size ≤ wy.heap.size := HBX.out.size
        have hcl : (cuts m (E.take q)).length ≤ q := by have := cuts_length m (E.take q); rw [List.length_take] at this; omega
        obtain ⟨ao, co, hov⟩ := Sl.shape HGO.out.l2
        rw [List.length_map] at hov
        subst hov
        by_cases hltq : q < E.length
        · have hn0 : 0 < n := by omega
          obtain rfl : wv = (m : Int) := HWV.out hn0
          obtain ⟨y, hy⟩ : ∃ y, y = E[q] := ⟨_, rfl⟩
          have HYE := Lib.hid hy
          have HYW : Hid (Lin.Wd (m + n) y) := Lib.hid (by rw [hy]; exact HE.out.wd _ (List.getElem_mem hltq))
          have HYN : Hid (y ≠ Lin.zv) := Lib.hid (by rw [hy]; exact HE.out.red.ne (List.getElem_mem hltq))
          obtain ⟨b, c2, hvv, by', cy, huy, hcap, hry⟩ := HGE.out.row (k := q) (by rw [List.length_map]; exact hltq) (by rw [List.getElem_map, toL_length]; omega)
          rw [List.getElem_map, toL_length] at huy hcap hry
          rw [← hy] at hry
          rw [List.length_map] at hvv
          obtain ⟨rfl, rfl⟩ : ae = some ⟨b, 0, none⟩ ∧ ce = c2 := by simpa using hvv
          have hry := hry.l1
          obtain ⟨b3, oy, cy3, huv, hcy⟩ := l1_toL hry (show 0 < m + n by omega)
          obtain ⟨rfl, rfl, rfl⟩ : by' = b3 ∧ oy = 0 ∧ cy = cy3 := by
            injection huv with e1 _ e3
            injection e1 with e1
            injection e1 with e1 e2
            exact ⟨e1, e2.symm, e3⟩
          have HRY := Lib.hid hry
          have hne1 : ¬ cy = m := by omega
          have hne2 : ¬ m = cy := by omega
          have huy2 := later HBX.out (Nat.le_refl _) huy
          have hlead := l01Lead_any _ _ wy (hry.below HBX.out) (by rw [toL_length]; omega)
          rw [leadOf_toL HYW.out HYN.out] at hlead
          have HLEAD := Lib.hid hlead
          have hldlt := (ld_ltn HYW.out HYN.out).1
          have HTAIL : Hid (L1 0 w2 (.slice (some ⟨by', m, none⟩) n (cy - m)) (toL n (Lin.tail m y))) := Lib.hid (Or.inr ⟨by', m, cy - m, by rw [toL_length], Nat.zero_le _, by rw [toL_length]; omega, fun i hi => by
            rw [toL_length] at hi
            refine ⟨_, by have := hcy (m + i) (by omega); rwa [Nat.zero_add] at this, ?_⟩
            rw [toL_get]
            rfl⟩)
          clear hvv huy hry hy hlead hcy huv
          by_cases hge : m ≤ Lin.ld y
          · have hge2 : (m : Int) ≤ (Lin.ld y : Int) := by omega
            have hmn : m + n - m = n := by omega
            have hm0 : (0 : Int) ≤ (m : Int) := by omega
            have HCUT : Hid (cuts m (E.take (q + 1)) = cuts m (E.take q) ++ [Lin.tail m y]) := Lib.hid (by rw [cuts_keep hltq (by rw [← HYE.out]; exact hge), ← HYE.out])
            go_wp2_with fail
            refine HLEAD.out.mono ?_
            rintro e w' ⟨rfl, rfl⟩
            go_wp2_with fail
            refine (l01Own_any _ (toL n (Lin.tail m y)) wy (HTAIL.out.below HBX.out) (by rw [toL_length]; omega)).mono ?_
            rintro e W4 ⟨u4, rfl, hg4, hb4⟩
            obtain ⟨a4, c4, hv4⟩ := l1_slice hg4.l1
            subst hv4
            have hba : Below W4.heap.size W4 (W4.alloc (.cells #[.slice a4 n c4] 22)) := below_alloc1 _ _
            have hs4 : wy.heap.size ≤ W4.heap.size := hb4.size
            have HG4 := Lib.hid (hg4.g1.below hba)
            have HGO4 := Lib.hid ((HGO.out.below hb4).below hba)
            have hcell4 := cell_alloc1 W4 (.slice a4 n c4) 22
            have HB4 := Lib.hid ((HBX.out.trans (hb4.mono hsy)).trans (hba.mono (show w2.heap.size ≤ W4.heap.size by omega)))
            clear hg4 hb4 hba huy2
            go_wp2_with (at_builtin; refine wpList_appendG rfl (some 66) rfl (.tmp 57) (.tmp 65) rfl w2.heap.size _ ((cuts m (E.take q)).map (toL n)) rfl HGO4.out W4.heap.size rfl a4 n c4 hcell4 _ HG4.out ?c1 ?c2 ?_)
            case c1 => rw [List.length_map]; omega
            case c2 => simp; omega
            intro v7 W7 hg7 hgr7
            have HG7 : Hid (Gs w2.heap.size W7 v7 ((cuts m (E.take (q + 1))).map (toL n))) := Lib.hid (by
              rw [HCUT.out, List.map_append]
              exact hg7)
            have HB7 : Hid (Below w2.heap.size w2 W7) := Lib.hid (HB4.out.grown hgr7 (by simp; omega) (fun g hg => (HGO4.out.lt g hg).1))
            clear hg7 hgr7 hcell4
            go_wp2
            go_roundw
            case rel => exact ⟨q + 1, by omega, by go_num, HB7, HG7⟩
            case measure => simp [intOf]; omega
          · have hge2 : ¬ ((m : Int) ≤ (Lin.ld y : Int)) := by omega
            have HCUT : Hid (cuts m (E.take (q + 1)) = cuts m (E.take q)) := Lib.hid (by rw [cuts_skip hltq (by rw [← HYE.out]; exact hge)])
            go_wp2_with fail
            refine HLEAD.out.mono ?_
            rintro e w' ⟨rfl, rfl⟩
            clear huy2
            go_wp2
            go_roundw
            case rel => exact ⟨q + 1, by omega, by go_num, HBX, Lib.hid (by have := HGO.out; rw [HCUT.out]; exact this)⟩
            case measure => simp [intOf]; omega
        · have hqq : Hid (E.take q = E) := Lib.hid (List.take_of_length_le (by omega))
          have HSP := Lib.hid (kernel_spf hp1 HE.out)
          go_wp2
          go_ret
          exact ⟨_, cuts m (E.take q), rfl, HGO.out.mono hs2, HB2.out.trans (HBX.out.mono hs2), by rw [hqq.out]; exact HSP.out⟩
end Go.Proofs.Ytpdkfidmmjlmnab

namespace Go.Proofs.Ytpdkfidmmjlmnab
open Go.RowKit

def bl : List Value := List.replicate 40 (.bool false)
theorem bl_length : bl.length = 40 := by simp [bl]
set_option maxRecDepth 100000 in
theorem allocB_run (ρ : Operand → Value) (o : Oper) (w : World) : (execOp ρ { o with op := .alloc 191 }).run Try.prog w = .ok (.value (.pointer (some ⟨w.heap.size, 0, none⟩))) (w.alloc (.cells bl.toArray 191)) := by kernel_rfl
theorem rowIs_bl (w : World) : (w.alloc (.cells bl.toArray 191)).rowIs w.heap.size 191 40 (fun _ => .bool false) := by
  have h := World.rowIs_alloc w bl.toArray 191 (fun _ => .bool false) (fun i hi => by
    have hi' : i < 40 := by simpa [bl] using hi
    rw [List.getElem?_toArray, bl, List.getElem?_replicate, if_pos hi'])
  simpa [bl] using h
theorem wpList_allocB {ops : Array Oper} {rest : List Oper} {o : Oper} {a : Act} {w : World} {Q : Exit → Act → World → Prop} (hg : o.guard = none) (dst : Option Tmp) (hdst : o.dst = dst) (ho : o.op = .alloc 191)
    (h : ∀ W, Below w.heap.size w W → W.heap.size = w.heap.size + 1 → W.rowIs w.heap.size 191 40 (fun _ => .bool false) → wpList Try.prog ops Q rest (a.put dst (.pointer (some ⟨w.heap.size, 0, none⟩))) W) : wpList Try.prog ops Q (o :: rest) a w := by
  refine Great.wpList_runTo hg dst hdst (.pointer (some ⟨w.heap.size, 0, none⟩)) (w.alloc (.cells bl.toArray 191)) ?_ (h _ (below_alloc1 _ _) (by simp) (rowIs_bl w))
  have := allocB_run a.eval o w
  rw [← ho] at this
  exact this
theorem hindexB (b : Nat) {k : Nat} (hk : k < 40) (w : World) : (Instr.indexAt 191 (.pointer (some ⟨b, 0, none⟩)) (.int .i64 k)).run Try.prog w = .ok (.pointer (some ⟨b, k, none⟩)) w := by
  have h2 : (0 : Int) ≤ (k : Int) := by omega
  have h3 : (k : Int) < 40 := by omega
  have h4 : ¬ (40 : Int) ≤ (k : Int) := by omega
  go_simp
theorem hremI {a b : Int} (h0 : 0 ≤ a) (h1 : 0 < b) (h2 : b ≤ 1000) (w : World) : (binOp .rem 2 (.int .i64 a) (.int .i64 b)).run Try.prog w = .ok (.int .i64 (a % b)) w := by
  have hb : ¬ b = 0 := by omega
  have hb1 : ¬ b = -1 := by omega
  go_simp
  rw [Int.tmod_eq_emod_of_nonneg h0]
theorem hstoreI (w : World) {b o : Nat} {u : Value} (x : Int) (hc : w.cell? ⟨b, o, none⟩ = some u) (hf : w.frozen? ⟨b, o, none⟩ = false) : (Instr.storeAt 2 (.pointer (some ⟨b, o, none⟩)) (.int .i64 x)).run Try.prog w = .ok () (w.setCell ⟨b, o, none⟩ (.int .i64 x)) := by go_simp
section
variable {md : Region.Mode} {ops : Array Oper} {Q : Exit → Act → World → Prop} {S : World → Prop}
/-- A store of one number. -/
theorem held_storeI {i : Nat} {oi : Oper} {fuel : Nat} {listed : Array Bool} {a : Act} {w : World} (hr : Region.ready md ops listed = [i]) (hi : ops[i]? = some oi) (hg : oi.guard = none) (hd : oi.dst = none)
    (x y : Operand) (ho : oi.op = .store 2 x y) (b o : Nat) (z : Int) (u : Value) (hx : a.eval x = .pointer (some ⟨b, o, none⟩)) (hy : a.eval y = .int .i64 z) (hc : w.cell? ⟨b, o, none⟩ = some u) (hf : w.frozen? ⟨b, o, none⟩ = false)
    (h : S (w.setCell ⟨b, o, none⟩ (.int .i64 z)) ∧ wpAnyH Try.prog md ops Q S fuel (listed.setIfInBounds i true) a (w.setCell ⟨b, o, none⟩ (.int .i64 z))) : wpAnyH Try.prog md ops Q S (fuel + 1) listed a w :=
  held_call hr hi hg (by
    have e : a.put oi.dst undef = a := by rw [hd]; rfl
    rw [← e] at h
    unfold Oper.wp execOp
    simp only [ho, hx, hy, Sem.run_bind, Sem.run_pure, hstoreI w z hc hf, Result.andThen_ok]
    exact h)
end

open Classical in
/-- Whether a place is a lead of the first k rows. -/
noncomputable def isLd (R : List Lin.V) (k i : Nat) : Bool := decide (∃ w ∈ R.take k, Lin.ld w = i)
theorem isLd_true {R : List Lin.V} {i : Nat} (h : isLd R R.length i = true) : ¬ Lin.Free R i := fun hf => by
  obtain ⟨w, hw, e⟩ := of_decide_eq_true h
  rw [List.take_of_length_le (Nat.le_refl _)] at hw
  exact hf w hw e
theorem isLd_false {R : List Lin.V} {i : Nat} (h : isLd R R.length i = false) : Lin.Free R i := fun w hw e => by
  have := of_decide_eq_false h
  exact this ⟨w, by rw [List.take_of_length_le (Nat.le_refl _)]; exact hw, e⟩
theorem isLd_succ {R : List Lin.V} {k : Nat} (hk : k < R.length) (i : Nat) : isLd R (k + 1) i = if i = Lin.ld R[k] then true else isLd R k i := by
  unfold isLd
  rw [List.take_succ_eq_append_getElem hk]
  by_cases e : i = Lin.ld R[k]
  · rw [if_pos e]
    exact decide_eq_true ⟨R[k], List.mem_append_right _ (List.mem_singleton.2 rfl), e.symm⟩
  · rw [if_neg e]
    refine decide_eq_decide.2 ⟨fun ⟨w, hw, h⟩ => ?_, fun ⟨w, hw, h⟩ => ⟨w, List.mem_append_left _ hw, h⟩⟩
    rcases List.mem_append.1 hw with h1 | h1
    · exact ⟨w, h1, h⟩
    · rw [List.mem_singleton.1 h1] at h
      exact absurd h.symm e

/-- The solutions gathered from the places before f. -/
structure Sols (p : Int) (R : List Lin.V) (f : Nat) (L : List Lin.V) : Prop where
  all : ∀ g, g < f → Lin.Free R g → ∃ s ∈ L, Lin.Sol p R g s
  only : ∀ s ∈ L, ∃ g, g < f ∧ Lin.Free R g ∧ Lin.Sol p R g s
  len : L.length ≤ f
theorem Sols.nil (p : Int) (R : List Lin.V) : Sols p R 0 [] := ⟨fun g h => absurd h (Nat.not_lt_zero _), by simp, by simp⟩
theorem Sols.skip {p : Int} {R : List Lin.V} {f : Nat} {L : List Lin.V} (h : Sols p R f L) (hf : ¬ Lin.Free R f) : Sols p R (f + 1) L :=
  ⟨fun g hg hfr => by
    by_cases e : g = f
    · subst e; exact absurd hfr hf
    · exact h.all g (by omega) hfr, fun s hs => by obtain ⟨g, h1, h2⟩ := h.only s hs; exact ⟨g, by omega, h2⟩, by have := h.len; omega⟩
theorem Sols.add {p : Int} {R : List Lin.V} {f : Nat} {L : List Lin.V} (h : Sols p R f L) (hf : Lin.Free R f) {s : Lin.V} (hs : Lin.Sol p R f s) : Sols p R (f + 1) (L ++ [s]) :=
  ⟨fun g hg hfr => by
    by_cases e : g = f
    · subst e; exact ⟨s, by simp, hs⟩
    · obtain ⟨t, ht, h2⟩ := h.all g (by omega) hfr
      exact ⟨t, by simp [ht], h2⟩, fun t ht => by
    rcases List.mem_append.1 ht with h1 | h1
    · obtain ⟨g, h2, h3⟩ := h.only t h1; exact ⟨g, by omega, h3⟩
    · rw [List.mem_singleton.1 h1]; exact ⟨f, by omega, hf, hs⟩, by have := h.len; simp; omega⟩
theorem sol_wd {p : Int} {R : List Lin.V} {n f : Nat} {s : Lin.V} (hR : Lin.Red p R) (hw : ∀ u ∈ R, Lin.Wd n u) (hf : f < n) (h : Lin.Sol p R f s) : Lin.Wd n s := fun i hi => h.rest i (by omega) (fun w hww e => by
  have := (ld_ltn (hw w hww) (hR.ne hww)).1
  omega)
/-- A solution while it is made: k rows have been seen. -/
structure SolTo (p : Int) (R : List Lin.V) (f k : Nat) (s : Lin.V) : Prop where
  at1 : s f = 1
  lead : ∀ w ∈ R.take k, s (Lin.ld w) = (p - w f) % p
  rest : ∀ i, i ≠ f → (∀ w ∈ R.take k, Lin.ld w ≠ i) → s i = 0
theorem SolTo.start (p : Int) (R : List Lin.V) (f : Nat) : SolTo p R f 0 (fun i => if i = f then 1 else Lin.zv i) := ⟨by simp, by simp, fun i h _ => by simp [h, Lin.zv]⟩
theorem SolTo.step {p : Int} {R : List Lin.V} {f k : Nat} {s : Lin.V} (hR : Lin.Red p R) (hf : Lin.Free R f) (h : SolTo p R f k s) (hk : k < R.length) : SolTo p R f (k + 1) (fun i => if i = Lin.ld R[k] then (p - R[k] f) % p else s i) := by
  have hne : ∀ w ∈ R.take k, Lin.ld w ≠ Lin.ld R[k] := fun w hw e => by
    obtain ⟨j, hj, rfl⟩ := List.getElem_of_mem hw
    have hjk : j < k := by simp at hj; omega
    have := List.pairwise_iff_getElem.1 hR.inc j k (by omega) hk hjk
    rw [List.getElem_take] at e
    omega
  refine ⟨?_, fun w hw => ?_, fun i hi hn => ?_⟩
  · rw [if_neg (fun e => hf _ (List.getElem_mem hk) e.symm)]
    exact h.at1
  · rw [List.take_succ_eq_append_getElem hk] at hw
    rcases List.mem_append.1 hw with h1 | h1
    · rw [if_neg (hne w h1)]
      exact h.lead w h1
    · rw [List.mem_singleton.1 h1, if_pos rfl]
  · have hn2 := hn R[k] (by rw [List.take_succ_eq_append_getElem hk]; exact List.mem_append_right _ (List.mem_singleton.2 rfl))
    rw [if_neg (fun e => hn2 e.symm)]
    exact h.rest i hi (fun w hw => hn w (by rw [List.take_succ_eq_append_getElem hk]; exact List.mem_append_left _ hw))
theorem SolTo.done {p : Int} {R : List Lin.V} {f : Nat} {s : Lin.V} (h : SolTo p R f R.length s) : Lin.Sol p R f s := by
  have e : R.take R.length = R := List.take_of_length_le (Nat.le_refl _)
  exact ⟨h.at1, fun w hw => h.lead w (by rw [e]; exact hw), fun i hi hn => h.rest i hi (fun w hw => hn w (by rw [e] at hw; exact hw))⟩

set_option maxHeartbeats 12800000 in
set_option maxRecDepth 100000 in
theorem annihilator_any (p : Int) (n : Nat) (s : Value) (L : List Lin.V) (w : World) (hp : IsP p) (hs : Vs 0 w s L) (hLm : ∀ u ∈ L, Lin.Md p u) (hLw : ∀ u ∈ L, Lin.Wd n u) (hn : n ≤ 40) (hl : L.length ≤ 1048575) :
    Calls Try.prog 160 #[.int .i64 p, .int .i64 n, s] w (VsR (SpF p n (Lin.Ker p n L)) w) := by
  have HP := Lib.hid hp
  have hp7 := hp.hi7
  have hp1 := hp.lo1
  have HLM := Lib.hid hLm
  have HLW := Lib.hid hLw
  have HRED := Lib.hid (reducedList_any p s L w hp hs hLm (fun u hu => wd_wider (hLw u hu) hn) hl)
  clear hp hs hLm hLw
  go_enter Try.func160, Try.ntmps160
  go_wp2_with fail
  refine HRED.out.mono ?_
  rintro e w1 ⟨s1, R, rfl, hb1, ho1, hr1, hlr⟩
  have HB1 := Lib.hid hb1
  have HR := Lib.hid hr1
  have HVS := Lib.hid (ho1.vs.lower (Nat.zero_le _))
  have HRW : Hid (∀ u ∈ R, Lin.Wd n u) := Lib.hid (fun u hu => Lin.Sp.wd HLW.out ((hr1.eqv u).1 (Lin.Sp.mem hu (hr1.red.md u hu))))
  have hRn : R.length ≤ n := red_length hr1.red HRW.out
  obtain ⟨ads, caps, rfl⟩ := ho1.shape
  clear hb1 ho1 hr1 hlr HRED
  go_wp2_with (with_reducible refine wpList_allocB rfl (some 8) rfl rfl ?_; intro w2 hb2 hs2 hrow2; have HB2 := Lib.hid hb2; have HROW2 := Lib.hid hrow2; clear hb2 hrow2)
  go_wp2
  go_loopw [10, 21] (fun _ i wr => ∃ (k : Nat), k ≤ R.length ∧ i = .int .i64 k ∧ Hid (Below w1.heap.size w1 wr) ∧ Hid (wr.rowIs w1.heap.size 191 40 (fun i => .bool (isLd R k i)))) (fun _ i _ => R.length - (intOf i).toNat)
  case atStart => exact ⟨0, Nat.zero_le _, rfl, HB2, Lib.hid (HROW2.out.congr (fun i _ => by simp [isLd]))⟩
  case round =>
    clear HB2 HROW2
    obtain ⟨k, hk, rfl, HB, HROW⟩ := hrel
    obtain ⟨wx, hwx⟩ : ∃ wx : World, wx = wr := ⟨_, rfl⟩
    subst hwx
    by_cases hlt : k < R.length
    · refine Vs.cases (HVS.out.below HB.out) (fun _ _ hx _ => absurd hlt (by simp [hx])) (fun b o cap2 hv _ _ hc => ?_)
      obtain ⟨rfl, rfl⟩ : ads = some ⟨b, o, none⟩ ∧ caps = cap2 := by simpa using hv
      obtain ⟨u, hu⟩ : ∃ u, u = R[k] := ⟨_, rfl⟩
      have HVA : Hid (At wx b (o + k * 40) u) := Lib.hid (by rw [hu]; exact hc k hlt)
      have HI2V := Lib.hid (Try.infoVl u)
      have HIS : Hid ((Try.prog.info? 161).map (·.size) = some (vl u).toArray.size) := Lib.hid (by have := HI2V.out; simpa using this)
      have HUW : Hid (Lin.Wd 40 u) := Lib.hid (by rw [hu]; exact wd_wider (HRW.out _ (List.getElem_mem hlt)) hn)
      have HUN : Hid (u ≠ Lin.zv) := Lib.hid (by rw [hu]; exact HR.out.red.ne (List.getElem_mem hlt))
      obtain ⟨hd40, _, _⟩ := ld_lt HUW.out HUN.out
      obtain ⟨d, hd⟩ : ∃ d, d = Lin.ld u := ⟨_, rfl⟩
      have HD := Lib.hid hd
      have HUE := Lib.hid hu
      rw [← hd] at hd40
      have hsz : w1.heap.size ≤ wx.heap.size := HB.out.size
      clear hv hc hu hd
      go_upto_region 6 with (first | (with_reducible refine wpList_load_mid rfl 161 (.tmp 23) rfl b (o + k * 40) rfl (vl u) _ HVA.out.range Try.underlyingV rfl HI2V.out ?_) | (with_reducible refine wpList_allocV rfl (some 10) rfl rfl ?_; intro W2 hn2; have HN2 := Lib.hid hn2; have HT2 : Hid (W2.there wx.heap.size 0 (vl u).toArray.size) := (Lib.hid (by have := hn2.there; simpa [vl_length] using this)); clear hn2) | (with_reducible refine wpList_store_mid rfl 161 (.tmp 10) (.tmp 24) rfl wx.heap.size 0 (vl u).toArray rfl rfl HT2.out HIS.out (vl_all _) ?_))
      refine forget_wp (fun W => Hid (At W wx.heap.size 0 u ∧ Below wx.heap.size wx W)) (Lib.hid ?_) ?_
      · have hp2 := HN2.out.put u
        exact ⟨hp2.2.1, hp2.1⟩
      intro W3 HS3
      clear HN2 HT2 HVA HIS
      simp only [Act.put]
      go_wp2_with (with_reducible refine wpList_load_mid rfl 161 (.tmp 10) rfl wx.heap.size 0 rfl (vl u) _ HS3.out.1.range Try.underlyingV rfl HI2V.out ?_)
      refine (leadOf_any u _ HUW.out HUN.out).mono ?_
      rw [← HD.out]
      rintro e W4 ⟨rfl, hb4⟩
      have HB4 := Lib.hid ((HB.out.trans (HS3.out.2.mono hsz)).trans (hb4.mono (by have := HS3.out.2.size; omega)))
      have HROW4 := Lib.hid (rowIs_below (rowIs_below HROW.out HS3.out.2) hb4)
      have hcell := HROW4.out.cell hd40
      have hfz := HROW4.out.frozen d
      have hib := hindexB w1.heap.size hd40
      have HROW5 := Lib.hid ((HROW4.out.set d (.bool true)).congr (g := fun i => .bool (isLd R (k + 1) i)) (fun i _ => by
        rw [isLd_succ hlt, ← HUE.out, ← HD.out]
        by_cases e : i = d
        · simp [e]
        · simp [e]))
      have HB5 : Hid (Below w1.heap.size w1 (W4.setCell ⟨w1.heap.size, d, none⟩ (.bool true))) := Lib.hid (HB4.out.setCell (Nat.le_refl _) _)
      clear hb4 HS3 HROW4 HB4 HROW HB
      go_wp2
      go_roundw
      case rel => exact ⟨k + 1, by omega, by go_num, HB5, HROW5⟩
      case measure => simp [intOf]; omega
    · have hkk : Hid (k = R.length) := Lib.hid (by omega)
      have HROWL : Hid (wx.rowIs w1.heap.size 191 40 (fun i => .bool (isLd R R.length i))) := Lib.hid (by have := HROW.out; rwa [hkk.out] at this)
      have HVSL := Lib.hid (HVS.out.below HB.out)
      have hsL : w.heap.size ≤ wx.heap.size := by have := HB1.out.size; have := HB.out.size; omega
      have HBL := Lib.hid (HB1.out.trans (HB.out.mono HB1.out.size))
      obtain ⟨wl, hwl⟩ : ∃ wl : World, wl = wx := ⟨_, rfl⟩
      subst hwl
      clear HROW HB HVS HB1 hkk
      go_wp2
      go_loopw [11, 30] (fun sv i wr => ∃ (f : Nat) (SL : List Lin.V), f ≤ n ∧ i = .int .i64 f ∧ Hid (Below wl.heap.size wl wr) ∧ Hid (Ow wl.heap.size wr sv SL) ∧ Hid (Sols p R f SL)) (fun _ i _ => n - (intOf i).toNat)
      case atStart => exact ⟨0, [], Nat.zero_le _, rfl, Lib.hid (Below.refl _ _), Lib.hid (Ow.nil _ _), Lib.hid (Sols.nil p R)⟩
      case round =>
        obtain ⟨f, SL, hf, rfl, HB, HO, HSL⟩ := hrel
        obtain ⟨wx, hwx⟩ : ∃ wx : World, wx = wr := ⟨_, rfl⟩
        subst hwx
        obtain ⟨ado, capo, rfl⟩ := HO.out.shape
        have hsx : wl.heap.size ≤ wx.heap.size := HB.out.size
        by_cases hfn : f < n
        · have hf40 : f < 40 := by omega
          have hib := hindexB w1.heap.size hf40
          have hcell := (rowIs_below HROWL.out HB.out).cell hf40
          cases hfree : isLd R R.length f with
          | true =>
            rw [hfree] at hcell
            have HS2 := Lib.hid (HSL.out.skip (isLd_true hfree))
            clear hfree
            go_wp2
            go_roundw
            case rel => exact ⟨f + 1, SL, by omega, by go_num, HB, HO, HS2⟩
            case measure => simp [intOf]; omega
          | false =>
            rw [hfree] at hcell
            have HFR := Lib.hid (isLd_false hfree)
            have HI2V := Lib.hid (Try.infoVl Lin.zv)
            have HIS : Hid ((Try.prog.info? 161).map (·.size) = some (vl Lin.zv).toArray.size) := Lib.hid (by have := HI2V.out; simpa using this)
            clear hfree
            go_upto_region 14 with (first | (with_reducible refine wpList_buildZ rfl (some 36) rfl rfl ?_) | (with_reducible refine wpList_allocV rfl (some 13) rfl rfl ?_; intro W2 hn2; have HN2 := Lib.hid hn2; have HT2 : Hid (W2.there wx.heap.size 0 (vl Lin.zv).toArray.size) := (Lib.hid (by have := hn2.there; simpa [vl_length] using this)); clear hn2) | (with_reducible refine wpList_store_mid rfl 161 (.tmp 13) (.tmp 36) rfl wx.heap.size 0 (vl Lin.zv).toArray rfl rfl HT2.out HIS.out (vl_all _) ?_))
            refine forget_wp (fun W => Hid (At W wx.heap.size 0 Lin.zv ∧ W.there wx.heap.size 0 40 ∧ Below wx.heap.size wx W)) (Lib.hid ?_) ?_
            · have hp2 := HN2.out.put Lin.zv
              exact ⟨hp2.2.1, World.there_setCells HN2.out.there _ _ _, hp2.1⟩
            intro W3 HS3
            clear HN2 HT2 HI2V HIS hcell hib
            simp only [Act.put]
            have hc3 := HS3.out.1.cell hf40
            rw [Nat.zero_add] at hc3
            have hf3 := (HS3.out.2.1 f hf40).2
            rw [Nat.zero_add] at hf3
            have hiv := hindexV wx.heap.size hf40
            have hat4 := HS3.out.1.set hf40 1
            rw [Nat.zero_add] at hat4
            obtain ⟨v1, hv1⟩ : ∃ v1 : Lin.V, v1 = (fun i => if i = f then 1 else Lin.zv i) := ⟨_, rfl⟩
            rw [← hv1] at hat4
            have HST : Hid (SolTo p R f 0 v1) := Lib.hid (by rw [hv1]; exact SolTo.start p R f)
            have HN4 : Hid (Below wx.heap.size wx (W3.setCell ⟨wx.heap.size, f, none⟩ (.int .i64 1)) ∧ At (W3.setCell ⟨wx.heap.size, f, none⟩ (.int .i64 1)) wx.heap.size 0 v1 ∧ (W3.setCell ⟨wx.heap.size, f, none⟩ (.int .i64 1)).there wx.heap.size 0 40) := Lib.hid ⟨HS3.out.2.2.setCell (Nat.le_refl _) _, hat4, there_set HS3.out.2.1 _ _⟩
            clear hat4 hv1 HS3
            go_wp2
            clear hc3 hf3 hiv
            have HBW := Lib.hid (HB.out)
            obtain ⟨wo, hwo⟩ : ∃ wo : World, wo = wx := ⟨_, rfl⟩
            subst hwo
            go_loopw [15, 41] (fun _ i wr => ∃ (j : Nat) (v : Lin.V), j ≤ R.length ∧ i = .int .i64 j ∧ Hid (Below wo.heap.size wo wr) ∧ Hid (At wr wo.heap.size 0 v) ∧ Hid (wr.there wo.heap.size 0 40) ∧ Hid (SolTo p R f j v)) (fun _ i _ => R.length - (intOf i).toNat)
            case atStart => exact ⟨0, v1, Nat.zero_le _, rfl, Lib.hid HN4.out.1, Lib.hid HN4.out.2.1, Lib.hid HN4.out.2.2, HST⟩
            case round =>
              clear HN4 HST
              obtain ⟨j, v, hj, rfl, HBX, HAT, HTH, HSO⟩ := hrel
              obtain ⟨wx, hwx⟩ : ∃ wx : World, wx = wr := ⟨_, rfl⟩
              subst hwx
              have hsw : wo.heap.size ≤ wx.heap.size := HBX.out.size
              have hvlt : wo.heap.size < wx.heap.size := HAT.out.lt
              by_cases hltj : j < R.length
              · refine Vs.cases (HVSL.out.below (HB.out.trans (HBX.out.mono hsx))) (fun _ _ hx _ => absurd hltj (by simp [hx])) (fun b o cap2 hv _ _ hc => ?_)
                obtain ⟨rfl, rfl⟩ : ads = some ⟨b, o, none⟩ ∧ caps = cap2 := by simpa using hv
                obtain ⟨u, hu⟩ : ∃ u, u = R[j] := ⟨_, rfl⟩
                have HVA : Hid (At wx b (o + j * 40) u) := Lib.hid (by rw [hu]; exact hc j hltj)
                have HI2V := Lib.hid (Try.infoVl u)
                have HIS : Hid ((Try.prog.info? 161).map (·.size) = some (vl u).toArray.size) := Lib.hid (by have := HI2V.out; simpa using this)
                have HUW : Hid (Lin.Wd 40 u) := Lib.hid (by rw [hu]; exact wd_wider (HRW.out _ (List.getElem_mem hltj)) hn)
                have HUN : Hid (u ≠ Lin.zv) := Lib.hid (by rw [hu]; exact HR.out.red.ne (List.getElem_mem hltj))
                have HUM : Hid (Lin.Md p u) := Lib.hid (by rw [hu]; exact HR.out.red.md _ (List.getElem_mem hltj))
                obtain ⟨hd40, _, _⟩ := ld_lt HUW.out HUN.out
                obtain ⟨d, hd⟩ : ∃ d, d = Lin.ld u := ⟨_, rfl⟩
                have HD := Lib.hid hd
                have HUE := Lib.hid hu
                rw [← hd] at hd40
                obtain ⟨x, hx⟩ : ∃ x, x = u f := ⟨_, rfl⟩
                have hxb := HUM.out f
                rw [← hx] at hxb
                have HXE := Lib.hid hx
                obtain ⟨y, hy⟩ : ∃ y, y = (p - x) % p := ⟨_, rfl⟩
                have HYE := Lib.hid hy
                have hrem : ∀ w, (binOp .rem 2 (.int .i64 (p - x)) (.int .i64 p)).run Try.prog w = .ok (.int .i64 y) w := fun w => by rw [hy]; exact hremI (by omega) (by omega) (by omega) w
                have HLD := Lib.hid (leadOf_any u · HUW.out HUN.out)
                rw [← HD.out] at HLD
                have HSO2 : Hid (SolTo p R f (j + 1) (fun i => if i = d then y else v i)) := Lib.hid (by
                  have := HSO.out.step HR.out.red HFR.out hltj
                  rwa [← HUE.out, ← HD.out, ← HXE.out, ← HYE.out] at this)
                clear hv hc hu hd hx hy
                go_upto_region 18 with (first | (with_reducible refine wpList_load_mid rfl 161 (.tmp 43) rfl b (o + j * 40) rfl (vl u) _ HVA.out.range Try.underlyingV rfl HI2V.out ?_) | (with_reducible refine wpList_allocV rfl (some 15) rfl rfl ?_; intro W2 hn2; have HN2 := Lib.hid hn2; have HT2 : Hid (W2.there wx.heap.size 0 (vl u).toArray.size) := (Lib.hid (by have := hn2.there; simpa [vl_length] using this)); clear hn2) | (with_reducible refine wpList_store_mid rfl 161 (.tmp 15) (.tmp 44) rfl wx.heap.size 0 (vl u).toArray rfl rfl HT2.out HIS.out (vl_all _) ?_))
                refine forget_wp (fun W => Hid (At W wx.heap.size 0 u ∧ Below wx.heap.size wx W)) (Lib.hid ?_) ?_
                · have hp2 := HN2.out.put u
                  exact ⟨hp2.2.1, hp2.1⟩
                intro W3 HS3
                clear HN2 HT2 HVA HIS
                simp only [Act.put, List.setIfInBounds_toArray, List.set_cons_zero, List.set_cons_succ]
                have hcx : ∀ W, (At W wx.heap.size 0 u ∧ Below wo.heap.size wo W) → W.cell? ⟨wx.heap.size, f, none⟩ = some (.int .i64 x) := fun W h => by
                  have := h.1.cell hf40
                  rwa [Nat.zero_add, ← HXE.out] at this
                refine wp_region_held (S := fun W => At W wx.heap.size 0 u ∧ Below wo.heap.size wo W) (by kernel_rfl) ?_
                have hb3 : Below wx.heap.size wx W3.drew := HS3.out.2.drew
                have S0 : At W3.drew wx.heap.size 0 u ∧ Below wo.heap.size wo W3.drew := ⟨HS3.out.1, HBX.out.trans (hb3.mono hsw)⟩
                refine held_take (i := 0) (v := .agg (vl u).toArray) (some 45) rfl rfl (by kernel_rfl) (by kernel_rfl) (by kernel_rfl) (fun _ _ _ h => h) (yieldsIf_load_mid (by kernel_rfl) 161 (.tmp 15) (by kernel_rfl) wx.heap.size 0 (by kernel_rfl) (vl u) _ (fun W h => h.1) Try.underlyingV rfl HI2V.out) S0 ?_
                refine held_take (i := 2) (v := .int .i64 p) (some 47) rfl rfl (by kernel_rfl) (by kernel_rfl) (by kernel_rfl) (fun _ _ _ h => h) (yieldsIf_move (by kernel_rfl) rfl (by kernel_rfl)) S0 ?_
                refine held_take (i := 3) (v := .int .i64 (f : Int)) (some 48) rfl rfl (by kernel_rfl) (by kernel_rfl) (by kernel_rfl) (fun _ _ _ h => h) (yieldsIf_move (by kernel_rfl) rfl (by kernel_rfl)) S0 ?_
                refine held_take (i := 4) (v := .pointer (some ⟨wx.heap.size, f, none⟩)) (some 49) rfl rfl (by kernel_rfl) (by kernel_rfl) (by kernel_rfl) (fun _ _ _ h => h) (yieldsIf_index (by kernel_rfl) rfl (by kernel_rfl) (by kernel_rfl) (hindexV wx.heap.size hf40)) S0 ?_
                refine held_take (i := 5) (v := .int .i64 x) (some 50) rfl rfl (by kernel_rfl) (by kernel_rfl) (by kernel_rfl) (fun _ _ _ h => h) (yieldsIf_cell (by kernel_rfl) rfl (by kernel_rfl) (fun W h => hload W (hcx W h))) S0 ?_
                refine held_take (i := 6) (v := .int .i64 (p - x)) (some 51) rfl rfl (by kernel_rfl) (by kernel_rfl) (by kernel_rfl) (fun _ _ _ h => h) (yieldsIf_bin (by kernel_rfl) rfl (by kernel_rfl) (by kernel_rfl) (fun _ => rfl) (hsubI (by omega) (by omega))) S0 ?_
                refine held_take (i := 7) (v := .int .i64 p) (some 52) rfl rfl (by kernel_rfl) (by kernel_rfl) (by kernel_rfl) (fun _ _ _ h => h) (yieldsIf_move (by kernel_rfl) rfl (by kernel_rfl)) S0 ?_
                refine held_take (i := 8) (v := .int .i64 y) (some 53) rfl rfl (by kernel_rfl) (by kernel_rfl) (by kernel_rfl) (fun _ _ _ h => h) (yieldsIf_bin (by kernel_rfl) rfl (by kernel_rfl) (by kernel_rfl) (fun _ => rfl) hrem) S0 ?_
                refine held_enter (i := 1) (some 46) (f := 174) (args := #[vv u]) (by kernel_rfl) rfl rfl rfl (by kernel_rfl) (HLD.out _) ?_ (fun c w' h => by cases h.1) (fun w' h => by cases h.1)
                rintro e4 W4 ⟨he4, hb4⟩
                injection he4 with he4
                subst he4
                have hb34 : Below wx.heap.size wx W4 := hb3.trans (hb4.mono hb3.size)
                have S1 : At W4 wx.heap.size 0 u ∧ Below wo.heap.size wo W4 := ⟨S0.1.later hb4, HBX.out.trans (hb34.mono hsw)⟩
                refine ⟨S1, ?_⟩
                refine held_take (i := 9) (v := .pointer (some ⟨wo.heap.size, d, none⟩)) (some 54) rfl rfl (by kernel_rfl) (by kernel_rfl) (by kernel_rfl) (fun _ _ _ h => h) (yieldsIf_index (by kernel_rfl) rfl (by kernel_rfl) (by kernel_rfl) (hindexV wo.heap.size hd40)) S1 ?_
                have HAT4 := HAT.out.later hb34
                have HTH4 := there_below HTH.out hb34 hvlt
                have hc4 := HAT4.cell hd40
                rw [Nat.zero_add] at hc4
                have hf4 := (HTH4 d hd40).2
                rw [Nat.zero_add] at hf4
                have hat5 := HAT4.set hd40 y
                rw [Nat.zero_add] at hat5
                have S2 : At (W4.setCell ⟨wo.heap.size, d, none⟩ (.int .i64 y)) wx.heap.size 0 u ∧ Below wo.heap.size wo (W4.setCell ⟨wo.heap.size, d, none⟩ (.int .i64 y)) := ⟨S1.1.setOther (by show wo.heap.size ≠ wx.heap.size; omega) _, S1.2.setCell (Nat.le_refl _) _⟩
                have HN5 : Hid (Below wo.heap.size wo (W4.setCell ⟨wo.heap.size, d, none⟩ (.int .i64 y)) ∧ At (W4.setCell ⟨wo.heap.size, d, none⟩ (.int .i64 y)) wo.heap.size 0 (fun i => if i = d then y else v i) ∧ (W4.setCell ⟨wo.heap.size, d, none⟩ (.int .i64 y)).there wo.heap.size 0 40) := Lib.hid ⟨S2.2, hat5, there_set HTH4 _ _⟩
                refine held_storeI (i := 10) (by kernel_rfl) rfl rfl rfl (.tmp 54) (.tmp 53) rfl wo.heap.size d y _ (by kernel_rfl) (by kernel_rfl) hc4 hf4 ⟨S2, ?_⟩
                refine wpAnyH_done (by kernel_rfl) ?_ _
                simp only [Act.put, List.setIfInBounds_toArray, List.set_cons_zero, List.set_cons_succ]
                clear S0 S1 S2 hat5 hc4 hf4 HAT4 HTH4 hcx hrem hb3 hb34 hb4 HS3 HLD HAT HTH HBX HSO
                go_wp2
                go_roundw
                case rel => exact ⟨j + 1, _, by omega, by go_num, Lib.hid HN5.out.1, Lib.hid HN5.out.2.1, Lib.hid HN5.out.2.2, HSO2⟩
                case measure => simp [intOf]; omega
              · have hjj : Hid (j = R.length) := Lib.hid (by omega)
                have HSOL : Hid (Lin.Sol p R f v) := Lib.hid (SolTo.done (by have := HSO.out; rwa [hjj.out] at this))
                have HO5 := Lib.hid (HO.out.below HBX.out)
                have HB5 := Lib.hid (HB.out.trans (HBX.out.mono hsx))
                have hs5 : wl.heap.size ≤ wx.heap.size := by omega
                have hSl : SL.length ≤ 1048576 := by have := HSL.out.len; omega
                have HSL2 := Lib.hid (HSL.out.add HFR.out HSOL.out)
                have HI2V := Lib.hid (Try.infoVl v)
                go_wp2_with (first | (with_reducible refine wpList_load_mid rfl 161 (.tmp 13) rfl wo.heap.size 0 rfl (vl v) _ HAT.out.range Try.underlyingV rfl HI2V.out ?_) | (with_reducible refine wpList_oneV rfl (some 58) rfl (.tmp 57) rfl v rfl ?_; intro W7 hn7; have HN7 := Lib.hid hn7; have HZ7 : Hid (wl.heap.size ≤ W7.heap.size) := (Lib.hid (by have := hn7.size; omega)); have HO7 := Lib.hid (HO5.out.below hn7.below); clear hn7) | (at_builtin; with_reducible refine wpList_appendV rfl (some 59) rfl (.tmp 56) (.tmp 58) rfl wl.heap.size (.slice ado SL.length capo) SL rfl HO7.out wx.heap.size 1 v rfl HN7.out.at' hSl HZ7.out ?_; intro s8 W8 ho8 hg8; have HO8 := Lib.hid ho8; have HG8 := Lib.hid hg8; clear ho8 hg8))
                have HB7 := Lib.hid (HB5.out.trans (HN7.out.below.mono hs5))
                have HB8 : Hid (Below wl.heap.size wl W8) := Lib.hid (HB7.out.grown HG8.out (by have := HB7.out.size; omega) (fun g hg => ((HO7.out.lt) g hg).1))
                go_roundw
                case rel => exact ⟨f + 1, SL ++ [v], by omega, by go_num, HB8, HO8, HSL2⟩
                case measure => simp [intOf]; omega
        · have hff : Hid (f = n) := Lib.hid (by omega)
          have HSN : Hid (Sols p R n SL) := Lib.hid (by have := HSL.out; rwa [hff.out] at this)
          have HSM : Hid (∀ t ∈ SL, Lin.Md p t) := Lib.hid (fun t ht => by obtain ⟨g, _, _, h⟩ := HSN.out.only t ht; exact h.md hp1)
          have HSW : Hid (∀ t ∈ SL, Lin.Wd n t) := Lib.hid (fun t ht => by obtain ⟨g, h1, _, h⟩ := HSN.out.only t ht; exact sol_wd HR.out.red HRW.out h1 h)
          have hSl : SL.length ≤ 1048575 := by have := HSL.out.len; omega
          have HOV := Lib.hid (HO.out.vs.lower (Nat.zero_le _))
          go_wp2_with fail
          refine (reducedList_any p _ SL _ HP.out HOV.out HSM.out (fun t ht => wd_wider (HSW.out t ht) hn) hSl).mono ?_
          rintro e W9 ⟨s9, R9, rfl, hb9, ho9, hr9, _⟩
          have hsw : w.heap.size ≤ wx.heap.size := by omega
          have HB9 := Lib.hid (HBL.out.trans ((HB.out.trans (hb9.mono hsx)).mono hsL))
          have HO9 : Hid (Ow w.heap.size W9 s9 R9) := Lib.hid ⟨ho9.1, ho9.2.imp id (fun ⟨g, cap, cur, h1, h2, h3⟩ => ⟨g, cap, cur, h1, Nat.le_trans hsw h2, h3⟩)⟩
          have HR9 := Lib.hid hr9
          clear hb9 ho9 hr9
          go_wp2
          go_ret
          refine ⟨_, R9, rfl, HB9.out, HO9.out, HR9.out.red, fun t ht => Lin.Sp.wd HSW.out ((HR9.out.eqv t).1 (Lin.Sp.mem ht (HR9.out.red.md t ht))), fun x => ?_⟩
          rw [HR9.out.eqv x, Lin.sols_eqv hp1 HR.out.red HRW.out (fun g hg hfr => HSN.out.all g hg hfr) (fun t ht => HSN.out.only t ht) x]
          exact ⟨fun h => h.eqv HLM.out HR.out.eqv, fun h => h.eqv HR.out.red.md HR.out.eqv.symm⟩
end Go.Proofs.Ytpdkfidmmjlmnab

namespace Go.Proofs.Ytpdkfidmmjlmnab
open Go.RowKit

theorem hloadT (w : World) {b o : Nat} {x : Value} (h : w.cell? ⟨b, o, none⟩ = some x) : (Instr.loadAt 26 (.pointer (some ⟨b, o, none⟩))).run Try.prog w = .ok x w := by go_simp
theorem hloadU (w : World) {b o : Nat} {x : Value} (h : w.cell? ⟨b, o, none⟩ = some x) : (Instr.loadAt 23 (.pointer (some ⟨b, o, none⟩))).run Try.prog w = .ok x w := by go_simp
theorem hidxU (b o : Nat) {k n : Nat} (cap : Nat) (hk : k < n) (w : World) : (Instr.indexAt 23 (.slice (some ⟨b, o, none⟩) n cap) (.int .i64 k)).run Try.prog w = .ok (.pointer (some ⟨b, o + k, none⟩)) w := by
  have h2 : (0 : Int) ≤ (k : Int) := by omega
  have h3 : (k : Int) < (n : Int) := by omega
  go_simp

/-- The table whose columns the cycles of a degree annihilate, and its width. -/
def cycT (ds : List Int) (ms : List (List (List Int))) (q : Nat) : List (List Int) := mapZ ds ms (q : Int)
def cycM (ds : List Int) (q : Nat) : Nat := if q = 0 then 0 else dimN ds ((q - 1 : Nat) : Int)
theorem dimN_le8 {p : Int} {ds : List Int} {ms : List (List (List Int))} (h : IsCx p ds ms) (q : Nat) : dimN ds (q : Int) ≤ 8 ∧ ds.getD q 0 = (dimN ds (q : Int) : Int) := by
  have := h.1.dim q
  unfold dimN
  rw [Int.toNat_natCast]
  omega
theorem cyc_ok {p : Int} {ds : List Int} {ms : List (List (List Int))} (h : IsCx p ds ms) {q : Nat} (hq : q < ds.length) :
    (cycT ds ms q).length = dimN ds (q : Int) ∧ (∀ r ∈ cycT ds ms q, RowOk p (cycM ds q : Int) r) ∧ cycM ds q ≤ 8 := by
  have hd := dimN_le8 h q
  by_cases h0 : q = 0
  · subst h0
    have e : cycT ds ms 0 = List.replicate (dimN ds ((0 : Nat) : Int)) [] := by
      unfold cycT mapZ
      rw [if_neg (by omega)]
      have : dimZ ds ((0 : Nat) : Int) = ds.getD 0 0 := by
        unfold dimZ
        rw [if_pos (by omega)]
        rfl
      rw [this]
      rfl
    rw [e]
    refine ⟨List.length_replicate, fun r hr => ?_, by simp [cycM]⟩
    rw [List.eq_of_mem_replicate hr]
    exact ⟨by simp [cycM], by simp⟩
  · obtain ⟨k, rfl⟩ : ∃ k, q = k + 1 := ⟨q - 1, by omega⟩
    have hml := h.1.mlen
    have hkm : k < ms.length := by omega
    have e : cycT ds ms (k + 1) = tabN ms k := by
      unfold cycT mapZ tabN
      rw [if_pos (by omega), show (((k + 1 : Nat) : Int)).toNat - 1 = k by omega]
    have hk := dimN_le8 h k
    have ht := h.tab hkm
    have e2 : cycM ds (k + 1) = dimN ds (k : Int) := by simp [cycM]
    rw [e, e2]
    refine ⟨by have := ht.1; have e3 : tabN ms k = ms.getD k [] := rfl; rw [e3]; omega, fun r hr => by rw [← hk.2]; exact ht.2 r hr, hk.1⟩
theorem cycT_succ {p : Int} {ds : List Int} {ms : List (List (List Int))} (h : IsCx p ds ms) {k : Nat} (hq : k + 1 < ds.length) : cycT ds ms (k + 1) = tabN ms k := by
  have hml := h.1.mlen
  unfold cycT mapZ tabN
  rw [if_pos (by omega), show (((k + 1 : Nat) : Int)).toNat - 1 = k by omega]
/-- The columns as vectors. -/
theorem ker_cols {p : Int} {d c : Nat} {t : List (List Int)} (htl : t.length = d) (v : Lin.V) : Lin.Ker p d ((flipT c t).map ofL) v ↔ CycS p d c t v := by
  have key : ∀ j, j < c → Lin.dot d (ofL ((List.range t.length).map fun i => (t.getD i []).getD j 0)) v = Lin.dot d (Lin.col (fun i => ofL (t.getD i [])) j) v := fun j _ => Lin.dot_congr (fun i hi => by
    have : ofL ((List.range t.length).map fun i => (t.getD i []).getD j 0) i = (t.getD i []).getD j 0 := by
      rw [ofL_at (by simp; omega)]
      simp
    rw [this]
    rfl)
  constructor
  · intro h
    refine ⟨h.md, h.wd, fun j hj => ?_⟩
    rw [← key j hj]
    exact h.ann _ (List.mem_map.2 ⟨_, List.mem_map.2 ⟨j, List.mem_range.2 hj, rfl⟩, rfl⟩)
  · rintro ⟨h1, h2, h3⟩
    refine ⟨h1, h2, fun r hr => ?_⟩
    obtain ⟨row, hrow, rfl⟩ := List.mem_map.1 hr
    obtain ⟨j, hj, rfl⟩ := List.mem_map.1 hrow
    have hj' := List.mem_range.1 hj
    rw [key j hj']
    exact h3 j hj'
theorem ker_none {p : Int} {d : Nat} {t : List (List Int)} (v : Lin.V) : Lin.Ker p d [] v ↔ CycS p d 0 t v :=
  ⟨fun h => ⟨h.md, h.wd, fun j hj => absurd hj (Nat.not_lt_zero _)⟩, fun h => ⟨h.1, h.2.1, by simp⟩⟩
theorem SpF.congr {p : Int} {n : Nat} {S S' : Lin.V → Prop} {R : List Lin.V} (h : SpF p n S R) (e : ∀ v, S v ↔ S' v) : SpF p n S' R := ⟨h.1, h.2.1, fun v => (h.2.2 v).trans (e v)⟩
theorem flip_row {p : Int} {c : Nat} {t : List (List Int)} (h : ∀ r ∈ t, RowOk p (c : Int) r) : ∀ r ∈ flipT c t, RowOk p (t.length : Int) r := fun r hr => by
  obtain ⟨j, hj, rfl⟩ := List.mem_map.1 hr
  have hj' := List.mem_range.1 hj
  refine ⟨by simp, fun x hx => ?_⟩
  obtain ⟨i, hi, rfl⟩ := List.mem_map.1 hx
  have hi' := List.mem_range.1 hi
  have hro := h _ (List.getElem_mem hi')
  show 0 ≤ (t.getD i []).getD j 0 ∧ (t.getD i []).getD j 0 ≤ p - 1
  rw [getD_of_lt _ hi']
  have hl : j < (t[i]).length := by have := hro.1; omega
  rw [getD_of_lt _ hl]
  exact hro.2 _ (List.getElem_mem hl)

/-- A table as an answer. -/
def DtR (t : List (List Int)) (w : World) (e : Ending) (w' : World) : Prop := ∃ v, e = .returned v ∧ L2 0 w' v t ∧ Below w.heap.size w w'
theorem cycT_zero (ds : List Int) (ms : List (List (List Int))) (h0 : 0 < ds.length) : cycT ds ms 0 = List.replicate (dimN ds ((0 : Nat) : Int)) [] := by
  unfold cycT mapZ
  rw [if_neg (by omega)]
  have : dimZ ds ((0 : Nat) : Int) = ds.getD 0 0 := by
    unfold dimZ
    rw [if_pos (by omega)]
    rfl
  rw [this]
  rfl
theorem tableOf_none (d : Nat) (Z : Nat → Nat → Int) : tableOf d 0 Z = List.replicate d [] := by simp [tableOf, List.map_const']
theorem cycM_dimZ {p : Int} {ds : List Int} {ms : List (List (List Int))} (h : IsCx p ds ms) {q : Nat} (hq : q < ds.length) : dimZ ds ((q : Int) - 1) = (cycM ds q : Int) := by
  by_cases h0 : q = 0
  · subst h0
    unfold dimZ cycM
    rw [if_neg (by omega), if_pos rfl]
    rfl
  · obtain ⟨k, rfl⟩ : ∃ k, q = k + 1 := ⟨q - 1, by omega⟩
    unfold cycM
    rw [if_neg h0, show ((k + 1 : Nat) : Int) - 1 = (k : Int) by omega, show k + 1 - 1 = k from rfl, ← (dimN_le8 h k).2]
    unfold dimZ
    rw [if_pos (by omega), Int.toNat_natCast]

/-- The cycles of a degree. -/
def CycD (p : Int) (ds : List Int) (ms : List (List (List Int))) (n : Int) : Lin.V → Prop := CycS p (dimN ds n) (cycM ds n.toNat) (cycT ds ms n.toNat)
end Go.Proofs.Ytpdkfidmmjlmnab
