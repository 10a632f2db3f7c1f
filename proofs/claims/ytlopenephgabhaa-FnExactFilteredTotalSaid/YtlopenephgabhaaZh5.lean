/-
  Texts that ProofFtl needs, part 5.
-/
import Derived.Test.YtlopenephgabhaaZh4
import Derived.RegionTactic
import Derived.Deep.RegionHeld3
import Derived.BigRegion
import Derived.Deep.Cut
import Derived.Deep.CutRange
import Derived.StillTailTactics
import Derived.Deep.QuietTactic
import Derived.Maps.OwnOps
import Derived.Maps.OwnSet
namespace Go.Proofs.Ytlopenephgabhaa
open Go.RowKit

/-- What a double complex is. -/
structure IsDb (p : Int) (ds : List (List Int)) (ac dn : List (List (List (List Int)))) : Prop where
  prime : IsP p
  cel : DclOk ds
  tbs : TbsOk p ds ac dn
  cnd : CndOk p ds ac dn

theorem one_le {α : Type} (a : α) : ∀ l : List α, l.Nodup → (∀ x ∈ l, x = a) → l.length ≤ 1
  | [], _, _ => by simp
  | [_], _, _ => by simp
  | x :: y :: l, hn, h => by
    have h1 := h x (by simp)
    have h2 := h y (by simp)
    have := (List.nodup_cons.1 hn).1
    exact absurd (by rw [h1, h2]; simp) this
theorem dgn_four {ds : List (List Int)} (hok : DclOk ds) (n : Nat) : (dgn ds n).length ≤ 4 := by
  have h : ∀ m, m ≤ ds.length → ((cellsTo ds m).filter (onD n)).length ≤ m := by
    intro m
    induction m with
    | zero => intro _; simp [cellsTo]
    | succ m ih =>
      intro hm
      rw [cellsTo_succ, List.filter_append, List.length_append]
      have h1 := ih (by omega)
      have h2 := one_le (m, n - m) ((rowCells ds m).filter (onD n)) (by
        have h0 := cells_nodup ds (m + 1)
        rw [cellsTo_succ] at h0
        exact ((List.nodup_append.1 h0).2.1).filter _) (fun x hx => by
        obtain ⟨hx1, hx2⟩ := List.mem_filter.1 hx
        unfold rowCells at hx1
        obtain ⟨j, _, rfl⟩ := List.mem_map.1 hx1
        simp [onD] at hx2
        ext
        · rfl
        · show j = n - m; omega)
      omega
  have h3 := h ds.length (Nat.le_refl _)
  have := hok.len1
  exact Nat.le_trans h3 this
theorem tdim_16 {ds : List (List Int)} (hok : DclOk ds) (s : Nat) : tdim ds s ≤ 16 := by
  have h := sum_le4 (cdim ds) (dgn ds s) (fun c hc => (cdim_cast hok (mem_cells.2 (mem_dgn.1 hc).1)).2)
  have h2 := dgn_four hok s
  unfold tdim
  omega
theorem tot_sz {p : Int} {ds : List (List Int)} {ac dn : List (List (List (List Int)))} (hp : IsP p) (hok : DclOk ds) (ht : TbsOk p ds ac dn) : SzBk (tD ds) (tM ds ac dn) := by
  have h1 := hok.len0
  have h2 := hok.len1
  have h3 := hok.h0
  have h4 := hok.h1
  refine ⟨by rw [tD_len]; omega, by rw [tD_len]; unfold ttop; omega, by rw [tD_len, tM_len], fun d hd => ?_, fun k hk => ?_⟩
  · obtain ⟨s, _, rfl⟩ := List.mem_map.1 hd
    have := tdim_16 hok s
    omega
  · rw [tM_len] at hk
    rw [tM_at hk, tD_at (by omega), tD_at (by omega)]
    have := ttab_ok hp hok ht k
    exact ⟨this.1, fun x hx => (this.2 x hx).1⟩
theorem cell_top {ds : List (List Int)} (hok : DclOk ds) {c : Nat × Nat} {n : Nat} (h : c ∈ dgn ds n) : n ≤ ttop ds := by
  obtain ⟨⟨h1, h2⟩, h3⟩ := mem_dgn.1 h
  rw [getD_of_lt _ h1, (hok.col _ (List.getElem_mem h1)).1] at h2
  have := hok.h0
  unfold ttop
  omega
theorem tot_sq {p : Int} {ds : List (List Int)} {ac dn : List (List (List (List Int)))} (hp : IsP p) (hok : DclOk ds) (ht : TbsOk p ds ac dn) : SqB (apT p) (tD ds) (tM ds ac dn) ↔ CndOk p ds ac dn := by
  rw [← square_iff hp hok ht]
  have e : ∀ q, q < ttop ds + 1 → ((tD ds).getD q 0).toNat = tdim ds q := fun q hq => by rw [tD_at hq]; simp
  constructor
  · intro h q f r hf hr
    have hq := cell_top hok hf
    have := h q (by rw [tM_len]; omega) (trow ds ac dn (q + 1) f r) (by
      rw [tM_at (by omega)]
      unfold ttab
      exact List.mem_flatMap.2 ⟨f, hf, List.mem_map.2 ⟨r, List.mem_range.2 hr, rfl⟩⟩)
    rwa [e q (by omega), tM_at (by omega)] at this
  · intro h q hq x hx
    rw [tM_len] at hq
    rw [tM_at (by omega)] at hx
    obtain ⟨f, r, hf, hr, rfl⟩ := ttab_mem hx
    rw [e q (by omega), tM_at (by omega)]
    exact h q f r hf hr
theorem tot_apo {p : Int} {ds : List (List Int)} {ac dn : List (List (List (List Int)))} (hp : IsP p) (hok : DclOk ds) (ht : TbsOk p ds ac dn) : ∀ q, q + 1 < (tM ds ac dn).length → ∀ r ∈ (tM ds ac dn).getD (q + 1) [], ApOk p ((tD ds).getD q 0).toNat r ((tM ds ac dn).getD q []) := by
  intro q hq x hx
  rw [tM_len] at hq
  rw [tM_at (by omega)] at hx
  obtain ⟨f, r, hf, hr, rfl⟩ := ttab_mem hx
  rw [tM_at (by omega), tD_at (by omega), Int.toNat_natCast]
  exact tot_ap hp hok ht (mem_cells.2 (mem_dgn.1 hf).1) hr q
theorem RwC.cx {lo hi : Nat} {W : World} {u : Value} {p : Int} {ds : List Int} {ms : List (List (List Int))} (h : RwC lo hi W u (p, ds, ms)) : ∃ ad cd am cm, u = .agg #[.int .i64 p, .slice ad ds.length cd, .slice am ms.length cm] ∧ Cx 0 W (.slice ad ds.length cd) (.slice am ms.length cm) ds ms := by
  obtain ⟨ad, cd, am, cm, rfl, h1, _⟩ := h
  exact ⟨ad, cd, am, cm, rfl, h1.1.l1.lower (Nat.zero_le _), h1.2.l3.lower (Nat.zero_le _)⟩

set_option maxRecDepth 100000 in
set_option maxHeartbeats 4000000 in
theorem isDouble_any (p : Int) (dv av vv : Value) (ds : List (List Int)) (ac dn : List (List (List (List Int)))) (w : World) (h : Dx 0 w dv av vv ds ac dn) (hbd : Bd2 1048576 ds) (hba : Bd4 1048576 ac) (hbv : Bd4 1048576 dn) :
    Calls Try.prog 13 #[.agg #[.int .i64 p, dv, av, vv]] w (BB (IsDb p ds ac dn) w) := by
  have HX0 := Lib.hid (DBx.start (p := p) 28 h)
  have HBD := Lib.hid hbd
  have HBA := Lib.hid hba
  have HBV := Lib.hid hbv
  clear h hbd hba hbv
  go_enter Try.func13, Try.ntmps13
  go_wp2_with fail
  refine (hasCells_any p dv av vv ds ac dn _ HX0.out.dx HBD.out).mono ?_
  rintro e w' ⟨b1, rfl, hb1, hbb1⟩
  have HX1 := Lib.hid (HX0.out.next hb1)
  have HBB := Lib.hid hbb1
  clear hb1 hbb1 HX0
  have c0 := HX1.out.c0
  have c1 := HX1.out.c1
  have c2 := HX1.out.c2
  have c3 := HX1.out.c3
  cases b1
  · go_wp2
    go_ret
    exact ⟨false, rfl, HX1.out.below, ⟨fun h => (by cases h), fun h => absurd (HBB.out.2 ⟨h.prime, h.cel⟩) (by simp)⟩⟩
  · have HPC := Lib.hid (HBB.out.1 (by simp))
    clear HBB
    go_wp2_with fail
    refine (hasTables_any p dv av vv ds ac dn _ HX1.out.dx HPC.out.1 HPC.out.2 HBA.out HBV.out).mono ?_
    rintro e w' ⟨b2, rfl, hb2, hbb2⟩
    have HX2 := Lib.hid (HX1.out.next hb2)
    have HBB2 := Lib.hid hbb2
    clear hb2 hbb2 HX1 c0 c1 c2 c3
    have c0 := HX2.out.c0
    have c1 := HX2.out.c1
    have c2 := HX2.out.c2
    have c3 := HX2.out.c3
    cases b2
    · go_wp2
      go_ret
      exact ⟨false, rfl, HX2.out.below, ⟨fun h => (by cases h), fun h => absurd (HBB2.out.2 h.tbs) (by simp)⟩⟩
    · have HTB := Lib.hid (HBB2.out.1 (by simp))
      clear HBB2
      go_wp2_with fail
      refine (totalComplex_any p HPC.out.1 dv av vv ds ac dn _ HX2.out.dx HPC.out.2 HTB.out).mono ?_
      rintro e w' ⟨u, rfl, hrc, hb3⟩
      obtain ⟨ad, cd, am, cm, rfl, hcx⟩ := hrc.cx
      have HX3 := Lib.hid (HX2.out.next hb3)
      have HSQ : Hid (∀ W, Cx 0 W (.slice ad (tD ds).length cd) (.slice am (tM ds ac dn).length cm) (tD ds) (tM ds ac dn) → Calls Try.prog 47 #[.agg #[.int .i64 p, .slice ad (tD ds).length cd, .slice am (tM ds ac dn).length cm]] W (BB (SqB (apT p) (tD ds) (tM ds ac dn)) W)) := Lib.hid (fun W hc =>
        squaresB_any p (apT p) (ApOk p) (fun c v t ok => apT_length ok) (fun c va vt v t w ok ha hv hvl hc => applyTable_any p c va vt v t w ok ha hv hvl hc) _ _ _ _ W hc (tot_sz HPC.out.1 HPC.out.2 HTB.out) (tot_apo HPC.out.1 HPC.out.2 HTB.out))
      have HCX := Lib.hid hcx
      obtain ⟨l1, hl1⟩ : ∃ l, l = (tD ds).length := ⟨_, rfl⟩
      obtain ⟨l2, hl2⟩ : ∃ l, l = (tM ds ac dn).length := ⟨_, rfl⟩
      rw [← hl1, ← hl2] at HSQ HCX ⊢
      clear hcx hrc hb3 hl1 hl2 c0 c1 c2 c3 HX2
      go_wp2_with fail
      refine (HSQ.out _ HCX.out).mono ?_
      rintro e w' ⟨b3, rfl, hb4, hbb3⟩
      have HX4 := Lib.hid (HX3.out.next hb4)
      have HBB3 := Lib.hid hbb3
      clear hb4 hbb3 HX3
      go_wp2
      go_ret
      exact ⟨b3, rfl, HX4.out.below, HBB3.out.trans ((tot_sq HPC.out.1 HPC.out.2 HTB.out).trans ⟨fun h => ⟨HPC.out.1, HPC.out.2, HTB.out, h⟩, fun h => h.cnd⟩)⟩
end Go.Proofs.Ytlopenephgabhaa


namespace Go.Proofs.Ytlopenephgabhaa
open Go.RowKit

/-- The sizes of what is told as a complex. -/
structure SzOk (ds : List Int) (ms : List (List (List Int))) : Prop where
  len0 : 1 ≤ ds.length
  len1 : ds.length ≤ 6
  mlen : ms.length + 1 = ds.length
  dims : ∀ d ∈ ds, 0 ≤ d ∧ d ≤ 8
  tabs : ∀ k, k < ms.length → ((ms.getD k []).length : Int) = ds.getD (k + 1) 0 ∧ ∀ x ∈ ms.getD k [], (x.length : Int) = ds.getD k 0
theorem SzOk.dim {ds : List Int} {ms : List (List (List Int))} (h : SzOk ds ms) (k : Nat) : 0 ≤ ds.getD k 0 ∧ ds.getD k 0 ≤ 8 := by
  by_cases hk : k < ds.length
  · rw [getD_of_lt _ hk]; exact h.dims _ (List.getElem_mem _)
  · simp [List.getD, show ds.length ≤ k by omega]
end Go.Proofs.Ytlopenephgabhaa


namespace Go.Proofs.Ytlopenephgabhaa
open Go.RowKit

/-- While a table is being made row by row: k rows are there. -/
structure Sc (w w' : World) (r c k : Nat) (Z : Nat → Nat → Int) : Prop where
  below : Below w.heap.size w w'
  size : w'.heap.size = w.heap.size + 1 + k
  top : w'.rowIs w.heap.size 35 r (fun j => if j < k then .slice (some ⟨w.heap.size + 1 + j, 0, none⟩) c c else .slice none 0 0)
  rows : ∀ j, j < k → w'.rowIs (w.heap.size + 1 + j) 2 c (fun i => .int .i64 (Z j i))
theorem Sc.congr {w w' : World} {r c k : Nat} {Z Z' : Nat → Nat → Int} (h : Sc w w' r c k Z) (e : ∀ j, j < k → ∀ i, i < c → Z j i = Z' j i) : Sc w w' r c k Z' :=
  ⟨h.below, h.size, h.top, fun j hj => (h.rows j hj).congr (fun i hi => by rw [e j hj i hi])⟩
theorem Sc.step {w w' : World} {r c k : Nat} {Z : Nat → Nat → Int} (h : Sc w w' r c k Z) : Sc w ((w'.alloc (.cells (madeCells #[.int .i64 0] c) 2)).setCell ⟨w.heap.size, k, none⟩ (.slice (some ⟨w'.heap.size, 0, none⟩) c c)) r c (k + 1) (fun j i => if j < k then Z j i else 0) := by
  have hnew := World.rowIs_made w' (.int .i64 0) c 2
  have hs := h.size
  refine ⟨(h.below.alloc (by omega) _).setCell (Nat.le_refl _) _, by simp [h.size]; omega, ((h.top.alloc _).set k _).congr (fun j _ => ?_), fun j hj => ?_⟩
  · by_cases e : j = k
    · subst e
      rw [if_pos rfl, if_pos (Nat.lt_succ_self _), hs]
    · rw [if_neg e]
      by_cases h2 : j < k
      · rw [if_pos h2, if_pos (by omega)]
      · rw [if_neg h2, if_neg (by omega)]
  · by_cases e : j = k
    · subst e
      rw [← hs]
      exact (hnew.setOther (by show w'.heap.size ≠ w.heap.size; omega) _).congr (fun i _ => by simp)
    · exact (((h.rows j (by omega)).alloc _).setOther (by show w.heap.size + 1 + j ≠ w.heap.size; omega) _).congr (fun i _ => by rw [if_pos (show j < k by omega)])
theorem Sc.put {w w' : World} {r c k : Nat} {Z : Nat → Nat → Int} (h : Sc w w' r c k Z) {j i : Nat} (hj : j < k) (x : Int) :
    Sc w (w'.setCell ⟨w.heap.size + 1 + j, i, none⟩ (.int .i64 x)) r c k (fun j2 i2 => if j2 = j ∧ i2 = i then x else Z j2 i2) := by
  refine ⟨h.below.setCell (by show w.heap.size ≤ w.heap.size + 1 + j; omega) _, by simp [h.size], h.top.setOther (by show w.heap.size ≠ w.heap.size + 1 + j; omega) _, fun j2 hj2 => ?_⟩
  by_cases e : j2 = j
  · subst e
    exact ((h.rows j2 hj2).set i _).congr (fun i2 _ => by by_cases e2 : i2 = i <;> simp [e2])
  · exact ((h.rows j2 hj2).setOther (by show w.heap.size + 1 + j2 ≠ w.heap.size + 1 + j; omega) _).congr (fun i2 _ => by simp [e])
theorem Sc.done {w w' : World} {r c : Nat} {Z : Nat → Nat → Int} (h : Sc w w' r c r Z) : Mat w w' r c Z :=
  ⟨h.below, h.size, h.top.congr (fun j hj => by rw [if_pos hj]), h.rows⟩

end Go.Proofs.Ytlopenephgabhaa


namespace Go.Proofs.Ytlopenephgabhaa
open Go.RowKit

/-- The differential of a vector of the degree n. -/
def difOf (p : Int) (ds : List Int) (ms : List (List (List Int))) (n : Int) (vs : List Int) : List Int := if n = 0 then [] else apT p (ds.getD (n.toNat - 1) 0).toNat vs (ms.getD (n.toNat - 1) [])
def InDeg (ds : List Int) (n : Int) : Prop := 0 ≤ n ∧ n ≤ (ds.length : Int) - 1
/-- What DifferentialOf answers: a list and a code. -/
structure DifOut (p : Int) (ds : List Int) (ms : List (List (List Int))) (n : Int) (vs out : List Int) (c : Int) : Prop where
  bad : ¬ IsCx p ds ms → out = [] ∧ c = 1
  far : IsCx p ds ms → ¬ InDeg ds n → out = [] ∧ c = 2
  row : IsCx p ds ms → InDeg ds n → ¬ RowOk p (ds.getD n.toNat 0) vs → out = [] ∧ c = 2
  good : IsCx p ds ms → InDeg ds n → RowOk p (ds.getD n.toNat 0) vs → out = difOf p ds ms n vs ∧ c = 0
theorem DifOut.unique {p : Int} {ds : List Int} {ms : List (List (List Int))} {n : Int} {vs o1 o2 : List Int} {c1 c2 : Int} (h1 : DifOut p ds ms n vs o1 c1) (h2 : DifOut p ds ms n vs o2 c2) : o1 = o2 ∧ c1 = c2 := by
  by_cases a : IsCx p ds ms
  · by_cases b : InDeg ds n
    · by_cases c : RowOk p (ds.getD n.toNat 0) vs
      · have x := h1.good a b c
        have y := h2.good a b c
        exact ⟨x.1.trans y.1.symm, x.2.trans y.2.symm⟩
      · have x := h1.row a b c
        have y := h2.row a b c
        exact ⟨x.1.trans y.1.symm, x.2.trans y.2.symm⟩
    · have x := h1.far a b
      have y := h2.far a b
      exact ⟨x.1.trans y.1.symm, x.2.trans y.2.symm⟩
  · have x := h1.bad a
    have y := h2.bad a
    exact ⟨x.1.trans y.1.symm, x.2.trans y.2.symm⟩
end Go.Proofs.Ytlopenephgabhaa


namespace Go.Proofs.Ytlopenephgabhaa
open Go.RowKit

open Classical in
/-- The code of a shift. -/
noncomputable def shCode (p k : Int) (ds : List Int) (ms : List (List (List Int))) : Int :=
  if ¬ IsCx p ds ms then 1 else if ¬ (0 ≤ k ∧ k ≤ 5) then 2 else if 5 < (ds.length : Int) - 1 + k then 3 else 0
structure ShOk (p k : Int) (ds : List Int) (ms : List (List (List Int))) : Prop where
  c : IsCx p ds ms
  r : 0 ≤ k ∧ k ≤ 5
  fit : (ds.length : Int) - 1 + k ≤ 5
theorem ShOk.code {p k : Int} {ds : List Int} {ms : List (List (List Int))} (h : ShOk p k ds ms) : shCode p k ds ms = 0 := by
  unfold shCode
  rw [if_neg (fun x => x h.c), if_neg (fun x => x h.r), if_neg (by have := h.fit; omega)]
end Go.Proofs.Ytlopenephgabhaa


namespace Go.Proofs.Ytlopenephgabhaa
open Go.RowKit

/-- A complex as it lies behind the call that made it: its dimensions, its tables' heads, its tables. -/
structure CuAt (w w' : World) (n m : Nat) (D : Nat → Value) (r c : Nat → Nat) (Z : Nat → Nat → Nat → Int) (bd bm : Nat) : Prop where
  below : Below w.heap.size w w'
  lo : w.heap.size ≤ bd ∧ w.heap.size ≤ bm ∧ bd ≠ bm
  dims : w'.rowIs bd 2 n D
  tabs : ∃ (lo : Nat) (bs : Nat → Nat), bd < lo ∧ bm < lo ∧ w'.rowIs bm 22 m (duM bs r m) ∧ Ts lo w' bs r c Z m
theorem CuAt.set {w w' : World} {n m : Nat} {D : Nat → Value} {r c : Nat → Nat} {Z : Nat → Nat → Nat → Int} {bd bm : Nat} (h : CuAt w w' n m D r c Z bd bm) {a : Addr} (h0 : w.heap.size ≤ a.block) (h1 : a.block < bd) (h2 : a.block < bm) (v : Value) : CuAt w (w'.setCell a v) n m D r c Z bd bm := by
  obtain ⟨lo, bs, a1, a2, a3, a4⟩ := h.tabs
  exact ⟨h.below.setCell h0 _, h.lo, h.dims.setOther (by omega) _, lo, bs, a1, a2, a3.setOther (by omega) _, a4.set (by omega) _⟩
end Go.Proofs.Ytlopenephgabhaa


namespace Go.Proofs.Ytlopenephgabhaa
open Go.ChangeShapes Go.WideShapes Go.ChangeAt Go.RowKit Go.Deep
theorem Try.infoSSS : (Try.prog.info? 36).map (fun i => (i.zero, i.size, i.bytes)) = some (some (.slice none 0 0), 1, 24) := by kernel_rfl
theorem Try.cellsSSS : Try.prog.cellsOf 36 = 1 := by kernel_rfl
theorem L4.lower {lo lo' : Nat} (hl : lo' ≤ lo) {w : World} {v : Value} {xs : List (List (List (List Int)))} (h : L4 lo w v xs) : L4 lo' w v xs := Sl.lower hl (fun _ _ _ h => L3.lower hl h) h

set_option maxHeartbeats 800000 in
theorem to4_any (v : Value) (xs : List (List (List (List Int)))) (w : World) (h : L4 0 w v xs) (hm : Bd4 1048576 xs) :
    Calls Try.prog 44 #[v] w (ToR L4 xs w) := by
  have hml : xs.length ≤ 1048576 := hm.1
  have HM := Lib.hid hm
  clear hm
  have hmk := run_make_row' (P := Try.prog) 23 36 (.slice none 0 0) 24 Try.underlying23 Try.infoSSS rfl .i64 .i64 xs.length (by omega) (by omega)
  refine Sl.cases h (fun ad cap hx hv => ?_) (fun b o cap hv _ hpos hc => ?_)
  · subst hx hv
    have hmk0 : ∀ w, (Instr.makeSlice 23 (.int .i64 0) (.int .i64 0)).run Try.prog w = .ok (.slice (some ⟨w.heap.size, 0, none⟩) 0 0) (w.alloc (.cells #[] 36)) := fun _ => by kernel_rfl
    clear hmk
    go_enter Try.func44, Try.ntmps44
    go_wp2
    refine wp_loop_rounds 1 ?_
    rw [rounds_succ]
    go_wp2
    go_ret
    exact ⟨_, rfl, Or.inl ⟨rfl, _, _, rfl⟩, (Below.refl _ _).alloc (Nat.le_refl _) _⟩
  · subst hv
    clear h
    have HC := Lib.hid hc
    clear hc
    go_enter Try.func44, Try.ntmps44
    go_wp2
    clear hmk
    go_loopw [4] (fun i wr => ∃ (k : Nat) (f : Nat → Value), k ≤ xs.length ∧ i = .int .i64 k ∧ Fill w wr 36 xs.length k (.slice none 0 0) (L3 (w.heap.size + 1)) xs f) (fun i _ => xs.length - (intOf i).toNat)
    case atStart => exact ⟨0, _, Nat.zero_le _, rfl, Fill.start _ _ _ _ _ _⟩
    case round =>
      obtain ⟨k, f, hk, rfl, HF⟩ := hrel
      by_cases hlt2 : k < xs.length
      · obtain ⟨u, hu, hr⟩ := HC.out k hlt2
        have hu' : wr.cell? ⟨b, o + k, none⟩ = some u := by
          rw [HF.below.cell (p := ⟨b, o + k, none⟩) (cell_lt hu), hu]
        have hr' : L3 0 wr u xs[k] := hr.below HF.below
        have hmx : Bd3 1048576 xs[k] := HM.out.2 _ (List.getElem_mem hlt2)
        have HF' := Lib.hid HF
        have HR' := Lib.hid hr'
        clear HF hu hr hr'
        go_wp2_with fail
        refine (to3_any u xs[k] _ HR'.out hmx).mono ?_
        rintro e w1 ⟨u1, rfl, hr1, hb1⟩
        obtain ⟨ad1, cap1, rfl⟩ := Sl.shape hr1
        have hlr := HF'.out.row.lt
        have hc1 : w1.cell? ⟨w.heap.size, k, none⟩ = some (f k) := (hb1.cell (p := ⟨w.heap.size, k, none⟩) hlr).trans (HF'.out.row.cell hlt2)
        have hc2 : w1.frozen? ⟨w.heap.size, k, none⟩ = false := (hb1.frozen (p := ⟨w.heap.size, k, none⟩) hlr).trans (HF'.out.row.frozen k)
        have HS := Lib.hid (HF'.out.step (w1 := w1) (u := _) (stable3 _) hb1 hlt2 (hr1.lower hlr))
        clear hr1 hb1 hlr
        go_wp2
        go_roundw
        case rel => exact ⟨k + 1, _, by omega, by go_num, HS.out⟩
        case measure => simp [intOf]; omega
      · obtain rfl : k = xs.length := by omega
        have HF' := Lib.hid HF
        clear HF
        go_wp2
        go_ret
        exact ⟨_, rfl, Sl.lower (Nat.le_refl _) (fun _ _ _ h => h.lower (Nat.le_succ _)) (HF'.out.sl (Nat.le_refl _)), HF'.out.below⟩

def W4 (lo hi : Nat) := Sw lo hi (W3 lo hi)
theorem steady4 (lo hi : Nat) : Steady lo hi (W4 lo hi) := (steady3 lo hi).sw
theorem W4.wider {lo hi lo' hi' : Nat} (hl : lo' ≤ lo) (hh : hi ≤ hi') {w : World} {v : Value} {xs : List (List (List (List Int)))} (h : W4 lo hi w v xs) : W4 lo' hi' w v xs := Sw.wider hl hh (fun _ _ _ h => h.wider hl hh) h
theorem W4.l4 {lo hi : Nat} {w : World} {v : Value} {xs : List (List (List (List Int)))} (h : W4 lo hi w v xs) : L4 lo w v xs := Sw.sl (fun _ _ _ h => h.l3) h
theorem W4.same {lo hi : Nat} {w w' : World} {v : Value} {xs : List (List (List (List Int)))} (h : W4 lo hi w v xs) (hs : Same lo hi w w') : W4 lo hi w' v xs := steady4 lo hi _ _ _ _ hs h

set_option maxHeartbeats 800000 in
theorem to4w_any (v : Value) (xs : List (List (List (List Int)))) (w : World) (h : L4 0 w v xs) (hm : Bd4 1048576 xs) :
    Calls Try.prog 44 #[v] w (ToW W4 xs w) := by
  have hml : xs.length ≤ 1048576 := hm.1
  have HM := Lib.hid hm
  clear hm
  have hmk := run_make_row' (P := Try.prog) 23 36 (.slice none 0 0) 24 Try.underlying23 Try.infoSSS rfl .i64 .i64 xs.length (by omega) (by omega)
  refine Sl.cases h (fun ad cap hx hv => ?_) (fun b o cap hv _ hpos hc => ?_)
  · subst hx hv
    have hmk0 : ∀ w, (Instr.makeSlice 23 (.int .i64 0) (.int .i64 0)).run Try.prog w = .ok (.slice (some ⟨w.heap.size, 0, none⟩) 0 0) (w.alloc (.cells #[] 36)) := fun _ => by kernel_rfl
    clear hmk
    go_enter Try.func44, Try.ntmps44
    go_wp2
    refine wp_loop_rounds 1 ?_
    rw [rounds_succ]
    go_wp2
    go_ret
    exact ⟨_, rfl, Or.inl ⟨rfl, _, _, rfl⟩, (Below.refl _ _).alloc (Nat.le_refl _) _⟩
  · subst hv
    clear h
    have HC := Lib.hid hc
    clear hc
    go_enter Try.func44, Try.ntmps44
    go_wp2
    clear hmk
    go_loopw [4] (fun i wr => ∃ (k : Nat) (f : Nat → Value), k ≤ xs.length ∧ i = .int .i64 k ∧ FillW w wr 36 xs.length k (.slice none 0 0) W3 xs f) (fun i _ => xs.length - (intOf i).toNat)
    case atStart => exact ⟨0, _, Nat.zero_le _, rfl, FillW.start _ _ _ _ _ _⟩
    case round =>
      obtain ⟨k, f, hk, rfl, HF⟩ := hrel
      by_cases hlt2 : k < xs.length
      · obtain ⟨u, hu, hr⟩ := HC.out k hlt2
        have hu' : wr.cell? ⟨b, o + k, none⟩ = some u := by
          rw [HF.below.cell (p := ⟨b, o + k, none⟩) (cell_lt hu), hu]
        have hr' : L3 0 wr u xs[k] := hr.below HF.below
        have hmx : Bd3 1048576 xs[k] := HM.out.2 _ (List.getElem_mem hlt2)
        have HF' := Lib.hid HF
        have HR' := Lib.hid hr'
        clear HF hu hr hr'
        go_wp2_with fail
        refine (to3w_any u xs[k] _ HR'.out hmx).mono ?_
        rintro e w1 ⟨u1, rfl, hr1, hb1⟩
        obtain ⟨ad1, cap1, rfl⟩ := Sw.shape hr1
        have hlr := HF'.out.row.lt
        have hc1 : w1.cell? ⟨w.heap.size, k, none⟩ = some (f k) := (hb1.cell (p := ⟨w.heap.size, k, none⟩) hlr).trans (HF'.out.row.cell hlt2)
        have hc2 : w1.frozen? ⟨w.heap.size, k, none⟩ = false := (hb1.frozen (p := ⟨w.heap.size, k, none⟩) hlr).trans (HF'.out.row.frozen k)
        have HS := Lib.hid (HF'.out.step (w1 := w1) (u := _) steady3 (fun _ _ _ _ _ _ _ h1 h2 h => W3.wider h1 h2 h) hb1 hlt2 hr1)
        clear hr1 hb1 hlr
        go_wp2
        go_roundw
        case rel => exact ⟨k + 1, _, by omega, by go_num, HS.out⟩
        case measure => simp [intOf]; omega
      · obtain rfl : k = xs.length := by omega
        have HF' := Lib.hid HF
        clear HF
        go_wp2
        go_ret
        exact ⟨_, rfl, HF'.out.sw (fun _ _ _ _ _ _ _ h1 h2 h => W3.wider h1 h2 h), HF'.out.below⟩

set_option maxHeartbeats 800000 in
theorem eq4_any (va vb : Value) (xs ys : List (List (List (List Int)))) (w : World) (ha : L4 0 w va xs) (hb : L4 0 w vb ys) (hm : Bd4 1048576 xs) (hn : Bd4 1048576 ys) :
    Calls Try.prog 49 #[va, vb] w (QR (.bool (decide (xs = ys))) w) := by
  have hm0 : xs.length ≤ 1048576 := hm.1
  have hn0 : ys.length ≤ 1048576 := hn.1
  have HM := Lib.hid hm
  have HN := Lib.hid hn
  clear hm hn
  by_cases hl : ys.length = xs.length
  · refine Sl.cases ha (fun ad cap hx hv => ?_) (fun b o cap hv _ hpos hc => ?_)
    · subst hx hv
      obtain ⟨ad2, cap2, hv2⟩ := Sl.shape hb
      rw [hl] at hv2
      obtain rfl : ys = [] := List.eq_nil_of_length_eq_zero hl
      subst hv2
      clear ha hb hl
      go_enter Try.func49, Try.ntmps49
      go_wp2
      refine wp_loop_rounds 1 ?_
      rw [rounds_succ]
      go_wp2
      go_ret
      exact ⟨rfl, 0, rfl⟩
    · refine Sl.cases hb (fun ad cap hx hv => absurd hl (by subst hx; simp; omega)) (fun b2 o2 cap2 hv2 _ hpos2 hc2 => ?_)
      rw [hl] at hv2
      subst hv hv2
      clear ha hb
      have HL := Lib.hid hl
      have HC := Lib.hid hc
      have HC2 := Lib.hid hc2
      clear hl hc hc2
      go_enter Try.func49, Try.ntmps49
      go_wp2
      go_loopw [5] (fun i wr => ∃ (k m : Nat), k ≤ xs.length ∧ i = .int .i64 k ∧ wr = w.drewN m ∧ Hid (∀ j (h1 : j < xs.length) (h2 : j < ys.length), j < k → xs[j] = ys[j])) (fun i _ => xs.length - (intOf i).toNat)
      case atStart => exact ⟨0, 0, Nat.zero_le _, rfl, rfl, Lib.hid (fun _ _ _ h => absurd h (Nat.not_lt_zero _))⟩
      case round =>
        obtain ⟨k, m, hk, rfl, hw, HD⟩ := hrel
        have HW := Lib.hid hw
        clear hw
        by_cases hlt2 : k < xs.length
        · have hlt3 : k < ys.length := by have := HL.out; omega
          obtain ⟨u, hu, hr⟩ := HC.out k hlt2
          obtain ⟨u2, hu2, hr2⟩ := HC2.out k hlt3
          have hu' : wr.cell? ⟨b, o + k, none⟩ = some u := by rw [HW.out]; exact hu
          have hu2' : wr.cell? ⟨b2, o2 + k, none⟩ = some u2 := by rw [HW.out]; exact hu2
          have HE := Lib.hid (fun (m2 : Nat) => eq3_any u u2 xs[k] ys[k] (wr.drewN m2) (by rw [HW.out]; exact (hr.below (drewN_below w m)).below (drewN_below _ m2)) (by rw [HW.out]; exact (hr2.below (drewN_below w m)).below (drewN_below _ m2)) (HM.out.2 _ (List.getElem_mem hlt2)) (HN.out.2 _ (List.getElem_mem hlt3)))
          clear hr hr2 hu hu2
          by_cases hxy : xs[k] = ys[k]
          · have HXY := Lib.hid hxy
            have HE' : Hid (∀ m2 : Nat, Calls Try.prog 62 #[u, u2] (wr.drewN m2) (QR (.bool true) (wr.drewN m2))) := Lib.hid (fun m2 => by have := HE.out m2; rwa [decide_eq_true hxy] at this)
            clear hxy HE
            go_wp2
            go_quiet ((go_at_call 62; exact Calls.quiet_of (HE'.out _)))
            go_wp2
            go_roundw
            case rel => exact ⟨k + 1, m + nq, by omega, by go_num, by rw [HW.out, World.drewN_drewN], Lib.hid (fun j h1 h2 hjk => by
              by_cases e : j = k
              · subst e; exact HXY.out
              · exact HD.out j h1 h2 (by omega))⟩
            case measure => simp [intOf]; omega
          · have HXY := Lib.hid hxy
            have HE' : Hid (∀ m2 : Nat, Calls Try.prog 62 #[u, u2] (wr.drewN m2) (QR (.bool false) (wr.drewN m2))) := Lib.hid (fun m2 => by have := HE.out m2; rwa [decide_eq_false hxy] at this)
            clear hxy HE
            go_wp2
            go_quiet ((go_at_call 62; exact Calls.quiet_of (HE'.out _)))
            go_wp2
            go_ret
            refine ⟨ret_bool ?_, m + nq, by rw [HW.out, World.drewN_drewN]⟩
            have hne : ¬ xs = ys := fun e => HXY.out (by subst e; rfl)
            simp [hne]
        · go_wp2
          go_ret
          refine ⟨ret_bool ?_, m, HW.out⟩
          have := list_eq_take HL.out (by omega) HD.out
          simp [this]
  · obtain ⟨ad, cap, rfl⟩ := Sl.shape ha
    obtain ⟨ad2, cap2, rfl⟩ := Sl.shape hb
    clear ha hb
    have hq : ((xs.length : Int) != (ys.length : Int)) = true := by simp; omega
    have hq2 : ((xs.length : Int) == (ys.length : Int)) = false := by simp; omega
    have HL := Lib.hid hl
    clear hl
    go_enter Try.func49, Try.ntmps49
    go_wp2
    go_ret
    refine ⟨ret_bool ?_, 0, rfl⟩
    have hne : ¬ xs = ys := fun e => HL.out (by rw [e])
    simp [hne]

section
variable {H : Type} {enc : TypeId × Value → H} {w : World} {base : Nat} {held : Bool}
theorem l4_of_trod {fuel : Nat} {v : Value} {x : DataW H × List MemPlace} (h : DataW.trod enc Try.prog w base (fun _ => true) held fuel 23 [v] = some x) : ∃ xs, L4 0 w v xs ∧ Bd4 9223372036854775807 xs := by
  obtain ⟨xs, h1, h2, h3⟩ := sl_of_trod (R := L3 0) (B := Bd3 9223372036854775807) Try.underlying23 Try.cellsSSS (fun fuel v x hh => l3_of_trod hh) h
  exact ⟨xs, h1, h2, h3⟩
end
end Go.Proofs.Ytlopenephgabhaa


namespace Go.Proofs.Ytlopenephgabhaa
open Go.ChangeShapes Go.WideShapes Go.ChangeAt Go.RowKit Go.Deep
def CapOk (v : Value) : Prop := ∃ a n c, v = .slice a n c ∧ n ≤ c
def L3c (lo : Nat) (w : World) (v : Value) (x : List (List (List Int))) : Prop := L3 lo w v x ∧ CapOk v
def L5 (lo : Nat) := Sl lo (L3c lo)
theorem stable3c (lo : Nat) : Stable lo (L3c lo) := fun _ _ _ _ hk h => ⟨stable3 lo _ _ _ _ hk h.1, h.2⟩
theorem stable5 (lo : Nat) : Stable lo (L5 lo) := (stable3c lo).sl
theorem L5.below {lo : Nat} {w w' : World} {v : Value} {xs : List (List (List (List Int)))} (h : L5 lo w v xs) (hb : Below w.heap.size w w') : L5 lo w' v xs := stable5 lo _ _ _ _ (Keep.of_below hb) h
theorem L5.lower {lo lo' : Nat} (hl : lo' ≤ lo) {w : World} {v : Value} {xs : List (List (List (List Int)))} (h : L5 lo w v xs) : L5 lo' w v xs := Sl.lower hl (fun _ _ _ h => ⟨L3.lower hl h.1, h.2⟩) h
theorem L5.l4 {lo : Nat} {w : World} {v : Value} {xs : List (List (List (List Int)))} (h : L5 lo w v xs) : L4 lo w v xs := Sl.lower (Nat.le_refl _) (fun _ _ _ h => h.1) h
def W3c (lo hi : Nat) (w : World) (v : Value) (x : List (List (List Int))) : Prop := W3 lo hi w v x ∧ CapOk v
def W5 (lo hi : Nat) := Sw lo hi (W3c lo hi)
theorem steady3c (lo hi : Nat) : Steady lo hi (W3c lo hi) := fun _ _ _ _ hs h => ⟨steady3 lo hi _ _ _ _ hs h.1, h.2⟩
theorem steady5 (lo hi : Nat) : Steady lo hi (W5 lo hi) := (steady3c lo hi).sw
theorem W3c.wider {lo hi lo' hi' : Nat} (hl : lo' ≤ lo) (hh : hi ≤ hi') {w : World} {v : Value} {xs : List (List (List Int))} (h : W3c lo hi w v xs) : W3c lo' hi' w v xs := ⟨W3.wider hl hh h.1, h.2⟩
theorem W5.wider {lo hi lo' hi' : Nat} (hl : lo' ≤ lo) (hh : hi ≤ hi') {w : World} {v : Value} {xs : List (List (List (List Int)))} (h : W5 lo hi w v xs) : W5 lo' hi' w v xs := Sw.wider hl hh (fun _ _ _ h => W3c.wider hl hh h) h
theorem W5.l5 {lo hi : Nat} {w : World} {v : Value} {xs : List (List (List (List Int)))} (h : W5 lo hi w v xs) : L5 lo w v xs := Sw.sl (fun _ _ _ h => ⟨h.1.l3, h.2⟩) h
theorem W5.same {lo hi : Nat} {w w' : World} {v : Value} {xs : List (List (List (List Int)))} (h : W5 lo hi w v xs) (hs : Same lo hi w w') : W5 lo hi w' v xs := steady5 lo hi _ _ _ _ hs h
abbrev Bd5 (n : Nat) (xs : List (List (List (List Int)))) : Prop := Bd4 n xs
theorem eq5_any (va vb : Value) (xs ys : List (List (List (List Int)))) (w : World) (ha : L5 0 w va xs) (hb : L5 0 w vb ys) (hm : Bd5 1048576 xs) (hn : Bd5 1048576 ys) :
    Calls Try.prog 49 #[va, vb] w (QR (.bool (decide (xs = ys))) w) := eq4_any va vb xs ys w ha.l4 hb.l4 hm hn

set_option maxHeartbeats 800000 in
theorem to3wc_any (v : Value) (xs : List (List (List Int))) (w : World) (h : L3 0 w v xs) (hm : Bd3 1048576 xs) :
    Calls Try.prog 78 #[v] w (ToW W3c xs w) := by
  have hml : xs.length ≤ 1048576 := hm.1
  have HM := Lib.hid hm
  clear hm
  have hmk := run_make_row' (P := Try.prog) 36 22 (.slice none 0 0) 24 Try.underlying36 Try.infoSS rfl .i64 .i64 xs.length (by omega) (by omega)
  refine Sl.cases h (fun ad cap hx hv => ?_) (fun b o cap hv _ hpos hc => ?_)
  · subst hx hv
    have hmk0 : ∀ w, (Instr.makeSlice 36 (.int .i64 0) (.int .i64 0)).run Try.prog w = .ok (.slice (some ⟨w.heap.size, 0, none⟩) 0 0) (w.alloc (.cells #[] 22)) := fun _ => by kernel_rfl
    clear hmk
    go_enter Try.func78, Try.ntmps78
    go_wp2
    refine wp_loop_rounds 1 ?_
    rw [rounds_succ]
    go_wp2
    go_ret
    exact ⟨_, rfl, ⟨Or.inl ⟨rfl, _, _, rfl⟩, _, _, _, rfl, Nat.le_refl _⟩, (Below.refl _ _).alloc (Nat.le_refl _) _⟩
  · subst hv
    clear h
    have HC := Lib.hid hc
    clear hc
    go_enter Try.func78, Try.ntmps78
    go_wp2
    clear hmk
    go_loopw [4] (fun i wr => ∃ (k : Nat) (f : Nat → Value), k ≤ xs.length ∧ i = .int .i64 k ∧ FillW w wr 22 xs.length k (.slice none 0 0) W2 xs f) (fun i _ => xs.length - (intOf i).toNat)
    case atStart => exact ⟨0, _, Nat.zero_le _, rfl, FillW.start _ _ _ _ _ _⟩
    case round =>
      obtain ⟨k, f, hk, rfl, HF⟩ := hrel
      by_cases hlt2 : k < xs.length
      · obtain ⟨u, hu, hr⟩ := HC.out k hlt2
        have hu' : wr.cell? ⟨b, o + k, none⟩ = some u := by
          rw [HF.below.cell (p := ⟨b, o + k, none⟩) (cell_lt hu), hu]
        have hr' : L2 0 wr u xs[k] := hr.below HF.below
        have hmx : Bd2 1048576 xs[k] := HM.out.2 _ (List.getElem_mem hlt2)
        have HF' := Lib.hid HF
        have HR' := Lib.hid hr'
        clear HF hu hr hr'
        go_wp2_with fail
        refine (to2w_any u xs[k] _ HR'.out hmx).mono ?_
        rintro e w1 ⟨u1, rfl, hr1, hb1⟩
        obtain ⟨ad1, cap1, rfl⟩ := Sw.shape hr1
        have hlr := HF'.out.row.lt
        have hc1 : w1.cell? ⟨w.heap.size, k, none⟩ = some (f k) := (hb1.cell (p := ⟨w.heap.size, k, none⟩) hlr).trans (HF'.out.row.cell hlt2)
        have hc2 : w1.frozen? ⟨w.heap.size, k, none⟩ = false := (hb1.frozen (p := ⟨w.heap.size, k, none⟩) hlr).trans (HF'.out.row.frozen k)
        have HS := Lib.hid (HF'.out.step (w1 := w1) (u := _) steady2 (fun _ _ _ _ _ _ _ h1 h2 h => W2.wider h1 h2 h) hb1 hlt2 hr1)
        clear hr1 hb1 hlr
        go_wp2
        go_roundw
        case rel => exact ⟨k + 1, _, by omega, by go_num, HS.out⟩
        case measure => simp [intOf]; omega
      · obtain rfl : k = xs.length := by omega
        have HF' := Lib.hid HF
        clear HF
        go_wp2
        go_ret
        exact ⟨_, rfl, ⟨HF'.out.sw (fun _ _ _ _ _ _ _ h1 h2 h => W2.wider h1 h2 h), _, _, _, rfl, Nat.le_refl _⟩, HF'.out.below⟩

set_option maxHeartbeats 800000 in
theorem to5w_any (v : Value) (xs : List (List (List (List Int)))) (w : World) (h0 : L5 0 w v xs) (hm : Bd5 1048576 xs) :
    Calls Try.prog 44 #[v] w (ToW W5 xs w) := by
  have h := h0.l4
  clear h0
  have hml : xs.length ≤ 1048576 := hm.1
  have HM := Lib.hid hm
  clear hm
  have hmk := run_make_row' (P := Try.prog) 23 36 (.slice none 0 0) 24 Try.underlying23 Try.infoSSS rfl .i64 .i64 xs.length (by omega) (by omega)
  refine Sl.cases h (fun ad cap hx hv => ?_) (fun b o cap hv _ hpos hc => ?_)
  · subst hx hv
    have hmk0 : ∀ w, (Instr.makeSlice 23 (.int .i64 0) (.int .i64 0)).run Try.prog w = .ok (.slice (some ⟨w.heap.size, 0, none⟩) 0 0) (w.alloc (.cells #[] 36)) := fun _ => by kernel_rfl
    clear hmk
    go_enter Try.func44, Try.ntmps44
    go_wp2
    refine wp_loop_rounds 1 ?_
    rw [rounds_succ]
    go_wp2
    go_ret
    exact ⟨_, rfl, Or.inl ⟨rfl, _, _, rfl⟩, (Below.refl _ _).alloc (Nat.le_refl _) _⟩
  · subst hv
    clear h
    have HC := Lib.hid hc
    clear hc
    go_enter Try.func44, Try.ntmps44
    go_wp2
    clear hmk
    go_loopw [4] (fun i wr => ∃ (k : Nat) (f : Nat → Value), k ≤ xs.length ∧ i = .int .i64 k ∧ FillW w wr 36 xs.length k (.slice none 0 0) W3c xs f) (fun i _ => xs.length - (intOf i).toNat)
    case atStart => exact ⟨0, _, Nat.zero_le _, rfl, FillW.start _ _ _ _ _ _⟩
    case round =>
      obtain ⟨k, f, hk, rfl, HF⟩ := hrel
      by_cases hlt2 : k < xs.length
      · obtain ⟨u, hu, hr⟩ := HC.out k hlt2
        have hu' : wr.cell? ⟨b, o + k, none⟩ = some u := by
          rw [HF.below.cell (p := ⟨b, o + k, none⟩) (cell_lt hu), hu]
        have hr' : L3 0 wr u xs[k] := hr.below HF.below
        have hmx : Bd3 1048576 xs[k] := HM.out.2 _ (List.getElem_mem hlt2)
        have HF' := Lib.hid HF
        have HR' := Lib.hid hr'
        clear HF hu hr hr'
        go_wp2_with fail
        refine (to3wc_any u xs[k] _ HR'.out hmx).mono ?_
        rintro e w1 ⟨u1, rfl, hr1, hb1⟩
        obtain ⟨ad1, cap1, rfl⟩ := Sw.shape hr1.1
        have hlr := HF'.out.row.lt
        have hc1 : w1.cell? ⟨w.heap.size, k, none⟩ = some (f k) := (hb1.cell (p := ⟨w.heap.size, k, none⟩) hlr).trans (HF'.out.row.cell hlt2)
        have hc2 : w1.frozen? ⟨w.heap.size, k, none⟩ = false := (hb1.frozen (p := ⟨w.heap.size, k, none⟩) hlr).trans (HF'.out.row.frozen k)
        have HS := Lib.hid (HF'.out.step (w1 := w1) (u := _) steady3c (fun _ _ _ _ _ _ _ h1 h2 h => W3c.wider h1 h2 h) hb1 hlt2 hr1)
        clear hr1 hb1 hlr
        go_wp2
        go_roundw
        case rel => exact ⟨k + 1, _, by omega, by go_num, HS.out⟩
        case measure => simp [intOf]; omega
      · obtain rfl : k = xs.length := by omega
        have HF' := Lib.hid HF
        clear HF
        go_wp2
        go_ret
        exact ⟨_, rfl, HF'.out.sw (fun _ _ _ _ _ _ _ h1 h2 h => W3c.wider h1 h2 h), HF'.out.below⟩

theorem to5_any (v : Value) (xs : List (List (List (List Int)))) (w : World) (h : L5 0 w v xs) (hm : Bd5 1048576 xs) :
    Calls Try.prog 44 #[v] w (ToR L5 xs w) := (to5w_any v xs w h hm).mono fun _ _ ⟨u, he, hr, hb⟩ => ⟨u, he, hr.l5, hb⟩
section
variable {H : Type} {enc : TypeId × Value → H} {w : World} {base : Nat} {held : Bool}
theorem cap_of_trod {fuel : Nat} {v : Value} {x : DataW H × List MemPlace} (h : DataW.trod enc Try.prog w base (fun _ => true) held fuel 36 [v] = some x) : CapOk v := by
  rcases open_slice1 Try.underlying36 Try.cellsSS h with ⟨hcs, _⟩ | ⟨a, len, cap, m, n, V, D, Pl, hcs, _, hl, hm, hmm, _, hx⟩
  · obtain rfl : v = .slice none 0 0 := by simpa using hcs
    exact ⟨_, _, _, rfl, Nat.le_refl _⟩
  · obtain rfl : v = .slice (some a) len cap := by simpa using hcs
    exact ⟨_, _, _, rfl, hl⟩
theorem l5_of_trod {fuel : Nat} {v : Value} {x : DataW H × List MemPlace} (h : DataW.trod enc Try.prog w base (fun _ => true) held fuel 23 [v] = some x) : ∃ xs, L5 0 w v xs ∧ Bd5 9223372036854775807 xs := by
  obtain ⟨xs, h1, h2, h3⟩ := sl_of_trod (R := L3c 0) (B := Bd3 9223372036854775807) Try.underlying23 Try.cellsSSS (fun fuel v x hh => by
    obtain ⟨a, ha, hb⟩ := l3_of_trod hh
    exact ⟨a, ⟨ha, cap_of_trod hh⟩, hb⟩) h
  exact ⟨xs, h1, h2, h3⟩
end
end Go.Proofs.Ytlopenephgabhaa


namespace Go.Proofs.Ytlopenephgabhaa
open Go.RowKit

def clD (ds : List (List Int)) (i : Nat) : List Int := ds.getD i []
def clM (dn : List (List (List (List Int)))) (i : Nat) : List (List (List Int)) := (dn.getD i []).drop 1
section
variable {p : Int} {ds : List (List Int)} {ac dn : List (List (List (List Int)))} {i : Nat}
end
section
variable {P : Program} {ops : Array Oper} {S : World → Prop}
end
theorem hidx2s (b o : Nat) {k n : Nat} (cap : Nat) (hk : k < n) (w : World) : (Instr.indexAt 22 (.slice (some ⟨b, o, none⟩) n cap) (.int .i64 k)).run Try.prog w = .ok (.pointer (some ⟨b, o + k, none⟩)) w := by
  have h2 : (0 : Int) ≤ (k : Int) := by omega
  have h3 : (k : Int) < (n : Int) := by omega
  go_simp
theorem hload1s (w : World) {b o : Nat} {x : Value} (h : w.cell? ⟨b, o, none⟩ = some x) : (Instr.loadAt 35 (.pointer (some ⟨b, o, none⟩))).run Try.prog w = .ok x w := by go_simp

end Go.Proofs.Ytlopenephgabhaa


namespace Go.Proofs.Ytlopenephgabhaa
open Go.RowKit

/-- The homology number of a degree. -/
def HNum (p : Int) (ds : List Int) (ms : List (List (List Int))) (q : Nat) (x : Int) : Prop :=
  ∃ R1 R2, SpF p (dimN ds (q : Int)) (CycS p (dimN ds (q : Int)) (cycM ds q) (cycT ds ms q)) R1 ∧ SpF p (dimN ds (q : Int)) (Lin.Sp p ((tabN ms q).map ofL)) R2 ∧ x = (R1.length : Int) - (R2.length : Int)
theorem SpF.unique {p : Int} {n : Nat} {S : Lin.V → Prop} {R R' : List Lin.V} (hp : 1 < p) (h : SpF p n S R) (k : SpF p n S R') : R = R' := Lin.Red.unique hp h.1 k.1 (fun v => (h.2.2 v).trans (k.2.2 v).symm)
theorem HNum.unique {p : Int} {ds : List Int} {ms : List (List (List Int))} {q : Nat} {x y : Int} (hp : 1 < p) (h : HNum p ds ms q x) (k : HNum p ds ms q y) : x = y := by
  obtain ⟨A, B, a, b, rfl⟩ := h
  obtain ⟨C, D, c, d, rfl⟩ := k
  rw [a.unique hp c, b.unique hp d]
theorem HNum.bd {p : Int} {ds : List Int} {ms : List (List (List Int))} {q : Nat} {x : Int} (hcx : IsCx p ds ms) (h : HNum p ds ms q x) : -8 ≤ x ∧ x ≤ 8 := by
  obtain ⟨A, B, a, b, rfl⟩ := h
  have := a.short
  have := b.short
  have := (dimN_le8 hcx q).1
  omega
/-- What IsExactAt answers. -/
structure ExOut (p : Int) (ds : List Int) (ms : List (List (List Int))) (n : Int) (b : Bool) (c : Int) : Prop where
  code : c = cxCode p ds ms n
  bad : c ≠ 0 → b = false
  good : c = 0 → ∃ x, HNum p ds ms n.toNat x ∧ (b = true ↔ x = 0)
theorem ExOut.unique {p : Int} {ds : List Int} {ms : List (List (List Int))} {n : Int} {b1 b2 : Bool} {c1 c2 : Int} (h : ExOut p ds ms n b1 c1) (k : ExOut p ds ms n b2 c2) : b1 = b2 ∧ c1 = c2 := by
  have e : c1 = c2 := h.code.trans k.code.symm
  refine ⟨?_, e⟩
  by_cases h0 : c1 = 0
  · obtain ⟨x, hx, hb⟩ := h.good h0
    obtain ⟨y, hy, hd⟩ := k.good (by rw [← e]; exact h0)
    have hp := (cxCode_zero (h.code.symm.trans h0)).1.1.prime.lo1
    have := hx.unique hp hy
    subst this
    exact Bool.eq_iff_iff.2 (hb.trans hd.symm)
  · rw [h.bad h0, k.bad (by rw [← e]; exact h0)]
end Go.Proofs.Ytlopenephgabhaa


namespace Go.Proofs.Ytlopenephgabhaa
open Go.RowKit Go.Shelf
attribute [local go_sem] Oper.semAt_some

/-- The table of the column homology numbers. -/
def TcOk (p : Int) (ds : List (List Int)) (dn : List (List (List (List Int)))) (t : List (List Int)) : Prop := t.length = ds.length ∧ ∀ i, i < ds.length → (t.getD i []).length = (ds.getD i []).length ∧ ∀ j, j < (ds.getD i []).length → HNum p (clD ds i) (clM dn i) j ((t.getD i []).getD j 0)
theorem TcOk.unique {p : Int} {ds : List (List Int)} {dn : List (List (List (List Int)))} {t t' : List (List Int)} (hp : 1 < p) (h : TcOk p ds dn t) (k : TcOk p ds dn t') : t = t' := by
  refine List.ext_getElem (by rw [h.1, k.1]) (fun i h1 h2 => ?_)
  obtain ⟨a1, a2⟩ := h.2 i (by rw [← h.1]; exact h1)
  obtain ⟨b1, b2⟩ := k.2 i (by rw [← h.1]; exact h1)
  rw [getD_of_lt _ h1] at a1 a2
  rw [getD_of_lt _ h2] at b1 b2
  refine List.ext_getElem (by rw [a1, b1]) (fun j h3 h4 => ?_)
  have a3 := a2 j (by rw [← a1]; exact h3)
  have b3 := b2 j (by rw [← a1]; exact h3)
  rw [getD_of_lt _ h3] at a3
  rw [getD_of_lt _ h4] at b3
  exact a3.unique hp b3
end Go.Proofs.Ytlopenephgabhaa


namespace Go.Proofs.Ytlopenephgabhaa
open Go.RowKit Go.Shelf
attribute [local go_sem] Oper.semAt_some

/-- The sum of the dimensions of some cells, each with its sign. -/
def eul (ds : List (List Int)) (cs : List (Nat × Nat)) : Int := cs.foldl (fun s c => if (c.1 + c.2) % 2 = 0 then s + cdim ds c else s - cdim ds c) 0
/-- What DoubleEuler answers. -/
def DeC (p : Int) (ds : List (List Int)) (ac dn : List (List (List (List Int)))) (b c : Int) : Prop := (¬ IsDb p ds ac dn ∧ b = 0 ∧ c = 1) ∨ (IsDb p ds ac dn ∧ b = eul ds (cellsTo ds ds.length) ∧ c = 0)
theorem DeC.unique {p : Int} {ds : List (List Int)} {ac dn : List (List (List (List Int)))} {b c b' c' : Int} (h : DeC p ds ac dn b c) (k : DeC p ds ac dn b' c') : b = b' ∧ c = c' := by
  rcases h with ⟨h1, rfl, rfl⟩ | ⟨h1, rfl, rfl⟩ <;> rcases k with ⟨k1, rfl, rfl⟩ | ⟨k1, rfl, rfl⟩
  · exact ⟨rfl, rfl⟩
  · exact absurd k1 h1
  · exact absurd h1 k1
  · exact ⟨rfl, rfl⟩

end Go.Proofs.Ytlopenephgabhaa


namespace Go.Proofs.Ytlopenephgabhaa
open Go.RowKit Go.Shelf
attribute [local go_sem] Oper.semAt_some

theorem made_list (m : Nat) (z : Value) : (madeCells #[z] m).toList = List.replicate m z :=
  List.ext_getElem (by simp [size_madeCells]) (fun i h1 h2 => by simp [madeCells, Nat.mod_one])
theorem Gqv.cell {lo g n cap : Nat} {w : World} {vs : List Value} {t : List (List Int)} (h : Gqv lo w (.slice (some ⟨g, 0, none⟩) n cap) vs t) {j : Nat} (hj : j < vs.length) : w.cell? ⟨g, j, none⟩ = some vs[j] ∧ ∃ cs, w.heap[g]? = some (.cells cs 35 (0, 0)) := by
  have hl := h.len
  rcases h.own with ⟨hl2, h2⟩
  rcases h2 with ⟨h0, _⟩ | ⟨g', c', cur, hv, hlo, hh, hnc, hcm, hcs, htk⟩
  · cases h0
  injection hv with e1 e2 e3
  injection e1 with e1
  injection e1 with e1
  subst e1
  refine ⟨?_, _, hh⟩
  have h5 : (cur.toList.take (t.length * 1))[j]? = vs[j]? := by rw [htk]
  rw [List.getElem?_take, if_pos (by omega), List.getElem?_eq_getElem hj] at h5
  simp [World.cell?, hh]
  simpa using h5
theorem grown_off {A X : World} {lo : Nat} {v : Value} {xs : List Int} (hr : Gb lo A v xs) (hg : A.grownBy X v.ownBlock) {k : Nat} {cs : Array Value} {ty : TypeId} (hk : A.heap[k]? = some (.cells cs ty (0, 0))) (ht : ty ≠ 2) : X.heap[k]? = A.heap[k]? := by
  refine hg.block k (Array.getElem?_eq_some_iff.1 hk).1 (fun e => ?_)
  rcases hr.2 with ⟨h0, _⟩ | ⟨g, c', cur, hu, _, hh, _⟩
  · rw [h0] at e; simp [Value.ownBlock] at e
  · rw [hu] at e
    simp [Value.ownBlock] at e
    subst e
    rw [hh] at hk
    injection hk with hk
    injection hk with _ h2
    exact ht h2.symm

end Go.Proofs.Ytlopenephgabhaa


namespace Go.Proofs.Ytlopenephgabhaa
open Go.RowKit

/-- The cells of the degree n in the columns below m. -/
def dgp (ds : List (List Int)) (n m : Nat) : List (Nat × Nat) := (cellsTo ds m).filter fun c => c.1 + c.2 == n
theorem dgp_zero (ds : List (List Int)) (n : Nat) : dgp ds n 0 = [] := rfl
theorem row_filter (m n : Nat) : ∀ L : Nat, ((List.range L).map fun j => (m, j)).filter (fun c : Nat × Nat => c.1 + c.2 == n) = if m ≤ n ∧ n - m < L then [(m, n - m)] else []
  | 0 => by simp
  | L + 1 => by
    rw [List.range_succ, List.map_append, List.filter_append, row_filter m n L]
    by_cases h : m + L = n
    · have e : n - m = L := by omega
      rw [if_neg (by omega), if_pos (by omega), e]
      simp [h]
    · have e : ([L].map fun j => (m, j)).filter (fun c : Nat × Nat => c.1 + c.2 == n) = [] := by simp [h]
      rw [e, List.append_nil]
      by_cases h2 : m ≤ n ∧ n - m < L
      · rw [if_pos h2, if_pos (by omega)]
      · rw [if_neg h2, if_neg (by omega)]
theorem dgp_succ (ds : List (List Int)) (n m : Nat) : dgp ds n (m + 1) = dgp ds n m ++ if m ≤ n ∧ n - m < (ds.getD m []).length then [(m, n - m)] else [] := by
  unfold dgp
  rw [cellsTo_succ, List.filter_append]
  congr 1
  exact row_filter m n _
theorem dgp_stay {ds : List (List Int)} {n m : Nat} (h : n < m ∨ ds.length ≤ m) : dgp ds n (m + 1) = dgp ds n m := by
  rw [dgp_succ, if_neg, List.append_nil]
  rintro ⟨h1, h2⟩
  rcases h with h | h
  · omega
  · have : ds.getD m [] = [] := by simp [List.getD_eq_getElem?_getD, h]
    rw [this] at h2
    exact absurd h2 (Nat.not_lt_zero _)
theorem dgp_more {ds : List (List Int)} {n m : Nat} (h : n < m ∨ ds.length ≤ m) : ∀ k, dgp ds n (m + k) = dgp ds n m
  | 0 => rfl
  | k + 1 => by
    rw [← Nat.add_assoc, dgp_stay (by omega), dgp_more h k]
theorem dgp_all (ds : List (List Int)) (n : Nat) : dgp ds n (n + 1) = dgn ds n := by
  show _ = dgp ds n ds.length
  rw [← dgp_more (Or.inl (Nat.lt_succ_self n)) ds.length, Nat.add_comm, dgp_more (Or.inr (Nat.le_refl _))]
theorem dgp_yes {ds : List (List Int)} {n m : Nat} (h : m ≤ n) (h2 : n - m < (ds.getD m []).length) : dgp ds n (m + 1) = dgp ds n m ++ [(m, n - m)] := by rw [dgp_succ, if_pos ⟨h, h2⟩]
theorem dgp_no {ds : List (List Int)} {n m : Nat} (h2 : ¬ n - m < (ds.getD m []).length) : dgp ds n (m + 1) = dgp ds n m := by rw [dgp_succ, if_neg (fun h => h2 h.2), List.append_nil]

/-- A row of the total, up to the column m. -/
def trp (ds : List (List Int)) (ac dn : List (List (List (List Int)))) (q : Nat) (f : Nat × Nat) (r m : Nat) : List Int := (dgp ds q m).flatMap (prt ds ac dn f r)
theorem trp_yes {ds : List (List Int)} {ac dn : List (List (List (List Int)))} {q m : Nat} (f : Nat × Nat) (r : Nat) (h : m ≤ q) (h2 : q - m < (ds.getD m []).length) : trp ds ac dn q f r (m + 1) = trp ds ac dn q f r m ++ prt ds ac dn f r (m, q - m) := by
  unfold trp
  rw [dgp_yes h h2, List.flatMap_append]
  simp
theorem trp_no {ds : List (List Int)} {ac dn : List (List (List (List Int)))} {q m : Nat} (f : Nat × Nat) (r : Nat) (h2 : ¬ q - m < (ds.getD m []).length) : trp ds ac dn q f r (m + 1) = trp ds ac dn q f r m := by
  unfold trp
  rw [dgp_no h2]
theorem trp_all (ds : List (List Int)) (ac dn : List (List (List (List Int)))) (q : Nat) (f : Nat × Nat) (r : Nat) : trp ds ac dn q f r (q + 1) = trow ds ac dn q f r := by unfold trp trow; rw [dgp_all]
/-- The rows of the degree n, up to the column m, then k of the next cell. -/
def rwp (ds : List (List Int)) (ac dn : List (List (List (List Int)))) (n m : Nat) : List (List Int) := (dgp ds n m).flatMap fun f => (List.range (cdim ds f)).map fun r => trp ds ac dn (n - 1) f r n
def rwk (ds : List (List Int)) (ac dn : List (List (List (List Int)))) (n m k : Nat) : List (List Int) := rwp ds ac dn n m ++ (List.range k).map fun r => trp ds ac dn (n - 1) (m, n - m) r n
theorem rwk_zero (ds : List (List Int)) (ac dn : List (List (List (List Int)))) (n m : Nat) : rwk ds ac dn n m 0 = rwp ds ac dn n m := by simp [rwk]
theorem rwk_succ (ds : List (List Int)) (ac dn : List (List (List (List Int)))) (n m k : Nat) : rwk ds ac dn n m (k + 1) = rwk ds ac dn n m k ++ [trp ds ac dn (n - 1) (m, n - m) k n] := by
  unfold rwk
  rw [List.range_succ, List.map_append, List.append_assoc]
  rfl
theorem rwk_all {ds : List (List Int)} {ac dn : List (List (List (List Int)))} {n m : Nat} (h : m ≤ n) (h2 : n - m < (ds.getD m []).length) : rwk ds ac dn n m (cdim ds (m, n - m)) = rwp ds ac dn n (m + 1) := by
  unfold rwk rwp
  rw [dgp_yes h h2, List.flatMap_append]
  simp
theorem rwp_no {ds : List (List Int)} {ac dn : List (List (List (List Int)))} {n m : Nat} (h2 : ¬ n - m < (ds.getD m []).length) : rwp ds ac dn n (m + 1) = rwp ds ac dn n m := by
  unfold rwp
  rw [dgp_no h2]
theorem rwp_all (ds : List (List Int)) (ac dn : List (List (List (List Int)))) (n : Nat) : rwp ds ac dn (n + 1) (n + 1 + 1) = ttab ds ac dn n := by
  unfold rwp ttab
  rw [dgp_all]
  simp only [Nat.add_sub_cancel, trp_all]
/-- The levels of the degree n, up to the column m; and k more. -/
def lvl (b : Bool) (c : Nat × Nat) : Int := if b then (c.2 : Int) else (c.1 : Int)
def lvp (ds : List (List Int)) (b : Bool) (n m : Nat) : List Int := (dgp ds n m).flatMap fun f => List.replicate (cdim ds f) (lvl b f)
def lvk (ds : List (List Int)) (b : Bool) (n m k : Nat) : List Int := lvp ds b n m ++ List.replicate k (lvl b (m, n - m))
theorem lvk_zero (ds : List (List Int)) (b : Bool) (n m : Nat) : lvk ds b n m 0 = lvp ds b n m := by simp [lvk]
theorem lvk_succ (ds : List (List Int)) (b : Bool) (n m k : Nat) : lvk ds b n m (k + 1) = lvk ds b n m k ++ [lvl b (m, n - m)] := by
  unfold lvk
  rw [List.replicate_succ', List.append_assoc]
theorem lvk_all {ds : List (List Int)} {b : Bool} {n m : Nat} (h : m ≤ n) (h2 : n - m < (ds.getD m []).length) : lvk ds b n m (cdim ds (m, n - m)) = lvp ds b n (m + 1) := by
  unfold lvk lvp
  rw [dgp_yes h h2, List.flatMap_append]
  simp
theorem lvp_no {ds : List (List Int)} {b : Bool} {n m : Nat} (h2 : ¬ n - m < (ds.getD m []).length) : lvp ds b n (m + 1) = lvp ds b n m := by
  unfold lvp
  rw [dgp_no h2]
/-- The levels of the basis vectors of the total of the degree n. -/
def lvt (ds : List (List Int)) (b : Bool) (n : Nat) : List Int := (dgn ds n).flatMap fun f => List.replicate (cdim ds f) (lvl b f)
theorem lvp_all (ds : List (List Int)) (b : Bool) (n : Nat) : lvp ds b n (n + 1) = lvt ds b n := by unfold lvp lvt; rw [dgp_all]
theorem lvt_len (ds : List (List Int)) (b : Bool) (n : Nat) : (lvt ds b n).length = tdim ds n := by
  unfold lvt tdim
  rw [List.length_flatMap]
  simp
end Go.Proofs.Ytlopenephgabhaa


namespace Go.Proofs.Ytlopenephgabhaa
open Go.RowKit

/-- The dimension of a cell, 0 beyond all cells. -/
def dco (ds : List (List Int)) (i j : Int) : Int := if 0 ≤ i ∧ i < ds.length ∧ 0 ≤ j ∧ j < (ds.getD 0 []).length then (ds.getD i.toNat []).getD j.toNat 0 else 0

set_option maxRecDepth 100000 in
set_option maxHeartbeats 4000000 in
theorem l03Dim_any (p i j : Int) (dv av vv : Value) (ds : List (List Int)) (w : World) (h : L2 0 w dv ds) (hok : DclOk ds) (hi : -1000 ≤ i ∧ i ≤ 1000) (hj : -1000 ≤ j ∧ j ≤ 1000) :
    Calls Try.prog 90 #[.agg #[.int .i64 p, dv, av, vv], .int .i64 i, .int .i64 j] w fun e w' => e = .returned (.int .i64 (dco ds i j)) ∧ Below w.heap.size w w' := by
  have HOK := Lib.hid hok
  have hm4 := hok.len1
  have hm1 := hok.len0
  have hq1 := hok.h0
  have hq4 := hok.h1
  clear hok
  rcases h with ⟨hx, _⟩ | ⟨bb, o, cd, rfl, _, hpos, hc⟩
  · subst hx; simp at hm1
  obtain ⟨u0, hu0, hr0⟩ := hc 0 hpos
  rw [Nat.add_zero] at hu0
  obtain ⟨a0, z0, rfl⟩ := Sl.shape hr0
  rw [← getD_of_lt [] hpos] at hu0
  have HC := Lib.hid hc
  clear hc hr0
  obtain ⟨m, hm⟩ : ∃ m, m = ds.length := ⟨_, rfl⟩
  obtain ⟨q, hq⟩ : ∃ q, q = (ds.getD 0 []).length := ⟨_, rfl⟩
  have HM := Lib.hid hm
  have HQ := Lib.hid hq
  rw [← hm] at hm4 hm1 hpos ⊢
  rw [← hq] at hq1 hq4 hu0
  clear hm hq
  have hB : Below w.heap.size w (w.alloc (.cells #[.int .i64 p, .slice (some ⟨bb, o, none⟩) m cd, av, vv] 28)) := (Below.refl _ _).alloc (Nat.le_refl _) _
  have hu0' := later hB (Nat.le_refl _) hu0
  have HBL := Lib.hid hB
  clear hu0
  by_cases h1 : 0 ≤ i ∧ i ≤ (m : Int) - 1
  · have HI1 : Hid (∀ W, Calls Try.prog 54 #[.int .i64 i, .int .i64 0, .int .i64 ((m : Int) - 1)] W (QW (.bool true) W)) := Lib.hid (fun W => spin_yes h1 W)
    by_cases h2 : 0 ≤ j ∧ j ≤ (q : Int) - 1
    · have HI2 : Hid (∀ W, Calls Try.prog 54 #[.int .i64 j, .int .i64 0, .int .i64 ((q : Int) - 1)] W (QW (.bool true) W)) := Lib.hid (fun W => spin_yes h2 W)
      have HV : Hid (dco ds i j = (ds.getD i.toNat []).getD j.toNat 0) := Lib.hid (if_pos ⟨h1.1, by have := HM.out; omega, h2.1, by have := HQ.out; omega⟩)
      rw [HV.out]
      obtain ⟨a, rfl⟩ := Int.eq_ofNat_of_zero_le h1.1
      obtain ⟨b, rfl⟩ := Int.eq_ofNat_of_zero_le h2.1
      simp only [Int.toNat_natCast]
      have ha : a < ds.length := by have := HM.out; omega
      have ham : a < m := by omega
      obtain ⟨u, hu, hr⟩ := HC.out a ha
      have hcol : (ds[a]).length = q := by rw [HQ.out]; exact (HOK.out.col _ (List.getElem_mem ha)).1
      have hb' : b < (ds[a]).length := by omega
      rw [getD_of_lt _ ha]
      rcases hr with ⟨hx, _⟩ | ⟨b2, o2, cd2, rfl, _, hpos2, hc2⟩
      · rw [hx] at hb'; simp at hb'
      obtain ⟨u2, hu2, hr2⟩ := hc2 b hb'
      have hr2' : u2 = .int .i64 ((ds[a])[b]) := hr2
      subst hr2'
      rw [getD_of_lt _ hb']
      obtain ⟨z, hz⟩ : ∃ z, z = (ds[a])[b] := ⟨_, rfl⟩
      rw [← hz] at hu2 ⊢
      rw [hcol] at hu
      have hbq : b < q := by omega
      have hu' := later HBL.out (Nat.le_refl _) hu
      have hu2' := later HBL.out (Nat.le_refl _) hu2
      clear hz hc2 hr2 hpos2 hcol ha hb' hu hu2 hi hj hB
      go_enter Try.func90, Try.ntmps90
      go_wp2_with fail
      refine (HI1.out _).mono ?_
      rintro e w' ⟨rfl, rfl⟩
      go_wp2_with fail
      refine (HI2.out _).mono ?_
      rintro e w' ⟨rfl, rfl⟩
      clear h1 h2
      go_wp2
      go_ret
      exact ⟨rfl, HBL.out⟩
    · have HI2 : Hid (∀ W, Calls Try.prog 54 #[.int .i64 j, .int .i64 0, .int .i64 ((q : Int) - 1)] W (QW (.bool false) W)) := Lib.hid (fun W => spin_no h2 W)
      have HV : Hid (dco ds i j = 0) := Lib.hid (if_neg (fun h => h2 ⟨h.2.2.1, by have := HQ.out; omega⟩))
      rw [HV.out]
      clear hi hj hB
      go_enter Try.func90, Try.ntmps90
      go_wp2_with fail
      refine (HI1.out _).mono ?_
      rintro e w' ⟨rfl, rfl⟩
      go_wp2_with fail
      refine (HI2.out _).mono ?_
      rintro e w' ⟨rfl, rfl⟩
      go_wp2
      go_ret
      exact ⟨rfl, HBL.out⟩
  · have HI1 : Hid (∀ W, Calls Try.prog 54 #[.int .i64 i, .int .i64 0, .int .i64 ((m : Int) - 1)] W (QW (.bool false) W)) := Lib.hid (fun W => spin_no h1 W)
    have HV : Hid (dco ds i j = 0) := Lib.hid (if_neg (fun h => h1 ⟨h.1, by have := HM.out; omega⟩))
    rw [HV.out]
    clear hi hj hB
    go_enter Try.func90, Try.ntmps90
    go_wp2_with fail
    refine (HI1.out _).mono ?_
    rintro e w' ⟨rfl, rfl⟩
    go_wp2
    go_ret
    exact ⟨rfl, HBL.out⟩
end Go.Proofs.Ytlopenephgabhaa


namespace Go.Proofs.Ytlopenephgabhaa
open Go.RowKit

theorem l4_at {w : World} {av : Value} {ac : List (List (List (List Int)))} {i j : Nat} (h : L4 0 w av ac) (hi : i < ac.length) (hj : j < (ac[i]).length) :
    ∃ ba oa ca b2 o2 c2 u, av = .slice (some ⟨ba, oa, none⟩) ac.length ca ∧ w.cell? ⟨ba, oa + i, none⟩ = some (.slice (some ⟨b2, o2, none⟩) (ac[i]).length c2) ∧ w.cell? ⟨b2, o2 + j, none⟩ = some u ∧ L2 0 w u (ac[i])[j] := by
  rcases h with ⟨hx, _⟩ | ⟨ba, oa, ca, rfl, _, _, hcl⟩
  · exact absurd (hx ▸ hi) (Nat.not_lt_zero _)
  obtain ⟨u1, hu1, hr1⟩ := hcl i hi
  rcases hr1 with ⟨hx, _⟩ | ⟨b2, o2, c2, rfl, _, _, hcl2⟩
  · rw [hx] at hj; exact absurd hj (Nat.not_lt_zero _)
  obtain ⟨u2, hu2, hr2⟩ := hcl2 j hj
  exact ⟨ba, oa, ca, b2, o2, c2, u2, rfl, hu1, hu2, hr2⟩

set_option maxRecDepth 100000 in
set_option maxHeartbeats 4000000 in
theorem l03Step_out (b : Bool) (p i j : Int) (dv av vv va : Value) (ds : List (List Int)) (ac dn : List (List (List (List Int)))) (c : Nat) (w : World) (h : Dx 0 w dv av vv ds ac dn) (hok : DclOk ds) (hi : -1 ≤ i ∧ i ≤ 4) (hj : -1 ≤ j ∧ j ≤ 4)
    (hno : ¬ (0 ≤ i ∧ i < ds.length ∧ 0 ≤ j ∧ j < (ds.getD 0 []).length)) (hc : (if b = true then dco ds (i - 1) j else dco ds i (j - 1)) = (c : Int)) (hc4 : c ≤ 4) :
    Calls Try.prog 116 #[.agg #[.int .i64 p, dv, av, vv], .int .i64 i, .int .i64 j, va, .bool b] w fun e w' => ∃ u, e = .returned u ∧ L1 0 w' u (List.replicate c 0) ∧ Below w.heap.size w w' := by
  have hcel := hok
  have HOK := Lib.hid hok
  have hm4 := hok.len1
  have hm1 := hok.len0
  have hq1 := hok.h0
  have hq4 := hok.h1
  clear hok hcel
  have HX := Lib.hid h
  rcases h.dims with ⟨hx, _⟩ | ⟨bb, o, cd, rfl, _, hpos, hcl⟩
  · subst hx; simp at hm1
  obtain ⟨u0, hu0, hr0⟩ := hcl 0 hpos
  rw [Nat.add_zero] at hu0
  obtain ⟨a0, z0, rfl⟩ := Sl.shape hr0
  rw [← getD_of_lt [] hpos] at hu0
  clear hcl hr0 h
  obtain ⟨m, hm⟩ : ∃ m, m = ds.length := ⟨_, rfl⟩
  obtain ⟨q, hq⟩ : ∃ q, q = (ds.getD 0 []).length := ⟨_, rfl⟩
  have hx0 := DBx.start (p := p) 28 HX.out
  rw [← hm] at hm4 hm1 hpos hx0 ⊢
  rw [← hq] at hq1 hq4 hu0
  have hB : Below w.heap.size w (w.alloc (.cells #[.int .i64 p, .slice (some ⟨bb, o, none⟩) m cd, av, vv] 28)) := (Below.refl _ _).alloc (Nat.le_refl _) _
  have hu1 := later hB (Nat.le_refl _) hu0
  clear hB hu0
  obtain ⟨w1, hw1⟩ : ∃ w1, w1 = w.alloc (.cells #[.int .i64 p, .slice (some ⟨bb, o, none⟩) m cd, av, vv] 28) := ⟨_, rfl⟩
  rw [← hw1] at hx0 hu1
  have HM := Lib.hid hm
  have HQ := Lib.hid hq
  have HX1 := Lib.hid hx0
  have HU1 := Lib.hid hu1
  have HNX : Hid (∀ W, Below w1.heap.size w1 W → DBx w W w.heap.size p (.slice (some ⟨bb, o, none⟩) m cd) av vv ds ac dn ∧ W.cell? ⟨bb, o, none⟩ = some (.slice a0 q z0)) := Lib.hid (fun W hb => ⟨HX1.out.next hb, later hb (Nat.le_refl _) HU1.out⟩)
  have HDIM : Hid (∀ W, Below w1.heap.size w1 W → ∀ a e : Int, -1000 ≤ a ∧ a ≤ 1000 → -1000 ≤ e ∧ e ≤ 1000 → Calls Try.prog 90 #[.agg #[.int .i64 p, .slice (some ⟨bb, o, none⟩) m cd, av, vv], .int .i64 a, .int .i64 e] W fun r w' => r = .returned (.int .i64 (dco ds a e)) ∧ Below w1.heap.size w1 w') := Lib.hid (fun W hb a e ha he => by
    have h0 := (HNX.out W hb).1.dx.dims
    rw [HM.out] at h0 ⊢
    exact (l03Dim_any p a e _ av vv ds W h0 HOK.out ha he).mono fun _ _ hh => ⟨hh.1, hb.trans (hh.2.mono hb.size)⟩)
  have c0 := hx0.c0
  have c1 := hx0.c1
  have c2 := hx0.c2
  have c3 := hx0.c3
  have wj : IntKind.i64.wrap (j - 1) = j - 1 := IntWalk.i64_in _ (by omega)
  have wi : IntKind.i64.wrap (i - 1) = i - 1 := IntWalk.i64_in _ (by omega)
  have wm : IntKind.i64.wrap ((m : Int) - 1) = (m : Int) - 1 := IntWalk.i64_in _ (by omega)
  have wq : IntKind.i64.wrap ((q : Int) - 1) = (q : Int) - 1 := IntWalk.i64_in _ (by omega)
  clear hm hq hx0 hu1
  cases b
  · have hce : dco ds i (j - 1) = (c : Int) := by simpa using hc
    have hmk := run_make_row' (P := Try.prog) 35 2 (.int .i64 0) 8 Try.underlying35 Try.infoI rfl .i64 .i64 c (by omega) (by omega)
    have HEND : Hid (∀ W, Below w1.heap.size w1 W → ∃ u, Ending.returned (Value.slice (some ⟨W.heap.size, 0, none⟩) c c) = .returned u ∧ L1 0 (W.alloc (.cells (madeCells #[.int .i64 0] c) 2)) u (List.replicate c 0) ∧ Below w.heap.size w (W.alloc (.cells (madeCells #[.int .i64 0] c) 2))) := Lib.hid (fun W hb => ⟨_, rfl, l1_zeros _ _, (HX1.out.below.trans (hb.mono HX1.out.below.size)).alloc (by have := HX1.out.below.size; have := hb.size; omega) _⟩)
    go_enter Try.func116, Try.ntmps116
    go_wp2_with fail
    rw [← hw1]
    refine (HDIM.out w1 (Below.refl _ _) i (j - 1) (by omega) (by omega)).mono ?_
    rintro r W1 ⟨rfl, hb1⟩
    obtain ⟨W2, hW2⟩ : ∃ W2, W2 = W1 := ⟨_, rfl⟩
    rw [← hW2] at hb1 ⊢
    clear c0 c1 c2 c3 hW2 hw1
    have hb2 := hb1
    clear hb1
    have HB2 := Lib.hid hb2
    have hnx2 := HNX.out W2 hb2
    have c0 := hnx2.1.c0
    have c1 := hnx2.1.c1
    have c2 := hnx2.1.c2
    have c3 := hnx2.1.c3
    have hu2 := hnx2.2
    clear hb2 hnx2
    rw [hce]
    clear hce
    by_cases h1 : 0 ≤ i ∧ i ≤ (m : Int) - 1
    · have h2 : ¬ (0 ≤ j ∧ j ≤ (q : Int) - 1) := fun h => hno ⟨h1.1, by have := HM.out; omega, h.1, by have := HQ.out; omega⟩
      have I1 : Hid (∀ W, Calls Try.prog 54 #[.int .i64 i, .int .i64 0, .int .i64 ((m : Int) - 1)] W (QW (.bool true) W)) := Lib.hid (fun W => spin_yes h1 W)
      have I2 : Hid (∀ W, Calls Try.prog 54 #[.int .i64 j, .int .i64 0, .int .i64 ((q : Int) - 1)] W (QW (.bool false) W)) := Lib.hid (fun W => spin_no h2 W)
      clear h1 h2
      go_wp2_with fail
      refine (I1.out _).mono ?_
      rintro e w' ⟨rfl, rfl⟩
      go_wp2_with fail
      refine (I2.out _).mono ?_
      rintro e w' ⟨rfl, rfl⟩
      go_wp2
      go_ret
      exact HEND.out _ HB2.out
    · have I1 : Hid (∀ W, Calls Try.prog 54 #[.int .i64 i, .int .i64 0, .int .i64 ((m : Int) - 1)] W (QW (.bool false) W)) := Lib.hid (fun W => spin_no h1 W)
      clear h1
      go_wp2_with fail
      refine (I1.out _).mono ?_
      rintro e w' ⟨rfl, rfl⟩
      go_wp2
      go_ret
      exact HEND.out _ HB2.out
  · have hce : dco ds (i - 1) j = (c : Int) := by simpa using hc
    have hmk := run_make_row' (P := Try.prog) 35 2 (.int .i64 0) 8 Try.underlying35 Try.infoI rfl .i64 .i64 c (by omega) (by omega)
    have HEND : Hid (∀ W, Below w1.heap.size w1 W → ∃ u, Ending.returned (Value.slice (some ⟨W.heap.size, 0, none⟩) c c) = .returned u ∧ L1 0 (W.alloc (.cells (madeCells #[.int .i64 0] c) 2)) u (List.replicate c 0) ∧ Below w.heap.size w (W.alloc (.cells (madeCells #[.int .i64 0] c) 2))) := Lib.hid (fun W hb => ⟨_, rfl, l1_zeros _ _, (HX1.out.below.trans (hb.mono HX1.out.below.size)).alloc (by have := HX1.out.below.size; have := hb.size; omega) _⟩)
    go_enter Try.func116, Try.ntmps116
    go_wp2_with fail
    rw [← hw1]
    refine (HDIM.out w1 (Below.refl _ _) i (j - 1) (by omega) (by omega)).mono ?_
    rintro r W1 ⟨rfl, hb1⟩
    clear c0 c1 c2 c3 hw1
    have HB1 := Lib.hid hb1
    have hnx1 := HNX.out W1 hb1
    have c0 := hnx1.1.c0
    have c1 := hnx1.1.c1
    have c2 := hnx1.1.c2
    have c3 := hnx1.1.c3
    have hu1 := hnx1.2
    clear hb1 hnx1
    go_wp2_with fail
    refine (HDIM.out W1 HB1.out (i - 1) j (by omega) (by omega)).mono ?_
    rintro r W2 ⟨rfl, hb2⟩
    clear c0 c1 c2 c3 hu1
    have HB2 := Lib.hid hb2
    have hnx2 := HNX.out W2 hb2
    have c0 := hnx2.1.c0
    have c1 := hnx2.1.c1
    have c2 := hnx2.1.c2
    have c3 := hnx2.1.c3
    have hu2 := hnx2.2
    clear hb2 hnx2
    rw [hce]
    clear hce
    by_cases h1 : 0 ≤ i ∧ i ≤ (m : Int) - 1
    · have h2 : ¬ (0 ≤ j ∧ j ≤ (q : Int) - 1) := fun h => hno ⟨h1.1, by have := HM.out; omega, h.1, by have := HQ.out; omega⟩
      have I1 : Hid (∀ W, Calls Try.prog 54 #[.int .i64 i, .int .i64 0, .int .i64 ((m : Int) - 1)] W (QW (.bool true) W)) := Lib.hid (fun W => spin_yes h1 W)
      have I2 : Hid (∀ W, Calls Try.prog 54 #[.int .i64 j, .int .i64 0, .int .i64 ((q : Int) - 1)] W (QW (.bool false) W)) := Lib.hid (fun W => spin_no h2 W)
      clear h1 h2
      go_wp2_with fail
      refine (I1.out _).mono ?_
      rintro e w' ⟨rfl, rfl⟩
      go_wp2_with fail
      refine (I2.out _).mono ?_
      rintro e w' ⟨rfl, rfl⟩
      go_wp2
      go_ret
      exact HEND.out _ HB2.out
    · have I1 : Hid (∀ W, Calls Try.prog 54 #[.int .i64 i, .int .i64 0, .int .i64 ((m : Int) - 1)] W (QW (.bool false) W)) := Lib.hid (fun W => spin_no h1 W)
      clear h1
      go_wp2_with fail
      refine (I1.out _).mono ?_
      rintro e w' ⟨rfl, rfl⟩
      go_wp2
      go_ret
      exact HEND.out _ HB2.out

set_option maxRecDepth 100000 in
set_option maxHeartbeats 4000000 in
theorem l03Step_in (b : Bool) (p i j : Int) (dv av vv va : Value) (ds : List (List Int)) (ac dn : List (List (List (List Int)))) (c : Nat) (v : List Int) (w : World) (h : Dx 0 w dv av vv ds ac dn) (hok : DclOk ds) (htb : TbsOk p ds ac dn) (hv : L1 0 w va v) (hv40 : v.length ≤ 40)
    (hin : 0 ≤ i ∧ i < ds.length ∧ 0 ≤ j ∧ j < (ds.getD 0 []).length) (hc : (if b = true then dco ds (i - 1) j else dco ds i (j - 1)) = (c : Int)) (hc4 : c ≤ 4) (hap : ApOk p c v (tbl (if b = true then ac else dn) (i.toNat, j.toNat))) :
    Calls Try.prog 116 #[.agg #[.int .i64 p, dv, av, vv], .int .i64 i, .int .i64 j, va, .bool b] w fun e w' => ∃ u, e = .returned u ∧ L1 0 w' u (apT p c v (tbl (if b = true then ac else dn) (i.toNat, j.toNat))) ∧ Below w.heap.size w w' := by
  have HAP := Lib.hid hap
  have HV1 := Lib.hid hv
  have HTB := Lib.hid htb
  have hi4 : i ≤ 4 := by have := hok.len1; omega
  have hj4 : j ≤ 4 := by have := hok.h1; omega
  obtain ⟨av0, vc0, hvs⟩ := Sl.shape hv
  obtain ⟨vn, hvn⟩ : ∃ n, n = v.length := ⟨_, rfl⟩
  rw [← hvn] at hvs
  clear hap hv htb hvn
  have hcel := hok
  have HOK := Lib.hid hok
  have hm4 := hok.len1
  have hm1 := hok.len0
  have hq1 := hok.h0
  have hq4 := hok.h1
  clear hok hcel
  have HX := Lib.hid h
  rcases h.dims with ⟨hx, _⟩ | ⟨bb, o, cd, rfl, _, hpos, hcl⟩
  · subst hx; simp at hm1
  obtain ⟨u0, hu0, hr0⟩ := hcl 0 hpos
  rw [Nat.add_zero] at hu0
  obtain ⟨a0, z0, rfl⟩ := Sl.shape hr0
  rw [← getD_of_lt [] hpos] at hu0
  clear hcl hr0 h
  obtain ⟨m, hm⟩ : ∃ m, m = ds.length := ⟨_, rfl⟩
  obtain ⟨q, hq⟩ : ∃ q, q = (ds.getD 0 []).length := ⟨_, rfl⟩
  have hx0 := DBx.start (p := p) 28 HX.out
  rw [← hm] at hm4 hm1 hpos hx0 ⊢
  rw [← hq] at hq1 hq4 hu0
  have hB : Below w.heap.size w (w.alloc (.cells #[.int .i64 p, .slice (some ⟨bb, o, none⟩) m cd, av, vv] 28)) := (Below.refl _ _).alloc (Nat.le_refl _) _
  have hu1 := later hB (Nat.le_refl _) hu0
  clear hB hu0
  obtain ⟨w1, hw1⟩ : ∃ w1, w1 = w.alloc (.cells #[.int .i64 p, .slice (some ⟨bb, o, none⟩) m cd, av, vv] 28) := ⟨_, rfl⟩
  rw [← hw1] at hx0 hu1
  have HM := Lib.hid hm
  have HQ := Lib.hid hq
  have HX1 := Lib.hid hx0
  have HU1 := Lib.hid hu1
  have HNX : Hid (∀ W, Below w1.heap.size w1 W → DBx w W w.heap.size p (.slice (some ⟨bb, o, none⟩) m cd) av vv ds ac dn ∧ W.cell? ⟨bb, o, none⟩ = some (.slice a0 q z0)) := Lib.hid (fun W hb => ⟨HX1.out.next hb, later hb (Nat.le_refl _) HU1.out⟩)
  have HDIM : Hid (∀ W, Below w1.heap.size w1 W → ∀ a e : Int, -1000 ≤ a ∧ a ≤ 1000 → -1000 ≤ e ∧ e ≤ 1000 → Calls Try.prog 90 #[.agg #[.int .i64 p, .slice (some ⟨bb, o, none⟩) m cd, av, vv], .int .i64 a, .int .i64 e] W fun r w' => r = .returned (.int .i64 (dco ds a e)) ∧ Below w1.heap.size w1 w') := Lib.hid (fun W hb a e ha he => by
    have h0 := (HNX.out W hb).1.dx.dims
    rw [HM.out] at h0 ⊢
    exact (l03Dim_any p a e _ av vv ds W h0 HOK.out ha he).mono fun _ _ hh => ⟨hh.1, hb.trans (hh.2.mono hb.size)⟩)
  have c0 := hx0.c0
  have c1 := hx0.c1
  have c2 := hx0.c2
  have c3 := hx0.c3
  have wj : IntKind.i64.wrap (j - 1) = j - 1 := IntWalk.i64_in _ (by omega)
  have wi : IntKind.i64.wrap (i - 1) = i - 1 := IntWalk.i64_in _ (by omega)
  have wm : IntKind.i64.wrap ((m : Int) - 1) = (m : Int) - 1 := IntWalk.i64_in _ (by omega)
  have wq : IntKind.i64.wrap ((q : Int) - 1) = (q : Int) - 1 := IntWalk.i64_in _ (by omega)
  clear hm hq hx0 hu1
  cases b
  · simp only [Bool.false_eq_true, if_false]
    subst hvs
    have hce : dco ds i (j - 1) = (c : Int) := by simpa using hc
    obtain ⟨i, rfl⟩ : ∃ a : Nat, i = (a : Int) := ⟨i.toNat, by omega⟩
    obtain ⟨j, rfl⟩ : ∃ a : Nat, j = (a : Int) := ⟨j.toNat, by omega⟩
    have himn : i < m := by have := HM.out; omega
    have hjqn : j < q := by have := HQ.out; omega
    have hia : i < dn.length := by rw [HTB.out.ld, ← HM.out]; exact himn
    have hja : j < (dn[i]).length := by have h1 := HTB.out.cd i (by rw [← HM.out]; exact himn); rw [getD_of_lt _ hia, getD_of_lt _ (show i < ds.length by rw [← HM.out]; exact himn), (HOK.out.col _ (List.getElem_mem _)).1, ← HQ.out] at h1; omega
    obtain ⟨ba, oa, ca, b2, o2, k2, ut, hva, hA1, hA2, hTl⟩ := l4_at HX1.out.dx.down hia hja
    subst hva
    have hTt : (dn[i])[j] = tbl dn (i, j) := by unfold tbl; dsimp only; rw [getD_of_lt _ hia, getD_of_lt _ hja]
    rw [hTt] at hTl
    obtain ⟨n1, hn1⟩ : ∃ n, n = dn.length := ⟨_, rfl⟩
    obtain ⟨n2, hn2⟩ : ∃ n, n = (dn[i]).length := ⟨_, rfl⟩
    rw [← hn1] at HX1 HNX HDIM c3 hw1 ⊢
    rw [← hn2] at hA1
    have hi1 : i < n1 := by omega
    have hj2 : j < n2 := by omega
    have HA1 := Lib.hid hA1
    have HA2 := Lib.hid hA2
    have HTL := Lib.hid hTl
    clear hn1 hn2 hA1 hA2 hTl hTt hia hja
    obtain ⟨ta, tc, hut⟩ := Sl.shape HTL.out
    obtain ⟨n3, hn3⟩ : ∃ n, n = (tbl dn (i, j)).length := ⟨_, rfl⟩
    rw [← hn3] at hut
    subst hut
    clear hn3
    have HAP2 : Hid (ApOk p c v (tbl dn (i, j))) := Lib.hid (by simpa using HAP.out)
    have hi0 : (0 : Int) ≤ (i : Int) := by omega
    have hj0 : (0 : Int) ≤ (j : Int) := by omega
    go_enter Try.func116, Try.ntmps116
    go_wp2_with fail
    rw [← hw1]
    refine (HDIM.out w1 (Below.refl _ _) i (j - 1) (by omega) (by omega)).mono ?_
    rintro r W1 ⟨rfl, hb1⟩
    obtain ⟨W2, hW2⟩ : ∃ W2, W2 = W1 := ⟨_, rfl⟩
    rw [← hW2] at hb1 ⊢
    clear c0 c1 c2 c3 hW2 hw1
    have hb2 := hb1
    clear hb1
    have HB2 := Lib.hid hb2
    have hnx2 := HNX.out W2 hb2
    have c0 := hnx2.1.c0
    have c1 := hnx2.1.c1
    have c2 := hnx2.1.c2
    have c3 := hnx2.1.c3
    have hu2 := hnx2.2
    clear hb2 hnx2
    rw [hce]
    clear hce
    have I1 : Hid (∀ W, Calls Try.prog 54 #[.int .i64 (i : Int), .int .i64 0, .int .i64 ((m : Int) - 1)] W (QW (.bool true) W)) := Lib.hid (fun W => spin_yes ⟨by omega, by omega⟩ W)
    have I2 : Hid (∀ W, Calls Try.prog 54 #[.int .i64 (j : Int), .int .i64 0, .int .i64 ((q : Int) - 1)] W (QW (.bool true) W)) := Lib.hid (fun W => spin_yes ⟨by omega, by omega⟩ W)
    go_wp2_with fail
    refine (I1.out _).mono ?_
    rintro e w' ⟨rfl, rfl⟩
    go_wp2_with fail
    refine (I2.out _).mono ?_
    rintro e w' ⟨rfl, rfl⟩
    go_upto_region 8 with fail
    refine wp_region_held (S := fun W => Below w1.heap.size w1 W) (by kernel_rfl) ?_
    have S0 : Below w1.heap.size w1 W2.drew := HB2.out.drew
    change wpAnyH _ _ _ _ _ _ _ _ W2.drew
    obtain ⟨wd, hwd⟩ : ∃ wd, wd = W2.drew := ⟨_, rfl⟩
    rw [← hwd] at S0 ⊢
    clear hwd
    refine held_take (i := 0) (v := .pointer (some ⟨w.heap.size, 0, none⟩)) (some 57) rfl rfl (by kernel_rfl) (by kernel_rfl) (by kernel_rfl) (fun _ _ _ h => h) (yieldsIf_run (by kernel_rfl) (fun W _ => by kernel_rfl)) S0 ?_
    refine held_take (i := 1) (v := .int .i64 p) (some 58) rfl rfl (by kernel_rfl) (by kernel_rfl) (by kernel_rfl) (fun _ _ _ h => h) (yieldsIf_cell (by kernel_rfl) rfl (by kernel_rfl) (fun W h => hloadIn W (HNX.out W h).1.c0)) S0 ?_
    refine held_take (i := 2) (v := .pointer (some ⟨w.heap.size, 3, none⟩)) (some 59) rfl rfl (by kernel_rfl) (by kernel_rfl) (by kernel_rfl) (fun _ _ _ h => h) (yieldsIf_run (by kernel_rfl) (fun W _ => by kernel_rfl)) S0 ?_
    refine held_take (i := 3) (v := .slice (some ⟨ba, oa, none⟩) n1 ca) (some 60) rfl rfl (by kernel_rfl) (by kernel_rfl) (by kernel_rfl) (fun _ _ _ h => h) (yieldsIf_cell (by kernel_rfl) rfl (by kernel_rfl) (fun W h => hload4 W (HNX.out W h).1.c3)) S0 ?_
    refine held_take (i := 4) (v := .int .i64 (i : Int)) (some 61) rfl rfl (by kernel_rfl) (by kernel_rfl) (by kernel_rfl) (fun _ _ _ h => h) (yieldsIf_move (by kernel_rfl) rfl (by kernel_rfl)) S0 ?_
    refine held_take (i := 5) (v := .pointer (some ⟨ba, oa + i, none⟩)) (some 62) rfl rfl (by kernel_rfl) (by kernel_rfl) (by kernel_rfl) (fun _ _ _ h => h) (yieldsIf_index (by kernel_rfl) rfl (by kernel_rfl) (by kernel_rfl) (hidx4 (cap := ca) rfl hi1)) S0 ?_
    refine held_take (i := 6) (v := .slice (some ⟨b2, o2, none⟩) n2 k2) (some 63) rfl rfl (by kernel_rfl) (by kernel_rfl) (by kernel_rfl) (fun _ _ _ h => h) (yieldsIf_cell (by kernel_rfl) rfl (by kernel_rfl) (fun W h => hload3s W (later h (Nat.le_refl _) HA1.out))) S0 ?_
    refine held_take (i := 7) (v := .int .i64 (j : Int)) (some 64) rfl rfl (by kernel_rfl) (by kernel_rfl) (by kernel_rfl) (fun _ _ _ h => h) (yieldsIf_move (by kernel_rfl) rfl (by kernel_rfl)) S0 ?_
    refine held_take (i := 8) (v := .pointer (some ⟨b2, o2 + j, none⟩)) (some 65) rfl rfl (by kernel_rfl) (by kernel_rfl) (by kernel_rfl) (fun _ _ _ h => h) (yieldsIf_index (by kernel_rfl) rfl (by kernel_rfl) (by kernel_rfl) (hidx3 b2 o2 k2 hj2)) S0 ?_
    refine held_take (i := 9) (v := .slice ta n3 tc) (some 66) rfl rfl (by kernel_rfl) (by kernel_rfl) (by kernel_rfl) (fun _ _ _ h => h) (yieldsIf_cell (by kernel_rfl) rfl (by kernel_rfl) (fun W h => hload2s W (later h (Nat.le_refl _) HA2.out))) S0 ?_
    refine held_take (i := 10) (v := .slice av0 vn vc0) (some 67) rfl rfl (by kernel_rfl) (by kernel_rfl) (by kernel_rfl) (fun _ _ _ h => h) (yieldsIf_move (by kernel_rfl) rfl (by kernel_rfl)) S0 ?_
    refine held_take (i := 11) (v := .int .i64 (c : Int)) (some 68) rfl rfl (by kernel_rfl) (by kernel_rfl) (by kernel_rfl) (fun _ _ _ h => h) (yieldsIf_move (by kernel_rfl) rfl (by kernel_rfl)) S0 ?_
    have HAPP : Hid (∀ W, Below w1.heap.size w1 W → Calls Try.prog 109 #[.int .i64 p, .slice ta n3 tc, .slice av0 vn vc0, .int .i64 (c : Int)] W (ApR p c v (tbl dn (i, j)) W)) := Lib.hid (fun W hb => l01Apply_any p c _ _ v _ W HAP2.out (HV1.out.below (HX1.out.below.trans (hb.mono HX1.out.below.size))) (HTL.out.below hb) (by omega) (by omega))
    refine held_enter (i := 12) (some 69) (f := 109) (args := #[.int .i64 p, .slice ta n3 tc, .slice av0 vn vc0, .int .i64 (c : Int)]) (by kernel_rfl) rfl rfl rfl (by kernel_rfl) (HAPP.out _ S0) ?_ (fun c w' h => by obtain ⟨_, h, _⟩ := h; cases h) (fun w' h => by obtain ⟨_, h, _⟩ := h; cases h)
    rintro e3 W3 ⟨u3, he3, hl3, hb3⟩
    injection he3 with he3
    subst he3
    have S1 : Below w1.heap.size w1 W3 := S0.trans (hb3.mono S0.size)
    refine ⟨S1, ?_⟩
    obtain ⟨a3, k3, hu3'⟩ := Sl.shape hl3
    obtain ⟨n4, hn4⟩ : ∃ n, n = (apT p c v (tbl dn (i, j))).length := ⟨_, rfl⟩
    rw [← hn4] at hu3'
    subst hu3'
    clear hn4
    refine held_take (i := 13) (v := .slice a3 n4 k3) (some 10) rfl rfl (by kernel_rfl) (by kernel_rfl) (by kernel_rfl) (fun _ _ _ h => h) (yieldsIf_assign (by kernel_rfl) rfl (by kernel_rfl)) S1 ?_
    refine wpAnyH_done (by kernel_rfl) ?_ _
    simp only [Act.put, List.setIfInBounds_toArray, List.set_cons_zero, List.set_cons_succ]
    have HL3 : Hid (L1 0 W3 (.slice a3 n4 k3) (apT p c v (tbl dn (i, j)))) := Lib.hid (hl3.lower (Nat.zero_le _))
    have HS1 := Lib.hid S1
    clear S0 S1 hl3 hb3
    go_wp2
    go_ret
    exact ⟨_, rfl, HL3.out, HX1.out.below.trans (HS1.out.mono HX1.out.below.size)⟩
  · simp only [if_true]
    subst hvs
    have hce : dco ds (i - 1) j = (c : Int) := by simpa using hc
    obtain ⟨i, rfl⟩ : ∃ a : Nat, i = (a : Int) := ⟨i.toNat, by omega⟩
    obtain ⟨j, rfl⟩ : ∃ a : Nat, j = (a : Int) := ⟨j.toNat, by omega⟩
    have himn : i < m := by have := HM.out; omega
    have hjqn : j < q := by have := HQ.out; omega
    have hia : i < ac.length := by rw [HTB.out.la, ← HM.out]; exact himn
    have hja : j < (ac[i]).length := by have h1 := HTB.out.ca i (by rw [← HM.out]; exact himn); rw [getD_of_lt _ hia, getD_of_lt _ (show i < ds.length by rw [← HM.out]; exact himn), (HOK.out.col _ (List.getElem_mem _)).1, ← HQ.out] at h1; omega
    obtain ⟨ba, oa, ca, b2, o2, k2, ut, hva, hA1, hA2, hTl⟩ := l4_at HX1.out.dx.across hia hja
    subst hva
    have hTt : (ac[i])[j] = tbl ac (i, j) := by unfold tbl; dsimp only; rw [getD_of_lt _ hia, getD_of_lt _ hja]
    rw [hTt] at hTl
    obtain ⟨n1, hn1⟩ : ∃ n, n = ac.length := ⟨_, rfl⟩
    obtain ⟨n2, hn2⟩ : ∃ n, n = (ac[i]).length := ⟨_, rfl⟩
    rw [← hn1] at HX1 HNX HDIM c2 hw1 ⊢
    rw [← hn2] at hA1
    have hi1 : i < n1 := by omega
    have hj2 : j < n2 := by omega
    have HA1 := Lib.hid hA1
    have HA2 := Lib.hid hA2
    have HTL := Lib.hid hTl
    clear hn1 hn2 hA1 hA2 hTl hTt hia hja
    obtain ⟨ta, tc, hut⟩ := Sl.shape HTL.out
    obtain ⟨n3, hn3⟩ : ∃ n, n = (tbl ac (i, j)).length := ⟨_, rfl⟩
    rw [← hn3] at hut
    subst hut
    clear hn3
    have HAP2 : Hid (ApOk p c v (tbl ac (i, j))) := Lib.hid (by simpa using HAP.out)
    have hi0 : (0 : Int) ≤ (i : Int) := by omega
    have hj0 : (0 : Int) ≤ (j : Int) := by omega
    go_enter Try.func116, Try.ntmps116
    go_wp2_with fail
    rw [← hw1]
    refine (HDIM.out w1 (Below.refl _ _) i (j - 1) (by omega) (by omega)).mono ?_
    rintro r W1 ⟨rfl, hb1⟩
    clear c0 c1 c2 c3 hw1
    have HB1 := Lib.hid hb1
    have hnx1 := HNX.out W1 hb1
    have c0 := hnx1.1.c0
    have c1 := hnx1.1.c1
    have c2 := hnx1.1.c2
    have c3 := hnx1.1.c3
    have hu1 := hnx1.2
    clear hb1 hnx1
    go_wp2_with fail
    refine (HDIM.out W1 HB1.out (i - 1) j (by omega) (by omega)).mono ?_
    rintro r W2 ⟨rfl, hb2⟩
    clear c0 c1 c2 c3 hu1
    have HB2 := Lib.hid hb2
    have hnx2 := HNX.out W2 hb2
    have c0 := hnx2.1.c0
    have c1 := hnx2.1.c1
    have c2 := hnx2.1.c2
    have c3 := hnx2.1.c3
    have hu2 := hnx2.2
    clear hb2 hnx2
    rw [hce]
    clear hce
    have I1 : Hid (∀ W, Calls Try.prog 54 #[.int .i64 (i : Int), .int .i64 0, .int .i64 ((m : Int) - 1)] W (QW (.bool true) W)) := Lib.hid (fun W => spin_yes ⟨by omega, by omega⟩ W)
    have I2 : Hid (∀ W, Calls Try.prog 54 #[.int .i64 (j : Int), .int .i64 0, .int .i64 ((q : Int) - 1)] W (QW (.bool true) W)) := Lib.hid (fun W => spin_yes ⟨by omega, by omega⟩ W)
    go_wp2_with fail
    refine (I1.out _).mono ?_
    rintro e w' ⟨rfl, rfl⟩
    go_wp2_with fail
    refine (I2.out _).mono ?_
    rintro e w' ⟨rfl, rfl⟩
    go_upto_region 7 with fail
    refine wp_region_held (S := fun W => Below w1.heap.size w1 W) (by kernel_rfl) ?_
    have S0 : Below w1.heap.size w1 W2.drew := HB2.out.drew
    change wpAnyH _ _ _ _ _ _ _ _ W2.drew
    obtain ⟨wd, hwd⟩ : ∃ wd, wd = W2.drew := ⟨_, rfl⟩
    rw [← hwd] at S0 ⊢
    clear hwd
    refine held_take (i := 0) (v := .pointer (some ⟨w.heap.size, 0, none⟩)) (some 44) rfl rfl (by kernel_rfl) (by kernel_rfl) (by kernel_rfl) (fun _ _ _ h => h) (yieldsIf_run (by kernel_rfl) (fun W _ => by kernel_rfl)) S0 ?_
    refine held_take (i := 1) (v := .int .i64 p) (some 45) rfl rfl (by kernel_rfl) (by kernel_rfl) (by kernel_rfl) (fun _ _ _ h => h) (yieldsIf_cell (by kernel_rfl) rfl (by kernel_rfl) (fun W h => hloadIn W (HNX.out W h).1.c0)) S0 ?_
    refine held_take (i := 2) (v := .pointer (some ⟨w.heap.size, 2, none⟩)) (some 46) rfl rfl (by kernel_rfl) (by kernel_rfl) (by kernel_rfl) (fun _ _ _ h => h) (yieldsIf_run (by kernel_rfl) (fun W _ => by kernel_rfl)) S0 ?_
    refine held_take (i := 3) (v := .slice (some ⟨ba, oa, none⟩) n1 ca) (some 47) rfl rfl (by kernel_rfl) (by kernel_rfl) (by kernel_rfl) (fun _ _ _ h => h) (yieldsIf_cell (by kernel_rfl) rfl (by kernel_rfl) (fun W h => hload4 W (HNX.out W h).1.c2)) S0 ?_
    refine held_take (i := 4) (v := .int .i64 (i : Int)) (some 48) rfl rfl (by kernel_rfl) (by kernel_rfl) (by kernel_rfl) (fun _ _ _ h => h) (yieldsIf_move (by kernel_rfl) rfl (by kernel_rfl)) S0 ?_
    refine held_take (i := 5) (v := .pointer (some ⟨ba, oa + i, none⟩)) (some 49) rfl rfl (by kernel_rfl) (by kernel_rfl) (by kernel_rfl) (fun _ _ _ h => h) (yieldsIf_index (by kernel_rfl) rfl (by kernel_rfl) (by kernel_rfl) (hidx4 (cap := ca) rfl hi1)) S0 ?_
    refine held_take (i := 6) (v := .slice (some ⟨b2, o2, none⟩) n2 k2) (some 50) rfl rfl (by kernel_rfl) (by kernel_rfl) (by kernel_rfl) (fun _ _ _ h => h) (yieldsIf_cell (by kernel_rfl) rfl (by kernel_rfl) (fun W h => hload3s W (later h (Nat.le_refl _) HA1.out))) S0 ?_
    refine held_take (i := 7) (v := .int .i64 (j : Int)) (some 51) rfl rfl (by kernel_rfl) (by kernel_rfl) (by kernel_rfl) (fun _ _ _ h => h) (yieldsIf_move (by kernel_rfl) rfl (by kernel_rfl)) S0 ?_
    refine held_take (i := 8) (v := .pointer (some ⟨b2, o2 + j, none⟩)) (some 52) rfl rfl (by kernel_rfl) (by kernel_rfl) (by kernel_rfl) (fun _ _ _ h => h) (yieldsIf_index (by kernel_rfl) rfl (by kernel_rfl) (by kernel_rfl) (hidx3 b2 o2 k2 hj2)) S0 ?_
    refine held_take (i := 9) (v := .slice ta n3 tc) (some 53) rfl rfl (by kernel_rfl) (by kernel_rfl) (by kernel_rfl) (fun _ _ _ h => h) (yieldsIf_cell (by kernel_rfl) rfl (by kernel_rfl) (fun W h => hload2s W (later h (Nat.le_refl _) HA2.out))) S0 ?_
    refine held_take (i := 10) (v := .slice av0 vn vc0) (some 54) rfl rfl (by kernel_rfl) (by kernel_rfl) (by kernel_rfl) (fun _ _ _ h => h) (yieldsIf_move (by kernel_rfl) rfl (by kernel_rfl)) S0 ?_
    refine held_take (i := 11) (v := .int .i64 (c : Int)) (some 55) rfl rfl (by kernel_rfl) (by kernel_rfl) (by kernel_rfl) (fun _ _ _ h => h) (yieldsIf_move (by kernel_rfl) rfl (by kernel_rfl)) S0 ?_
    have HAPP : Hid (∀ W, Below w1.heap.size w1 W → Calls Try.prog 109 #[.int .i64 p, .slice ta n3 tc, .slice av0 vn vc0, .int .i64 (c : Int)] W (ApR p c v (tbl ac (i, j)) W)) := Lib.hid (fun W hb => l01Apply_any p c _ _ v _ W HAP2.out (HV1.out.below (HX1.out.below.trans (hb.mono HX1.out.below.size))) (HTL.out.below hb) (by omega) (by omega))
    refine held_enter (i := 12) (some 56) (f := 109) (args := #[.int .i64 p, .slice ta n3 tc, .slice av0 vn vc0, .int .i64 (c : Int)]) (by kernel_rfl) rfl rfl rfl (by kernel_rfl) (HAPP.out _ S0) ?_ (fun c w' h => by obtain ⟨_, h, _⟩ := h; cases h) (fun w' h => by obtain ⟨_, h, _⟩ := h; cases h)
    rintro e3 W3 ⟨u3, he3, hl3, hb3⟩
    injection he3 with he3
    subst he3
    have S1 : Below w1.heap.size w1 W3 := S0.trans (hb3.mono S0.size)
    refine ⟨S1, ?_⟩
    obtain ⟨a3, k3, hu3'⟩ := Sl.shape hl3
    obtain ⟨n4, hn4⟩ : ∃ n, n = (apT p c v (tbl ac (i, j))).length := ⟨_, rfl⟩
    rw [← hn4] at hu3'
    subst hu3'
    clear hn4
    refine held_take (i := 13) (v := .slice a3 n4 k3) (some 10) rfl rfl (by kernel_rfl) (by kernel_rfl) (by kernel_rfl) (fun _ _ _ h => h) (yieldsIf_assign (by kernel_rfl) rfl (by kernel_rfl)) S1 ?_
    refine wpAnyH_done (by kernel_rfl) ?_ _
    simp only [Act.put, List.setIfInBounds_toArray, List.set_cons_zero, List.set_cons_succ]
    have HL3 : Hid (L1 0 W3 (.slice a3 n4 k3) (apT p c v (tbl ac (i, j)))) := Lib.hid (hl3.lower (Nat.zero_le _))
    have HS1 := Lib.hid S1
    clear S0 S1 hl3 hb3
    go_wp2
    go_ret
    exact ⟨_, rfl, HL3.out, HX1.out.below.trans (HS1.out.mono HX1.out.below.size)⟩
end Go.Proofs.Ytlopenephgabhaa


namespace Go.Proofs.Ytlopenephgabhaa
open Go.RowKit

theorem less_bd1 {p k a b : Int} (hp : IsP p) (hb : 0 ≤ b ∧ b < p) (hk : -1 ≤ k ∧ k < p) : -42 ≤ k * b ∧ k * b ≤ 42 ∧ (a - k * b) % p = (a + -k * b) % p := by
  refine ⟨?_, ?_, by rw [Int.neg_mul, Int.sub_eq_add_neg]⟩
  · by_cases h : 0 ≤ k
    · have := (less_bd (a := a) hp hb ⟨h, hk.2⟩).1
      omega
    · obtain rfl : k = -1 := by omega
      have := hp.hi
      omega
  · by_cases h : 0 ≤ k
    · exact (less_bd (a := a) hp hb ⟨h, hk.2⟩).2.1
    · obtain rfl : k = -1 := by omega
      omega

set_option maxHeartbeats 3200000 in
set_option maxRecDepth 100000 in
theorem l01Less1_any (p k : Int) (n : Nat) (va vb : Value) (u t : Lin.V) (w : World) (hp : IsP p) (ha : L1 0 w va (toL n u)) (hb : L1 0 w vb (toL n t)) (hu : Lin.Md p u) (ht : Lin.Md p t) (hk : -1 ≤ k ∧ k < p) (hn : n ≤ 1048576) :
    Calls Try.prog 117 #[.int .i64 p, va, vb, .int .i64 k] w (GbR (toL n (Lin.add p u (-k) t)) w) := by
  have HP := Lib.hid hp
  have hp7 := hp.hi7
  have hp1 := hp.lo1
  have HA := Lib.hid ha
  have HB := Lib.hid hb
  have HU := Lib.hid hu
  have HT := Lib.hid ht
  obtain ⟨y, hy⟩ : ∃ y, y = Lin.add p u (-k) t := ⟨_, rfl⟩
  have HY := Lib.hid hy
  rw [← hy]
  obtain ⟨i1, hj, hy0, hy1, hy2⟩ := info_parts Try.infoI
  have HOWN := Lib.hid (World.ownsRow_made (base := w.heap.size) (e := 2) (size := 1) w #[] 0 (Nat.le_refl _) (by unfold maxLen; omega) (by simp))
  obtain ⟨ada, capa, hva⟩ := Sl.shape ha
  obtain ⟨adb, capb, hvb⟩ := Sl.shape hb
  rw [toL_length] at hva hvb
  subst hva hvb
  clear hp ha hb hu ht hy
  go_enter Try.func117, Try.ntmps117
  go_wp2
  go_loopw [9, 10] (fun o i wr => ∃ (q : Nat), q ≤ n ∧ i = .int .i64 q ∧ Hid (Below w.heap.size w wr) ∧ Hid (wr.ownsRow w.heap.size 2 1 o q ((toL q y).map (Value.int .i64)))) (fun _ i _ => n - (intOf i).toNat)
  case atStart => exact ⟨0, Nat.zero_le _, rfl, Lib.hid ((Below.refl _ _).alloc (Nat.le_refl _) _), Lib.hid (by simpa [toL] using HOWN.out)⟩
  case round =>
    clear HOWN
    obtain ⟨q, hq, rfl, HBE, HO⟩ := hrel
    by_cases hlt : q < n
    · refine Sl.cases HA.out (fun _ _ hx _ => absurd hlt (by have := congrArg List.length hx; rw [toL_length] at this; simp at this; omega)) (fun ba oa ca hva _ _ hca => ?_)
      refine Sl.cases HB.out (fun _ _ hx _ => absurd hlt (by have := congrArg List.length hx; rw [toL_length] at this; simp at this; omega)) (fun bb ob cb hvb _ _ hcb => ?_)
      rw [toL_length] at hva hvb
      obtain ⟨rfl, rfl⟩ : ada = some ⟨ba, oa, none⟩ ∧ capa = ca := by simpa using hva
      obtain ⟨rfl, rfl⟩ : adb = some ⟨bb, ob, none⟩ ∧ capb = cb := by simpa using hvb
      obtain ⟨ua, hua, hra⟩ := hca q (by rw [toL_length]; exact hlt)
      obtain ⟨ub, hub, hrb⟩ := hcb q (by rw [toL_length]; exact hlt)
      rw [toL_get] at hra hrb
      obtain ⟨a, haa⟩ : ∃ a, a = u q := ⟨_, rfl⟩
      obtain ⟨b, hbb⟩ : ∃ b, b = t q := ⟨_, rfl⟩
      have hab := HU.out q
      have hbb2 := HT.out q
      rw [← haa] at hra hab
      rw [← hbb] at hrb hbb2
      have h1 : wr.cell? ⟨ba, oa + q, none⟩ = some (.int .i64 a) := by rw [later HBE.out (Nat.le_refl _) hua, hra]
      have h2 : wr.cell? ⟨bb, ob + q, none⟩ = some (.int .i64 b) := by rw [later HBE.out (Nat.le_refl _) hub, hrb]
      obtain ⟨m0, m1, m2⟩ := less_bd1 (a := a) HP.out hbb2 hk
      have HM2 : Hid ((a - k * b) % p = y q) := Lib.hid (by rw [m2, HY.out, haa, hbb]; rfl)
      have hmod := fun W => l01Mod_any p (a - k * b) W HP.out
      rw [HM2.out] at hmod
      have HMOD := Lib.hid hmod
      have hsz : w.heap.size ≤ wr.heap.size := HBE.out.size
      have hca1 : ∀ W, Below w.heap.size w W → W.cell? ⟨ba, oa + q, none⟩ = some (.int .i64 a) := fun W h => by rw [later h (Nat.le_refl _) hua, hra]
      have hcb1 : ∀ W, Below w.heap.size w W → W.cell? ⟨bb, ob + q, none⟩ = some (.int .i64 b) := fun W h => by rw [later h (Nat.le_refl _) hub, hrb]
      have hmul : ∀ w, (binOp .mul 2 (.int .i64 k) (.int .i64 b)).run Try.prog w = .ok (.int .i64 (k * b)) w := fun w => hmulI (by omega) (by omega) w
      have hsub : ∀ w, (binOp .sub 2 (.int .i64 a) (.int .i64 (k * b))).run Try.prog w = .ok (.int .i64 (a - k * b)) w := fun w => hsubI (by omega) (by omega) w
      clear h1 h2
      clear hra hrb hca hcb hva hvb m2 haa hbb hmod
      go_wp2
      refine wp_region_held (S := fun W => Below w.heap.size w W) (by kernel_rfl) ?_
      have S0 : Below w.heap.size w wr.drew := HBE.out.drew
      refine held_take (i := 0) (v := u9) (some 18) rfl rfl (by kernel_rfl) (by kernel_rfl) (by kernel_rfl) (fun _ _ _ h => h) (yieldsIf_move (by kernel_rfl) rfl (by kernel_rfl)) S0 ?_
      refine held_take (i := 1) (v := .int .i64 p) (some 19) rfl rfl (by kernel_rfl) (by kernel_rfl) (by kernel_rfl) (fun _ _ _ h => h) (yieldsIf_move (by kernel_rfl) rfl (by kernel_rfl)) S0 ?_
      refine held_take (i := 2) (v := .slice (some ⟨ba, oa, none⟩) n capa) (some 20) rfl rfl (by kernel_rfl) (by kernel_rfl) (by kernel_rfl) (fun _ _ _ h => h) (yieldsIf_move (by kernel_rfl) rfl (by kernel_rfl)) S0 ?_
      refine held_take (i := 3) (v := .int .i64 (q : Int)) (some 21) rfl rfl (by kernel_rfl) (by kernel_rfl) (by kernel_rfl) (fun _ _ _ h => h) (yieldsIf_move (by kernel_rfl) rfl (by kernel_rfl)) S0 ?_
      refine held_take (i := 4) (v := .pointer (some ⟨ba, oa + q, none⟩)) (some 22) rfl rfl (by kernel_rfl) (by kernel_rfl) (by kernel_rfl) (fun _ _ _ h => h) (yieldsIf_index (by kernel_rfl) rfl (by kernel_rfl) (by kernel_rfl) (hidxI ba oa capa hlt)) S0 ?_
      refine held_take (i := 5) (v := .int .i64 a) (some 23) rfl rfl (by kernel_rfl) (by kernel_rfl) (by kernel_rfl) (fun _ _ _ h => h) (yieldsIf_cell (by kernel_rfl) rfl (by kernel_rfl) (fun W h => hload W (hca1 W h))) S0 ?_
      refine held_take (i := 6) (v := .int .i64 k) (some 24) rfl rfl (by kernel_rfl) (by kernel_rfl) (by kernel_rfl) (fun _ _ _ h => h) (yieldsIf_move (by kernel_rfl) rfl (by kernel_rfl)) S0 ?_
      refine held_take (i := 7) (v := .slice (some ⟨bb, ob, none⟩) n capb) (some 25) rfl rfl (by kernel_rfl) (by kernel_rfl) (by kernel_rfl) (fun _ _ _ h => h) (yieldsIf_move (by kernel_rfl) rfl (by kernel_rfl)) S0 ?_
      refine held_take (i := 8) (v := .int .i64 (q : Int)) (some 26) rfl rfl (by kernel_rfl) (by kernel_rfl) (by kernel_rfl) (fun _ _ _ h => h) (yieldsIf_move (by kernel_rfl) rfl (by kernel_rfl)) S0 ?_
      refine held_take (i := 9) (v := .pointer (some ⟨bb, ob + q, none⟩)) (some 27) rfl rfl (by kernel_rfl) (by kernel_rfl) (by kernel_rfl) (fun _ _ _ h => h) (yieldsIf_index (by kernel_rfl) rfl (by kernel_rfl) (by kernel_rfl) (hidxI bb ob capb hlt)) S0 ?_
      refine held_take (i := 10) (v := .int .i64 b) (some 28) rfl rfl (by kernel_rfl) (by kernel_rfl) (by kernel_rfl) (fun _ _ _ h => h) (yieldsIf_cell (by kernel_rfl) rfl (by kernel_rfl) (fun W h => hload W (hcb1 W h))) S0 ?_
      refine held_take (i := 11) (v := .int .i64 (k * b)) (some 29) rfl rfl (by kernel_rfl) (by kernel_rfl) (by kernel_rfl) (fun _ _ _ h => h) (yieldsIf_bin (by kernel_rfl) rfl (by kernel_rfl) (by kernel_rfl) (fun _ => rfl) hmul) S0 ?_
      refine held_take (i := 12) (v := .int .i64 (a - k * b)) (some 30) rfl rfl (by kernel_rfl) (by kernel_rfl) (by kernel_rfl) (fun _ _ _ h => h) (yieldsIf_bin (by kernel_rfl) rfl (by kernel_rfl) (by kernel_rfl) (fun _ => rfl) hsub) S0 ?_
      refine held_enter (i := 13) (some 31) (f := 128) (args := #[.int .i64 p, .int .i64 (a - k * b)]) (by kernel_rfl) rfl rfl rfl (by kernel_rfl) (HMOD.out _) ?_ (fun c w' h => by cases h.1) (fun w' h => by cases h.1)
      rintro e4 W4 ⟨he4, rfl⟩
      injection he4 with he4
      subst he4
      refine ⟨S0, ?_⟩
      have S1 : Below w.heap.size w (wr.drew.alloc (.cells #[.int .i64 (y q)] 2)) := S0.alloc hsz _
      have HOX := Lib.hid (HO.out.alloc (.cells #[.int .i64 (y q)] 2))
      refine held_buildI (i := 14) (some 32) (by kernel_rfl) rfl rfl rfl (.tmp 31) (y q) rfl (by kernel_rfl) ⟨S1, ?_⟩
      refine held_appendI (i := 15) (some 33) (by kernel_rfl) rfl rfl rfl (.tmp 18) (.tmp 32) rfl w.heap.size u9 q _ (by kernel_rfl) HOX.out wr.heap.size (y q) (by kernel_rfl) (cell_alloc1 wr.drew _ _) (by omega) (by simp; omega) ?_
      intro v' w3 hown hgrow
      have S2 : Below w.heap.size w w3 := S1.grown hgrow (by simp; omega) (fun g hg => ((HOX.out.lt) g hg).1)
      have HB3 := Lib.hid S2
      have HO3 : Hid (w3.ownsRow w.heap.size 2 1 v' (q + 1) ((toL (q + 1) y).map (Value.int .i64))) := Lib.hid (by rw [toL_succ, List.map_append]; exact hown)
      refine ⟨S2, ?_⟩
      refine held_take (i := 16) (v := v') (some 9) rfl rfl (by kernel_rfl) (by kernel_rfl) (by kernel_rfl) (fun _ _ _ h => h) (yieldsIf_assign (by kernel_rfl) rfl (by kernel_rfl)) S2 ?_
      refine wpAnyH_done (by kernel_rfl) ?_ _
      simp only [Act.put, List.setIfInBounds_toArray, List.set_cons_zero, List.set_cons_succ]
      clear S0 S1 S2 hown hgrow hca1 hcb1 hmul hsub HOX HO HBE
      go_wp2
      go_roundw
      case rel => exact ⟨q + 1, by omega, by go_num, HB3, HO3⟩
      case measure => simp [intOf]; omega
    · have hqq : Hid (q = n) := Lib.hid (by omega)
      go_wp2
      go_ret
      refine ⟨_, rfl, ?_, HBE.out⟩
      have := HO.out
      rw [hqq.out] at this
      unfold Gb
      rw [toL_length]
      exact this
end Go.Proofs.Ytlopenephgabhaa


namespace Go.Proofs.Ytlopenephgabhaa
open Go.RowKit

def inD (ds : List (List Int)) (i j : Int) : Prop := 0 ≤ i ∧ i < ds.length ∧ 0 ≤ j ∧ j < (ds.getD 0 []).length
instance (ds : List (List Int)) (i j : Int) : Decidable (inD ds i j) := by unfold inD; exact inferInstance
def wid (ds : List (List Int)) (b : Bool) (i j : Int) : Nat := (if b = true then dco ds (i - 1) j else dco ds i (j - 1)).toNat
/-- A step of the model. -/
def stp (p : Int) (ds : List (List Int)) (ac dn : List (List (List (List Int)))) (i j : Int) (v : List Int) (b : Bool) : List Int :=
  if inD ds i j then apT p (wid ds b i j) v (tbl (if b = true then ac else dn) (i.toNat, j.toNat)) else List.replicate (wid ds b i j) 0
theorem dco_bd {ds : List (List Int)} (hok : DclOk ds) (i j : Int) : 0 ≤ dco ds i j ∧ dco ds i j ≤ 4 := by
  unfold dco
  split
  · rename_i h
    have h1 : i.toNat < ds.length := by omega
    rw [getD_of_lt _ h1]
    have hc := hok.col _ (List.getElem_mem h1)
    have h2 : j.toNat < (ds[i.toNat]).length := by omega
    rw [getD_of_lt _ h2]
    exact hc.2 _ (List.getElem_mem h2)
  · omega
theorem dco_cell {ds : List (List Int)} (hok : DclOk ds) {c : Nat × Nat} (h : c ∈ cellsTo ds ds.length) : dco ds c.1 c.2 = (cdim ds c : Nat) := by
  obtain ⟨h1, h2⟩ := mem_cells.1 h
  rw [(cdim_cast hok h).1, dcl_nat]
  unfold dco
  rw [getD_of_lt _ h1, (hok.col _ (List.getElem_mem h1)).1] at h2
  rw [if_pos (by omega)]
  simp
theorem wid_cast {ds : List (List Int)} (hok : DclOk ds) (b : Bool) (i j : Int) : (if b = true then dco ds (i - 1) j else dco ds i (j - 1)) = ((wid ds b i j : Nat) : Int) ∧ wid ds b i j ≤ 4 := by
  unfold wid
  have h1 := dco_bd hok (i - 1) j
  have h2 := dco_bd hok i (j - 1)
  cases b
  · simp only [Bool.false_eq_true, if_false]; omega
  · simp only [if_true]; omega
/-- Where a step may be taken. -/
def StOk (p : Int) (ds : List (List Int)) (ac dn : List (List (List (List Int)))) (i j : Int) (v : List Int) (b : Bool) : Prop := inD ds i j → ApOk p (wid ds b i j) v (tbl (if b = true then ac else dn) (i.toNat, j.toNat))
theorem stp_ok {p : Int} {ds : List (List Int)} {ac dn : List (List (List (List Int)))} {i j : Int} {v : List Int} {b : Bool} (hp : IsP p) (h : StOk p ds ac dn i j v b) : RowOk p (wid ds b i j) (stp p ds ac dn i j v b) := by
  have hp0 := hp.lo
  unfold stp
  split
  · rename_i hi
    have ok := h hi
    refine ⟨by rw [apT_length ok], fun x hx => ?_⟩
    obtain ⟨k, hk, rfl⟩ := List.getElem_of_mem hx
    have := apTo_mod ok (Nat.le_refl v.length) k
    rw [show apTo p (wid ds b i j) v (tbl (if b = true then ac else dn) (i.toNat, j.toNat)) v.length = apT p (wid ds b i j) v (tbl (if b = true then ac else dn) (i.toNat, j.toNat)) from rfl, getD_of_lt _ hk] at this
    exact this
  · refine ⟨by simp, fun x hx => ?_⟩
    rw [List.eq_of_mem_replicate hx]
    omega
theorem l03Step_any (b : Bool) (p i j : Int) (dv av vv va : Value) (ds : List (List Int)) (ac dn : List (List (List (List Int)))) (v : List Int) (w : World) (h : Dx 0 w dv av vv ds ac dn) (hok : DclOk ds) (htb : TbsOk p ds ac dn) (hv : L1 0 w va v) (hv40 : v.length ≤ 40) (hi : -1 ≤ i ∧ i ≤ 4) (hj : -1 ≤ j ∧ j ≤ 4) (hst : StOk p ds ac dn i j v b) :
    Calls Try.prog 116 #[.agg #[.int .i64 p, dv, av, vv], .int .i64 i, .int .i64 j, va, .bool b] w fun e w' => ∃ u, e = .returned u ∧ L1 0 w' u (stp p ds ac dn i j v b) ∧ Below w.heap.size w w' := by
  have hw := wid_cast hok b i j
  by_cases hin : inD ds i j
  · rw [show stp p ds ac dn i j v b = apT p (wid ds b i j) v (tbl (if b = true then ac else dn) (i.toNat, j.toNat)) from if_pos hin]
    exact l03Step_in b p i j dv av vv va ds ac dn (wid ds b i j) v w h hok htb hv hv40 hin hw.1 hw.2 (hst hin)
  · rw [show stp p ds ac dn i j v b = List.replicate (wid ds b i j) 0 from if_neg hin]
    exact l03Step_out b p i j dv av vv va ds ac dn (wid ds b i j) w h hok hi hj hin hw.1 hw.2

theorem leadOf_nn : ∀ {xs : List Int}, ¬ (∀ x ∈ xs, x = 0) → 0 ≤ leadOf xs
  | [], h => absurd (fun x hx => absurd hx (by simp)) h
  | x :: xs, h => by
    by_cases h0 : x = 0
    · have h2 : ¬ ∀ y ∈ xs, y = 0 := fun h3 => h (fun y hy => by
        rcases List.mem_cons.1 hy with rfl | hy
        · exact h0
        · exact h3 y hy)
      have := leadOf_nn h2
      simp only [leadOf, h0, if_true]
      rw [if_neg (by omega)]
      omega
    · simp [leadOf, h0]
theorem leadOf_null {xs : List Int} (h : ∀ x ∈ xs, x = 0) : leadOf xs = -1 := leadOf_zero (fun _ hj => h _ (List.getElem_mem hj))

/-- What the model asks of a basis vector. -/
structure SqRow (p : Int) (ds : List (List Int)) (ac dn : List (List (List (List Int)))) (c : Nat × Nat) (r : Nat) : Prop where
  a : ∀ x ∈ stp p ds ac dn ((c.1 : Int) - 1) c.2 ((tbl ac c).getD r []) true, x = 0
  d : ∀ x ∈ stp p ds ac dn c.1 ((c.2 : Int) - 1) ((tbl dn c).getD r []) false, x = 0
  b : ∀ x ∈ toL (wid ds false ((c.1 : Int) - 1) c.2) (Lin.add p (ofL (stp p ds ac dn ((c.1 : Int) - 1) c.2 ((tbl ac c).getD r []) false)) (-(-1)) (ofL (stp p ds ac dn c.1 ((c.2 : Int) - 1) ((tbl dn c).getD r []) true))), x = 0
def SqCell (p : Int) (ds : List (List Int)) (ac dn : List (List (List (List Int)))) (c : Nat × Nat) : Prop := ∀ r, r < cdim ds c → SqRow p ds ac dn c r

section
variable {p : Int} {ds : List (List Int)} {ac dn : List (List (List (List Int)))}
theorem row_len (hok : DclOk ds) (ht : TbsOk p ds ac dn) {c : Nat × Nat} (hc : c ∈ cellsTo ds ds.length) {r : Nat} (hr : r < cdim ds c) :
    RowOk p (dcl ds ((c.1 : Int) - 1) c.2) ((tbl ac c).getD r []) ∧ RowOk p (dcl ds c.1 ((c.2 : Int) - 1)) ((tbl dn c).getD r []) ∧ (tbl ac c).length = cdim ds c ∧ (tbl dn c).length = cdim ds c := by
  obtain ⟨ta, td⟩ := ht.tab c hc
  have h1 := (cdim_cast hok hc).1
  have la := ta.1
  have ld := td.1
  have la' : (tbl ac c).length = cdim ds c := by unfold tbl; omega
  have ld' : (tbl dn c).length = cdim ds c := by unfold tbl; omega
  refine ⟨?_, ?_, la', ld'⟩
  · rw [getD_of_lt _ (by omega)]; exact ta.2 _ (List.getElem_mem _)
  · rw [getD_of_lt _ (by omega)]; exact td.2 _ (List.getElem_mem _)
theorem dco_dcl (hok : DclOk ds) {c : Nat × Nat} (hc : c ∈ cellsTo ds ds.length) : dco ds ((c.1 : Int) - 1) c.2 = dcl ds ((c.1 : Int) - 1) c.2 ∧ dco ds c.1 ((c.2 : Int) - 1) = dcl ds c.1 ((c.2 : Int) - 1) := by
  obtain ⟨i, j⟩ := c
  dsimp only
  constructor
  · cases i with
    | zero => unfold dco dcl; rw [if_neg (by omega), if_pos (by omega)]
    | succ i =>
      have h := cell_left hok hc
      rw [show (((i + 1 : Nat) : Int) - 1) = (i : Int) by omega, dco_cell hok (c := (i, j)) h, (cdim_cast hok h).1]
  · cases j with
    | zero => unfold dco dcl; rw [if_neg (by omega), if_pos (by omega)]
    | succ j =>
      have h := cell_low hc
      rw [show (((j + 1 : Nat) : Int) - 1) = (j : Int) by omega, dco_cell hok (c := (i, j)) h, (cdim_cast hok h).1]
/-- The four steps may be taken. -/
theorem st_left (hp : IsP p) (hok : DclOk ds) (ht : TbsOk p ds ac dn) {c : Nat × Nat} (hc : c ∈ cellsTo ds ds.length) {r : Nat} (hr : r < cdim ds c) (b : Bool) : StOk p ds ac dn ((c.1 : Int) - 1) c.2 ((tbl ac c).getD r []) b := by
  intro hin
  obtain ⟨i, j⟩ := c
  dsimp only at hin hc hr ⊢
  cases i with
  | zero => exact absurd hin.1 (by omega)
  | succ i =>
    have hl := cell_left hok hc
    have e : (((i + 1 : Nat) : Int) - 1) = (i : Int) := by omega
    obtain ⟨r1, _, _, _⟩ := row_len hok ht hc hr
    dsimp only at r1
    rw [e] at r1 ⊢
    obtain ⟨ta, td⟩ := ht.tab _ hl
    have hcd := dco_dcl hok hl
    dsimp only at ta td hcd
    have hw := wid_cast hok b (i : Int) (j : Int)
    rw [Int.toNat_natCast, Int.toNat_natCast]
    cases b
    · simp only [Bool.false_eq_true, if_false] at hw ⊢
      exact ⟨hp, by have h1 := r1.1; have h2 : ((tbl dn (i, j)).length : Int) = dcl ds i j := td.1; omega, r1.2, fun x hx => by rw [← hw.1, hcd.2]; exact td.2 x hx⟩
    · simp only [if_true] at hw ⊢
      exact ⟨hp, by have h1 := r1.1; have h2 : ((tbl ac (i, j)).length : Int) = dcl ds i j := ta.1; omega, r1.2, fun x hx => by rw [← hw.1, hcd.1]; exact ta.2 x hx⟩
theorem st_low (hp : IsP p) (hok : DclOk ds) (ht : TbsOk p ds ac dn) {c : Nat × Nat} (hc : c ∈ cellsTo ds ds.length) {r : Nat} (hr : r < cdim ds c) (b : Bool) : StOk p ds ac dn c.1 ((c.2 : Int) - 1) ((tbl dn c).getD r []) b := by
  intro hin
  obtain ⟨i, j⟩ := c
  dsimp only at hin hc hr ⊢
  cases j with
  | zero => exact absurd hin.2.2.1 (by omega)
  | succ j =>
    have hl := cell_low hc
    have e : (((j + 1 : Nat) : Int) - 1) = (j : Int) := by omega
    obtain ⟨_, r1, _, _⟩ := row_len hok ht hc hr
    dsimp only at r1
    rw [e] at r1 ⊢
    obtain ⟨ta, td⟩ := ht.tab _ hl
    have hcd := dco_dcl hok hl
    dsimp only at ta td hcd
    have hw := wid_cast hok b (i : Int) (j : Int)
    rw [Int.toNat_natCast, Int.toNat_natCast]
    cases b
    · simp only [Bool.false_eq_true, if_false] at hw ⊢
      exact ⟨hp, by have h1 := r1.1; have h2 : ((tbl dn (i, j)).length : Int) = dcl ds i j := td.1; omega, r1.2, fun x hx => by rw [← hw.1, hcd.2]; exact td.2 x hx⟩
    · simp only [if_true] at hw ⊢
      exact ⟨hp, by have h1 := r1.1; have h2 : ((tbl ac (i, j)).length : Int) = dcl ds i j := ta.1; omega, r1.2, fun x hx => by rw [← hw.1, hcd.1]; exact ta.2 x hx⟩
theorem null_all {xs : List Int} {n : Nat} (h : xs.length = n) : (∀ x ∈ xs, x = 0) ↔ ∀ t, t < n → xs.getD t 0 = 0 := by
  constructor
  · intro hz t ht
    rw [getD_of_lt _ (by omega)]
    exact hz _ (List.getElem_mem _)
  · intro hz x hx
    obtain ⟨t, ht, rfl⟩ := List.getElem_of_mem hx
    have := hz t (by omega)
    rwa [getD_of_lt _ ht] at this
theorem inD_cell (hok : DclOk ds) {c : Nat × Nat} (hc : c ∈ cellsTo ds ds.length) : inD ds c.1 c.2 := by
  obtain ⟨h1, h2⟩ := mem_cells.1 hc
  rw [getD_of_lt _ h1, (hok.col _ (List.getElem_mem h1)).1] at h2
  unfold inD
  omega
theorem wid_t (hok : DclOk ds) {i j : Nat} (h : (i, j) ∈ cellsTo ds ds.length) (a b : Int) : (a - 1 = i → b = j → wid ds true a b = cdim ds (i, j)) ∧ (a = i → b - 1 = j → wid ds false a b = cdim ds (i, j)) := by
  have := dco_cell hok h
  dsimp only at this
  constructor
  · rintro e1 rfl
    unfold wid
    simp only [if_true]
    rw [e1, this]; simp
  · rintro rfl e1
    unfold wid
    simp only [Bool.false_eq_true, if_false]
    rw [e1, this]; simp
theorem wid_0 (a b : Int) : (a - 1 < 0 → wid ds true a b = 0) ∧ (b - 1 < 0 → wid ds false a b = 0) ∧ (a < 0 → wid ds false a b = 0) ∧ (b < 0 → wid ds true a b = 0) := by
  refine ⟨fun h => ?_, fun h => ?_, fun h => ?_, fun h => ?_⟩ <;> unfold wid dco <;> simp <;> omega

/-- **What the model asks is what the total asks.** -/
theorem sq_iff (hp : IsP p) (hok : DclOk ds) (ht : TbsOk p ds ac dn) : (∀ c ∈ cellsTo ds ds.length, SqCell p ds ac dn c) ↔ CndOk p ds ac dn := by
  -- one row
  have hA : ∀ (a j r : Nat) (b : Bool), (a + 1, j) ∈ cellsTo ds ds.length → r < cdim ds (a + 1, j) → ((tbl ac (a + 1, j)).getD r []).length = cdim ds (a, j) := fun a j r b hc hr => by
    have h1 := (row_len hok ht hc hr).1.1
    have h2 := (cdim_cast hok (cell_left hok hc)).1
    dsimp only at h1 h2
    rw [show (((a + 1 : Nat) : Int) - 1) = (a : Int) by omega] at h1
    omega
  have hD : ∀ (i b r : Nat), (i, b + 1) ∈ cellsTo ds ds.length → r < cdim ds (i, b + 1) → ((tbl dn (i, b + 1)).getD r []).length = cdim ds (i, b) := fun i b r hc hr => by
    have h1 := (row_len hok ht hc hr).2.1.1
    have h2 := (cdim_cast hok (cell_low hc)).1
    dsimp only at h1 h2
    rw [show (((b + 1 : Nat) : Int) - 1) = (b : Int) by omega] at h1
    omega
  have sL : ∀ (a j r : Nat) (b : Bool), (a + 1, j) ∈ cellsTo ds ds.length → r < cdim ds (a + 1, j) → stp p ds ac dn (((a + 1 : Nat) : Int) - 1) j ((tbl ac (a + 1, j)).getD r []) b = apT p (wid ds b a j) ((tbl ac (a + 1, j)).getD r []) (tbl (if b = true then ac else dn) (a, j)) ∧ ApOk p (wid ds b a j) ((tbl ac (a + 1, j)).getD r []) (tbl (if b = true then ac else dn) (a, j)) := fun a j r b hc hr => by
    have hin := inD_cell hok (cell_left hok hc)
    have hst := st_left hp hok ht hc hr b
    dsimp only at hin hst
    rw [show (((a + 1 : Nat) : Int) - 1) = (a : Int) by omega] at hst ⊢
    have hs := hst hin
    unfold stp
    rw [if_pos hin]
    rw [Int.toNat_natCast, Int.toNat_natCast] at hs ⊢
    exact ⟨rfl, hs⟩
  have sD : ∀ (i c r : Nat) (b : Bool), (i, c + 1) ∈ cellsTo ds ds.length → r < cdim ds (i, c + 1) → stp p ds ac dn i (((c + 1 : Nat) : Int) - 1) ((tbl dn (i, c + 1)).getD r []) b = apT p (wid ds b i c) ((tbl dn (i, c + 1)).getD r []) (tbl (if b = true then ac else dn) (i, c)) ∧ ApOk p (wid ds b i c) ((tbl dn (i, c + 1)).getD r []) (tbl (if b = true then ac else dn) (i, c)) := fun i c r b hc hr => by
    have hin := inD_cell hok (cell_low hc)
    have hst := st_low hp hok ht hc hr b
    dsimp only at hin hst
    rw [show (((c + 1 : Nat) : Int) - 1) = (c : Int) by omega] at hst ⊢
    have hs := hst hin
    unfold stp
    rw [if_pos hin]
    rw [Int.toNat_natCast, Int.toNat_natCast] at hs ⊢
    exact ⟨rfl, hs⟩
  have hzero : ∀ {xs : List Int} {n : Int}, RowOk p n xs → n = 0 → ∀ x ∈ xs, x = 0 := fun {xs n} h h0 x hx => by
    have := h.1
    rw [h0] at this
    have : xs = [] := List.eq_nil_of_length_eq_zero (by omega)
    rw [this] at hx
    exact absurd hx (by simp)
  have hB : ∀ (a b r : Nat), (a + 1, b + 1) ∈ cellsTo ds ds.length → r < cdim ds (a + 1, b + 1) →
      ((∀ x ∈ toL (wid ds false (((a + 1 : Nat) : Int) - 1) ((b + 1 : Nat) : Int)) (Lin.add p (ofL (stp p ds ac dn (((a + 1 : Nat) : Int) - 1) ((b + 1 : Nat) : Int) ((tbl ac (a + 1, b + 1)).getD r []) false)) (-(-1)) (ofL (stp p ds ac dn ((a + 1 : Nat) : Int) (((b + 1 : Nat) : Int) - 1) ((tbl dn (a + 1, b + 1)).getD r []) true))), x = 0) ↔
       ∀ t, t < cdim ds (a, b) → (mts ((tbl ac (a + 1, b + 1)).getD r []) (tbl dn (a, b + 1)) (cdim ds (a, b + 1)) t + mts ((tbl dn (a + 1, b + 1)).getD r []) (tbl ac (a + 1, b)) (cdim ds (a + 1, b)) t) % p = 0) := fun a b r hc hr => by
    have hca := cell_left hok hc
    have hcb := cell_low hc
    have hcab := cell_low hca
    obtain ⟨e1, k1⟩ := sL a (b + 1) r false hc hr
    obtain ⟨e2, k2⟩ := sD (a + 1) b r true hc hr
    have w1 : wid ds false (a : Int) ((b + 1 : Nat) : Int) = cdim ds (a, b) := (wid_t hok hcab _ _).2 rfl (by omega)
    have w2 : wid ds true ((a + 1 : Nat) : Int) (b : Int) = cdim ds (a, b) := (wid_t hok hcab _ _).1 (by omega) rfl
    rw [e1, e2, show (((a + 1 : Nat) : Int) - 1) = (a : Int) by omega, w1, w2]
    rw [w1] at k1
    rw [w2] at k2
    simp only [Bool.false_eq_true, if_false, if_true] at k1 k2 ⊢
    have l1 := hA a (b + 1) r false hc hr
    have l2 := hD (a + 1) b r hc hr
    rw [null_all (n := cdim ds (a, b)) (by simp [toL])]
    have hval : ∀ t, t < cdim ds (a, b) → (toL (cdim ds (a, b)) (Lin.add p (ofL (apT p (cdim ds (a, b)) ((tbl ac (a + 1, b + 1)).getD r []) (tbl dn (a, b + 1)))) (-(-1)) (ofL (apT p (cdim ds (a, b)) ((tbl dn (a + 1, b + 1)).getD r []) (tbl ac (a + 1, b)))))).getD t 0 =
        (mts ((tbl ac (a + 1, b + 1)).getD r []) (tbl dn (a, b + 1)) (cdim ds (a, b + 1)) t + mts ((tbl dn (a + 1, b + 1)).getD r []) (tbl ac (a + 1, b)) (cdim ds (a + 1, b)) t) % p := fun t ht' => by
      have h1 := apT_mts k1 ht'
      have h2 := apT_mts k2 ht'
      rw [l1] at h1
      rw [l2] at h2
      rw [getD_of_lt _ (by simpa [toL] using ht')]
      simp only [toL, List.getElem_map, List.getElem_range, Lin.add, ofL]
      rw [h1, h2]
      simp only [Int.neg_neg, Int.one_mul]
      rw [Int.add_emod, Int.emod_emod, Int.emod_emod, ← Int.add_emod]
    constructor
    · intro h t ht'
      rw [← hval t ht']; exact h t ht'
    · intro h t ht'
      rw [hval t ht']; exact h t ht'
  constructor
  · intro h
    refine ⟨fun a j r t hc hr ht' => ?_, fun i b r t hc hr ht' => ?_, fun a b r t hc hr ht' => ?_⟩
    · have h1 := (h _ hc r hr).a
      dsimp only at h1
      obtain ⟨e, k⟩ := sL (a + 1) j r true hc hr
      rw [e, (wid_t hok (cell_left hok (cell_left hok hc)) _ _).1 (by omega) rfl] at h1
      rw [(wid_t hok (cell_left hok (cell_left hok hc)) _ _).1 (by omega) rfl] at k
      have h2 := (apT_null k).1 h1 t ht'
      rwa [hA (a + 1) j r true hc hr] at h2
    · have h1 := (h _ hc r hr).d
      dsimp only at h1
      obtain ⟨e, k⟩ := sD i (b + 1) r false hc hr
      rw [e, (wid_t hok (cell_low (cell_low hc)) _ _).2 rfl (by omega)] at h1
      rw [(wid_t hok (cell_low (cell_low hc)) _ _).2 rfl (by omega)] at k
      have h2 := (apT_null k).1 h1 t ht'
      rwa [hD i (b + 1) r hc hr] at h2
    · exact (hB a b r hc hr).1 (h _ hc r hr).b t ht'
  · intro h c hc r hr
    obtain ⟨i, j⟩ := c
    refine ⟨?_, ?_, ?_⟩
    · dsimp only
      cases i with
      | zero => exact hzero (stp_ok hp (st_left hp hok ht hc hr true)) (by have := (wid_0 (ds := ds) (((0 : Nat) : Int) - 1) (j : Int)).1 (by omega); omega)
      | succ i =>
        cases i with
        | zero => exact hzero (stp_ok hp (st_left hp hok ht hc hr true)) (by have := (wid_0 (ds := ds) (((0 + 1 : Nat) : Int) - 1) (j : Int)).1 (by omega); omega)
        | succ a =>
          obtain ⟨e, k⟩ := sL (a + 1) j r true hc hr
          rw [e, (wid_t hok (cell_left hok (cell_left hok hc)) _ _).1 (by omega) rfl]
          rw [(wid_t hok (cell_left hok (cell_left hok hc)) _ _).1 (by omega) rfl] at k
          refine (apT_null k).2 (fun t ht' => ?_)
          rw [hA (a + 1) j r true hc hr]
          exact h.aa a j r t hc hr ht'
    · dsimp only
      cases j with
      | zero => exact hzero (stp_ok hp (st_low hp hok ht hc hr false)) (by have := (wid_0 (ds := ds) (i : Int) (((0 : Nat) : Int) - 1)).2.1 (by omega); omega)
      | succ j =>
        cases j with
        | zero => exact hzero (stp_ok hp (st_low hp hok ht hc hr false)) (by have := (wid_0 (ds := ds) (i : Int) (((0 + 1 : Nat) : Int) - 1)).2.1 (by omega); omega)
        | succ b =>
          obtain ⟨e, k⟩ := sD i (b + 1) r false hc hr
          rw [e, (wid_t hok (cell_low (cell_low hc)) _ _).2 rfl (by omega)]
          rw [(wid_t hok (cell_low (cell_low hc)) _ _).2 rfl (by omega)] at k
          refine (apT_null k).2 (fun t ht' => ?_)
          rw [hD i (b + 1) r hc hr]
          exact h.dd i b r t hc hr ht'
    · dsimp only
      cases i with
      | zero =>
        rw [(wid_0 (ds := ds) (((0 : Nat) : Int) - 1) (j : Int)).2.2.1 (by omega)]
        simp [toL]
      | succ a =>
        cases j with
        | zero =>
          rw [(wid_0 (ds := ds) (((a + 1 : Nat) : Int) - 1) ((0 : Nat) : Int)).2.1 (by omega)]
          simp [toL]
        | succ b => exact (hB a b r hc hr).2 (fun t ht' => h.ad a b r t hc hr ht')
end
end Go.Proofs.Ytlopenephgabhaa


namespace Go.Proofs.Ytlopenephgabhaa
open Go.RowKit

section
variable {p : Int} {ds : List (List Int)} {ac dn : List (List (List (List Int)))} {i j : Nat}
theorem cl_height (hok : DclOk ds) (hi : i < ds.length) : (clD ds i).length = (ds.getD 0 []).length := by
  unfold clD
  rw [getD_of_lt _ hi]
  exact (hok.col _ (List.getElem_mem hi)).1
theorem tbl_len (h : TbsOk p ds ac dn) (hc : (i, j) ∈ cellsTo ds ds.length) : ((tbl dn (i, j)).length : Int) = (ds.getD i []).getD j 0 := by
  have h1 := (h.tab (i, j) hc).2.1
  simp only [dcl_nat] at h1
  exact h1
end

end Go.Proofs.Ytlopenephgabhaa


namespace Go.Proofs.Ytlopenephgabhaa
open Go.RowKit

/-- Nothing that was there has changed, but the block b. -/
structure But (b : Nat) (w w' : World) : Prop where
  os : w'.os = w.os
  tape : w'.tape = w.tape
  output : w'.output = w.output
  size : w.heap.size ≤ w'.heap.size
  block : ∀ k, k < w.heap.size → k ≠ b → w'.heap[k]? = w.heap[k]?
theorem But.refl (b : Nat) (w : World) : But b w w := ⟨rfl, rfl, rfl, Nat.le_refl _, fun _ _ _ => rfl⟩
theorem But.trans {b : Nat} {x y z : World} (h : But b x y) (k : But b y z) : But b x z :=
  ⟨k.os.trans h.os, k.tape.trans h.tape, k.output.trans h.output, Nat.le_trans h.size k.size, fun i hi hb => (k.block i (Nat.lt_of_lt_of_le hi h.size) hb).trans (h.block i hi hb)⟩
theorem But.of_below {b : Nat} {w w' : World} (h : Below w.heap.size w w') : But b w w' := ⟨h.os, h.tape, h.output, h.size, fun k hk _ => h.block k hk⟩
theorem But.set {b : Nat} (w : World) (i : Nat) (v : Value) : But b w (w.setCell ⟨b, i, none⟩ v) :=
  ⟨rfl, rfl, rfl, by simp, fun k _ hb => Below.heap_setCell w ⟨b, i, none⟩ v k hb⟩
theorem But.below {b B : Nat} {w w' : World} (h : But b w w') (hB : B ≤ w.heap.size) (hb : B ≤ b) : Below B w w' := ⟨h.os, h.tape, h.output, h.size, fun k hk => h.block k (by omega) (by omega)⟩

theorem But.cell {b : Nat} {w w' : World} (h : But b w w') {k o : Nat} (hk : k < w.heap.size) (hb : k ≠ b) : w'.cell? ⟨k, o, none⟩ = w.cell? ⟨k, o, none⟩ := World.cell?_of_block (w := w) (h.block k hk hb)

/-- The path's box at block S, the element's box behind it. -/
structure ElB (W : World) (S : Nat) (f : Int) (mv : Value) (x : Int) (uv : Value) (us : List Int) : Prop where
  a0 : W.cell? ⟨S, 0, none⟩ = some (.int .i64 f)
  a1 : W.cell? ⟨S, 1, none⟩ = some mv
  c0 : W.cell? ⟨S + 1, 0, none⟩ = some (.int .i64 x)
  c1 : W.cell? ⟨S + 1, 1, none⟩ = some uv
  th : W.there (S + 1) 0 2
  l : L1 0 W uv us
theorem ElB.lt {W : World} {S : Nat} {f : Int} {mv : Value} {x : Int} {uv : Value} {us : List Int} (h : ElB W S f mv x uv us) : S + 1 < W.heap.size := cell_lt h.c0
theorem ElB.step {W W' : World} {S : Nat} {f : Int} {mv : Value} {x : Int} {uv : Value} {us : List Int} (h : ElB W S f mv x uv us) (hb : Below W.heap.size W W') {x2 : Int} {u2 : Value} {vs : List Int} (hu : W1 W.heap.size W'.heap.size W' u2 vs) :
    ElB ((W'.setCell ⟨S + 1, 0, none⟩ (.int .i64 x2)).setCell ⟨S + 1, 1, none⟩ u2) S f mv x2 u2 vs := by
  have hl := h.lt
  have d0 := later hb (Nat.le_refl _) h.c0
  have d1 := later hb (Nat.le_refl _) h.c1
  refine ⟨?_, ?_, ?_, ?_, there_set (there_set (there_below h.th hb hl) _ _) _ _, ?_⟩
  · rw [World.cell?_setCell_other _ _ _ _ (by simp), World.cell?_setCell_other _ _ _ _ (by simp)]
    exact later hb (Nat.le_refl _) h.a0
  · rw [World.cell?_setCell_other _ _ _ _ (by simp), World.cell?_setCell_other _ _ _ _ (by simp)]
    exact later hb (Nat.le_refl _) h.a1
  · rw [World.cell?_setCell_other _ _ _ _ (by simp)]
    exact World.cell?_setCell_same _ _ _ d0
  · exact World.cell?_setCell_same _ _ _ (by rw [World.cell?_setCell_other _ _ _ _ (by simp)]; exact d1)
  · exact (stable1 W.heap.size _ _ _ _ ((Keep.set _ hl).trans (Keep.set _ hl)) hu.l1).lower (Nat.zero_le _)
end Go.Proofs.Ytlopenephgabhaa


namespace Go.Proofs.Ytlopenephgabhaa
open Go.RowKit

section
variable {ops : Array Oper} {rest : List Oper} {o : Oper} {a : Act} {w : World} {Q : Exit → Act → World → Prop}
end
/-- The basis vectors of the first n degrees, in order. -/
def bsL (ds : List Int) (n : Nat) : List (Int × Int) := (List.range n).flatMap fun k => (List.range (ds.getD k 0).toNat).map fun (a : Nat) => ((k : Int), (a : Int))
end Go.Proofs.Ytlopenephgabhaa


namespace Go.Proofs.Ytlopenephgabhaa
open Go.RowKit

abbrev PV := (Int × Int) × (Int × Int)
def dg (q : PV) : Int := q.1.1 + q.2.1
/-- The pairs of the degree n. -/
def prF (S : List PV) (n : Int) : List PV := S.filter fun q => dg q == n
def plc (S : List PV) (q : PV) : Nat := (prF S (dg q)).idxOf q
end Go.Proofs.Ytlopenephgabhaa


namespace Go.Proofs.Ytlopenephgabhaa
open Go.RowKit

/-- The pairs when a basis vectors of X are done, and of the next one b of Y. -/
def tsA (X Y : List (Int × Int)) (a : Nat) : List PV := (X.take a).flatMap fun u => Y.map fun v => (u, v)
section
variable {ops : Array Oper} {Q : Exit → Act → World → Prop}
end
theorem Rz.grown {W W' : World} {g : Nat} {t : TypeId} {cs : Array Value} {row : Option Nat} (h : Rz W g t cs) (hg : W.grownBy W' row) (hne : some g ≠ row) : Rz W' g t cs := (hg.block g h.lt hne).trans h
end Go.Proofs.Ytlopenephgabhaa


namespace Go.Proofs.Ytlopenephgabhaa
open Go.RowKit

/-- What PlaceOfPair answers for the pair q. -/
structure PlO (p p2 : Int) (ds : List Int) (ms : List (List (List Int))) (ds2 : List Int) (ms2 : List (List (List Int))) (q : PV) (x c : Int) : Prop where
  good : prCode p p2 ds ms ds2 ms2 = 0 → q ∈ tsA (bsL ds ds.length) (bsL ds2 ds2.length) (bsL ds ds.length).length → x = (plc (tsA (bsL ds ds.length) (bsL ds2 ds2.length) (bsL ds ds.length).length) q : Int) ∧ c = 0
  range : prCode p p2 ds ms ds2 ms2 = 0 → q ∉ tsA (bsL ds ds.length) (bsL ds2 ds2.length) (bsL ds ds.length).length → x = 0 ∧ c = 2
  bad : prCode p p2 ds ms ds2 ms2 ≠ 0 → x = 0 ∧ c = prCode p p2 ds ms ds2 ms2
theorem PlO.unique {p p2 : Int} {ds : List Int} {ms : List (List (List Int))} {ds2 : List Int} {ms2 : List (List (List Int))} {q : PV} {x c y d : Int} (h : PlO p p2 ds ms ds2 ms2 q x c) (k : PlO p p2 ds ms ds2 ms2 q y d) : x = y ∧ c = d := by
  by_cases h0 : prCode p p2 ds ms ds2 ms2 = 0
  · by_cases hq : q ∈ tsA (bsL ds ds.length) (bsL ds2 ds2.length) (bsL ds ds.length).length
    · obtain ⟨a, b⟩ := h.good h0 hq
      obtain ⟨a', b'⟩ := k.good h0 hq
      exact ⟨a.trans a'.symm, b.trans b'.symm⟩
    · obtain ⟨a, b⟩ := h.range h0 hq
      obtain ⟨a', b'⟩ := k.range h0 hq
      exact ⟨a.trans a'.symm, b.trans b'.symm⟩
  · obtain ⟨a, b⟩ := h.bad h0
    obtain ⟨a', b'⟩ := k.bad h0
    exact ⟨a.trans a'.symm, b.trans b'.symm⟩

end Go.Proofs.Ytlopenephgabhaa


namespace Go.Proofs.Ytlopenephgabhaa
open Go.RowKit

def Fam3R (out : List (List (List Int))) (w : World) (e : Ending) (w' : World) : Prop := ∃ u, e = .returned u ∧ Rw3 w.heap.size w'.heap.size w' u out ∧ Below w.heap.size w w'
def Fam3D (n : Nat) (out : List (List (List Int))) (w : World) (e : Ending) (w' : World) : Prop := ∃ g, e = .returned (.slice (some ⟨g, 0, none⟩) n n) ∧ w.heap.size ≤ g ∧ Rw3 w.heap.size w'.heap.size w' (.slice (some ⟨g, 0, none⟩) n n) out ∧ Below w.heap.size w w'
theorem Fam3D.r {n : Nat} {out : List (List (List Int))} {w : World} {e : Ending} {w' : World} (h : Fam3D n out w e w') : Fam3R out w e w' := by
  obtain ⟨g, he, _, hr, hb⟩ := h
  exact ⟨_, he, hr, hb⟩
/-- Dimensions of at most six degrees, each at most 8. -/
structure DsOk (ds : List Int) : Prop where
  len1 : ds.length ≤ 6
  dims : ∀ d ∈ ds, 0 ≤ d ∧ d ≤ 8
theorem DsOk.dim {ds : List Int} (h : DsOk ds) (k : Nat) : 0 ≤ ds.getD k 0 ∧ ds.getD k 0 ≤ 8 := by
  by_cases e : k < ds.length
  · rw [getD_of_lt _ e]
    exact h.dims _ (List.getElem_mem e)
  · rw [List.getD_eq_getElem?_getD, List.getElem?_eq_none (by omega)]
    simp
theorem DsOk.dimZ {ds : List Int} (h : DsOk ds) (n : Int) : 0 ≤ dimZ ds n ∧ dimZ ds n ≤ 8 := by
  unfold Go.Proofs.Ytlopenephgabhaa.dimZ
  by_cases hr : 0 ≤ n ∧ n ≤ (ds.length : Int) - 1
  · rw [if_pos hr]
    exact h.dim _
  · rw [if_neg hr]
    omega
end Go.Proofs.Ytlopenephgabhaa


namespace Go.Proofs.Ytlopenephgabhaa
open Go.RowKit

/-- The first k tables of m, in order, each in blocks of its own. -/
structure FamT (W : World) (G m k : Nat) (f : Nat → Value) (gs rs cs : Nat → Nat) (Z : Nat → Nat → Nat → Int) : Prop where
  row : W.rowIs G 22 m f
  val : ∀ j, j < k → f j = .slice (some ⟨gs j, 0, none⟩) (rs j) (rs j)
  lo : ∀ j, j < k → G < gs j
  inc : ∀ j, j + 1 < k → gs j + 1 + rs j ≤ gs (j + 1)
  tb : ∀ j, j < k → Tb W (gs j) (rs j) (cs j) (Z j)
theorem FamT.below {W W' : World} {G m k : Nat} {f : Nat → Value} {gs rs cs : Nat → Nat} {Z : Nat → Nat → Nat → Int} (h : FamT W G m k f gs rs cs Z) (hb : Below W.heap.size W W') : FamT W' G m k f gs rs cs Z :=
  ⟨h.row.of_block (hb.block _ h.row.lt), h.val, h.lo, h.inc, fun j hj => (h.tb j hj).below hb⟩
theorem FamT.step {W w1 : World} {G m k r c : Nat} {f : Nat → Value} {gs rs cs : Nat → Nat} {Z : Nat → Nat → Nat → Int} (h : FamT W G m k f gs rs cs Z) (_hk : k < m) (hr : r = rs k) (hc : c = cs k) (hm : Mat W w1 r c (Z k)) :
    FamT (w1.setCell ⟨G, k, none⟩ (.slice (some ⟨W.heap.size, 0, none⟩) r r)) G m (k + 1) (fun j => if j = k then .slice (some ⟨W.heap.size, 0, none⟩) r r else f j) (fun j => if j = k then W.heap.size else gs j) rs cs Z := by
  subst hr hc
  have hlt := h.row.lt
  have hb := hm.below
  refine ⟨(h.row.of_block (hb.block _ hlt)).set k _, fun j hj => ?_, fun j hj => ?_, fun j hj => ?_, fun j hj => ?_⟩
  · by_cases e : j = k
    · subst e; simp
    · simp only [if_neg e]; exact h.val j (by omega)
  · by_cases e : j = k
    · simp only [if_pos e]; exact hlt
    · simp only [if_neg e]; exact h.lo j (by omega)
  · have hjk : ¬ j = k := by omega
    simp only [if_neg hjk]
    by_cases e : j + 1 = k
    · simp only [if_pos e]; exact (h.tb j (by omega)).lt
    · simp only [if_neg e]; exact h.inc j (by omega)
  · by_cases e : j = k
    · subst e
      simp only [if_true]
      exact hm.tb.out (Or.inl hlt) _
    · simp only [if_neg e]
      exact ((h.tb j (by omega)).below hb).out (Or.inl (h.lo j (by omega))) _
theorem FamT.ord {W : World} {G m k : Nat} {f : Nat → Value} {gs rs cs : Nat → Nat} {Z : Nat → Nat → Nat → Int} (h : FamT W G m k f gs rs cs Z) {i j : Nat} (hij : i < j) (hj : j < k) : gs i + 1 + rs i ≤ gs j := by
  induction j with
  | zero => exact absurd hij (Nat.not_lt_zero _)
  | succ j ih =>
    have h1 := h.inc j hj
    by_cases e : i = j
    · subst e; exact h1
    · have := ih (by omega) (by omega)
      omega
theorem FamT.congr {W : World} {G m k : Nat} {f : Nat → Value} {gs rs cs : Nat → Nat} {Z Z' : Nat → Nat → Nat → Int} (h : FamT W G m k f gs rs cs Z) (e : ∀ n, n < k → ∀ j, j < rs n → ∀ i, i < cs n → Z n j i = Z' n j i) : FamT W G m k f gs rs cs Z' :=
  ⟨h.row, h.val, h.lo, h.inc, fun j hj => (h.tb j hj).congr (e j hj)⟩
/-- One row is laid anew. -/
theorem FamT.put {W W' : World} {G m k : Nat} {f : Nat → Value} {gs rs cs : Nat → Nat} {Z : Nat → Nat → Nat → Int} (h : FamT W G m k f gs rs cs Z) {n i : Nat} (hn : n < k) (hi : i < rs n) {y : Nat → Int} (hb : But (gs n + 1 + i) W W') (hr : W'.rowIs (gs n + 1 + i) 2 (cs n) (fun q => .int .i64 (y q))) :
    FamT W' G m k f gs rs cs (fun n2 i2 q => if n2 = n ∧ i2 = i then y q else Z n2 i2 q) := by
  have hl := h.lo n hn
  refine ⟨h.row.of_block (hb.block _ h.row.lt (by omega)), h.val, h.lo, h.inc, fun j hj => ?_⟩
  have hT := h.tb j hj
  by_cases e : j = n
  · subst e
    refine ⟨hT.top.of_block (hb.block _ hT.top.lt (by omega)), fun i2 hi2 => ?_, Nat.le_trans hT.lt hb.size⟩
    by_cases e2 : i2 = i
    · subst e2
      exact hr.congr (fun q _ => by simp)
    · exact ((hT.rows i2 hi2).of_block (hb.block _ (hT.rows i2 hi2).lt (by omega))).congr (fun q _ => by simp [e2])
  · have hd : gs j + 1 + rs j ≤ gs n ∨ gs n + 1 + rs n ≤ gs j := by
      by_cases e3 : j < n
      · exact Or.inl (h.ord e3 hn)
      · exact Or.inr (h.ord (by omega) hj)
    refine ⟨hT.top.of_block (hb.block _ hT.top.lt (by omega)), fun i2 hi2 => ?_, Nat.le_trans hT.lt hb.size⟩
    exact ((hT.rows i2 hi2).of_block (hb.block _ (hT.rows i2 hi2).lt (by omega))).congr (fun q _ => by simp [e])
end Go.Proofs.Ytlopenephgabhaa


namespace Go.Proofs.Ytlopenephgabhaa
open Go.RowKit

def MaxR (xs : List Int) (w : World) (e : Ending) (w' : World) : Prop := ∃ m : Int, e = .returned (.int .i64 m) ∧ Below w.heap.size w w' ∧ ∀ B : Int, B < m ↔ ∃ j, j < xs.length ∧ B < xs.getD j 0
theorem max_step {xs : List Int} {k : Nat} {m : Int} (h : ∀ B : Int, B < m ↔ ∃ j, j < k ∧ B < xs.getD j 0) (B : Int) : B < max m (xs.getD k 0) ↔ ∃ j, j < k + 1 ∧ B < xs.getD j 0 := by
  constructor
  · intro hb
    by_cases hm : B < m
    · obtain ⟨j, hj, hx⟩ := (h B).1 hm
      exact ⟨j, by omega, hx⟩
    · exact ⟨k, by omega, by omega⟩
  · rintro ⟨j, hj, hx⟩
    by_cases e : j = k
    · subst e
      omega
    · have := (h B).2 ⟨j, by omega, hx⟩
      omega

set_option maxHeartbeats 1600000 in
set_option maxRecDepth 100000 in
theorem slicesMax_any (vv : Value) (xs : List Int) (w : World) (hv : L1 0 w vv xs) (hne : 0 < xs.length) (hl : xs.length ≤ 1048576) : Calls Try.prog 107 #[vv] w (MaxR xs w) := by
  have HV := Lib.hid (fun W (h : Below w.heap.size w W) => hv.below h)
  refine Sl.cases hv (fun _ _ hx _ => absurd hne (by simp [hx])) (fun bd od cap hvd _ _ hcl => ?_)
  subst hvd
  have HC : Hid (∀ W, Below w.heap.size w W → ∀ j (h : j < xs.length), W.cell? ⟨bd, od + j, none⟩ = some (.int .i64 (xs.getD j 0))) := Lib.hid (fun W hb j hj => by
    refine Sl.cases (HV.out W hb) (fun _ _ hx _ => absurd hne (by simp [hx])) (fun b2 o2 c2 hv2 _ _ hc2 => ?_)
    injection hv2 with k1 _ _
    injection k1 with k1
    injection k1 with k1 k2 _
    subst k1 k2
    obtain ⟨u, hu, hru⟩ := hc2 j hj
    rw [hu, hru, getD_of_lt _ hj])
  have c0 := HC.out w (Below.refl _ _) 0 hne
  rw [Nat.add_zero] at c0
  have hne2 : ¬ (xs.length : Int) < 1 := by omega
  have hne3 : (0 : Int) < (xs.length : Int) := by omega
  have HST : Hid (∀ B : Int, B < xs.getD 0 0 ↔ ∃ j, j < 1 ∧ B < xs.getD j 0) := Lib.hid (fun B => ⟨fun h => ⟨0, by omega, h⟩, fun ⟨j, hj, h⟩ => by rwa [show j = 0 by omega] at h⟩)
  obtain ⟨x0, hx0⟩ : ∃ x, x = xs.getD 0 0 := ⟨_, rfl⟩
  rw [← hx0] at c0
  have HX0 := Lib.hid hx0
  clear hx0
  clear hv hcl HV
  go_enter Try.func107, Try.ntmps107
  go_wp2
  clear c0
  go_loopw [3, 4] (fun s i wr => ∃ (k : Nat) (m : Int), k ≤ xs.length ∧ i = .int .i64 (k : Int) ∧ s = .int .i64 m ∧ Hid (Below w.heap.size w wr) ∧ Hid (∀ B : Int, B < m ↔ ∃ j, j < k ∧ B < xs.getD j 0)) (fun _ i _ => xs.length - (intOf i).toNat)
  case atStart => exact ⟨1, x0, hne, by go_num, rfl, Lib.hid (Below.refl _ _), by rw [HX0.out]; exact HST⟩
  case round =>
    clear HST
    obtain ⟨k, m, hk, rfl, rfl, HB, HM⟩ := hrel
    by_cases hlt : k < xs.length
    · have hki : (k : Int) < (xs.length : Int) := by omega
      have ck := HC.out _ HB.out k hlt
      obtain ⟨x, hx⟩ : ∃ x, x = xs.getD k 0 := ⟨_, rfl⟩
      rw [← hx] at ck
      have HN : Hid (∀ B : Int, B < max m x ↔ ∃ j, j < k + 1 ∧ B < xs.getD j 0) := Lib.hid (by rw [hx]; exact max_step HM.out)
      clear hx
      go_wp2
      go_roundw
      case rel => exact ⟨k + 1, max m x, by omega, by go_num, rfl, HB, HN⟩
      case measure => simp [intOf]; omega
    · have hki : ¬ (k : Int) < (xs.length : Int) := by omega
      have hke : k = xs.length := by omega
      go_wp2
      go_ret
      exact ⟨m, rfl, HB.out, by rw [← hke]; exact HM.out⟩

/-- Beyond the limits of a complex. -/
def Exc (ds : List Int) : Prop := 6 < ds.length ∨ ∃ j, j < ds.length ∧ 8 < ds.getD j 0

set_option maxHeartbeats 1600000 in
set_option maxRecDepth 100000 in
theorem exceedsLimits_any (p : Int) (dv mv : Value) (ds : List Int) (w : World) (h : L1 0 w dv ds) (hne : 0 < ds.length) (hl : ds.length ≤ 1048576) : Calls Try.prog 71 #[.agg #[.int .i64 p, dv, mv]] w (BB (Exc ds) w) := by
  obtain ⟨ad, cap, rfl⟩ := Sl.shape h
  obtain ⟨w1, hw1⟩ : ∃ w1, w1 = w.alloc (.cells #[.int .i64 p, .slice ad ds.length cap, mv] 38) := ⟨_, rfl⟩
  have hb1 : Below w.heap.size w w1 := by rw [hw1]; exact below_alloc1 _ _
  have c0 : w1.cell? ⟨w.heap.size, 0, none⟩ = some (.int .i64 p) := by rw [hw1]; simp
  have c1 : w1.cell? ⟨w.heap.size, 1, none⟩ = some (.slice ad ds.length cap) := by rw [hw1]; simp
  have c2 : w1.cell? ⟨w.heap.size, 2, none⟩ = some mv := by rw [hw1]; simp
  have HL := Lib.hid (h.below hb1)
  have HB1 := Lib.hid hb1
  have HC1 : Hid (∀ W, Below w1.heap.size w1 W → W.cell? ⟨w.heap.size, 1, none⟩ = some (.slice ad ds.length cap)) := Lib.hid (fun W h => later h (by rw [hw1]; simp) c1)
  clear h hb1
  go_enter Try.func71, Try.ntmps71
  go_upto_region 1 with fail
  rw [← hw1]
  clear hw1
  go_wp2_with fail
  refine (topOf_any p _ _ ds.length ad cap w1 rfl hl).mono ?_
  rintro ee w2 ⟨rfl, hb2⟩
  have HL2 := Lib.hid (HL.out.below hb2)
  have HB2 := Lib.hid (HB1.out.trans (hb2.mono HB1.out.size))
  have c1' := HC1.out w2 hb2
  clear c0 c1 c2
  by_cases h6 : 6 < ds.length
  · have hg : (5 : Int) < (ds.length : Int) - 1 := by omega
    clear hb2
    go_wp2
    go_ret
    exact bb_true HB2.out (Or.inl h6)
  · have hg : ¬ (5 : Int) < (ds.length : Int) - 1 := by omega
    clear hb2
    go_wp2_with fail
    refine (slicesMax_any _ ds w2 HL2.out hne hl).mono ?_
    rintro ee w3 ⟨m, rfl, hb3, hm⟩
    have HB3 := Lib.hid (HB2.out.trans (hb3.mono HB2.out.size))
    have HM := Lib.hid (hm 8)
    clear hb3 hm c1'
    by_cases h8 : 8 < m
    · have h8' := Lib.hid h8
      go_wp2
      go_ret
      exact bb_true HB3.out (Or.inr (HM.out.1 h8'.out))
    · have h8' := Lib.hid h8
      go_wp2
      go_ret
      refine ⟨decide ((5 : Int) < (ds.length : Int) - 1) || decide ((8 : Int) < m), rfl, HB3.out, ?_⟩
      have e1 : decide ((5 : Int) < (ds.length : Int) - 1) = false := decide_eq_false (by omega)
      have e2 : decide ((8 : Int) < m) = false := decide_eq_false (by omega)
      rw [e1, e2]
      refine ⟨fun hh => (by cases hh), ?_⟩
      rintro (hh | hh)
      · exact absurd hh (by omega)
      · exact absurd (HM.out.2 hh) (by omega)

end Go.Proofs.Ytlopenephgabhaa

namespace Go.Proofs.Ytlopenephgabhaa
open Go.RowKit

end Go.Proofs.Ytlopenephgabhaa

namespace Go.Proofs.Ytlopenephgabhaa
open Go.RowKit

end Go.Proofs.Ytlopenephgabhaa

namespace Go.Proofs.Ytlopenephgabhaa
open Go.RowKit

end Go.Proofs.Ytlopenephgabhaa

namespace Go.Proofs.Ytlopenephgabhaa
open Go.RowKit

section
variable {P : Program} {md : Region.Mode} {ops : Array Oper} {n : Nat} {Q : Exit → Act → World → Prop}
end

end Go.Proofs.Ytlopenephgabhaa


namespace Go.Proofs.Ytlopenephgabhaa
open Go.RowKit

def toO (p : Int) (ds : List (List Int)) (ac dn : List (List (List (List Int)))) : Co := (p, tD ds, tM ds ac dn)
open Classical in
noncomputable def toCode (p : Int) (ds : List (List Int)) (ac dn : List (List (List (List Int)))) : Int := if IsDb p ds ac dn then (if Exc (tD ds) then 3 else 0) else 1
theorem toCode_1 {p : Int} {ds : List (List Int)} {ac dn : List (List (List (List Int)))} (h : ¬ IsDb p ds ac dn) : toCode p ds ac dn = 1 := if_neg h
theorem toCode_3 {p : Int} {ds : List (List Int)} {ac dn : List (List (List (List Int)))} (h : IsDb p ds ac dn) (hi : Exc (tD ds)) : toCode p ds ac dn = 3 := by unfold toCode; rw [if_pos h, if_pos hi]
theorem toCode_0 {p : Int} {ds : List (List Int)} {ac dn : List (List (List (List Int)))} (h : IsDb p ds ac dn) (hi : ¬ Exc (tD ds)) : toCode p ds ac dn = 0 := by unfold toCode; rw [if_pos h, if_neg hi]
theorem toCode_zero {p : Int} {ds : List (List Int)} {ac dn : List (List (List (List Int)))} (h : toCode p ds ac dn = 0) : IsDb p ds ac dn ∧ ¬ Exc (tD ds) := by
  by_cases hc : IsDb p ds ac dn
  · by_cases hp : Exc (tD ds)
    · rw [toCode_3 hc hp] at h; cases h
    · exact ⟨hc, hp⟩
  · rw [toCode_1 hc] at h; cases h

set_option maxHeartbeats 3200000 in
set_option maxRecDepth 100000 in
theorem totalOf_any (p : Int) (dv av vv : Value) (ds : List (List Int)) (ac dn : List (List (List (List Int)))) (w : World) (h : Dx 0 w dv av vv ds ac dn) (hbd : Bd2 1048576 ds) (hba : Bd4 1048576 ac) (hbv : Bd4 1048576 dn) :
    Calls Try.prog 30 #[.agg #[.int .i64 p, dv, av, vv]] w (AnsW RwC (fun o => o = toO p ds ac dn) (0, [], []) (toCode p ds ac dn) w) := by
  have hres : Try.f30.results = #[.cell 2 38, .tmp 3] := by kernel_rfl
  have HRES := Lib.hid hres
  obtain ⟨w1, hw1⟩ : ∃ w1, w1 = (w.alloc (.cells #[.int .i64 p, dv, av, vv] 28)).alloc (.cells #[.int .i64 0, .slice none 0 0, .slice none 0 0] 38) := ⟨_, rfl⟩
  have HX1 : Hid (DBx w w1 w.heap.size p dv av vv ds ac dn) := Lib.hid (by rw [hw1]; exact (DBx.start 28 h).next (below_alloc1 _ _))
  have HS1 : Hid (w.heap.size + 1 < w1.heap.size) := Lib.hid (by rw [hw1]; simp)
  have HR0 : Hid (∃ x y z, w1.heap[w.heap.size + 1]? = some (.cells #[x, y, z] 38)) := Lib.hid ⟨_, _, _, by rw [hw1]; have := heap_alloc_new (w.alloc (.cells #[.int .i64 p, dv, av, vv] 28)) (.cells #[.int .i64 0, .slice none 0 0, .slice none 0 0] 38); simpa using this⟩
  have HID := Lib.hid (isDouble_any p dv av vv ds ac dn w1 HX1.out.dx hbd hba hbv)
  have c0 := HX1.out.c0
  have c1 := HX1.out.c1
  have c2 := HX1.out.c2
  have c3 := HX1.out.c3
  obtain ⟨cc, hcc⟩ : ∃ cc, cc = toCode p ds ac dn := ⟨_, rfl⟩
  have HCC := Lib.hid hcc
  rw [← hcc]
  clear hres h hbd hba hbv hcc
  go_enter Try.func30, Try.ntmps30
  go_upto_region 1 with fail
  rw [← hw1]
  clear hw1
  go_wp2_with fail
  refine HID.out.mono ?_
  rintro e w2 ⟨bb, rfl, hb2, hbb⟩
  have HX2 := Lib.hid (HX1.out.next hb2)
  have HBB := Lib.hid hbb
  have HS2 : Hid (w.heap.size + 1 < w2.heap.size) := Lib.hid (by have := HS1.out; have := hb2.size; omega)
  have HR2 : Hid (∃ x y z, w2.heap[w.heap.size + 1]? = some (.cells #[x, y, z] 38)) := Lib.hid (by obtain ⟨x, y, z, hh⟩ := HR0.out; exact ⟨x, y, z, by rw [hb2.block (w.heap.size + 1) HS1.out]; exact hh⟩)
  clear hb2 hbb c0 c1 c2 c3 HID HR0 HX1
  cases bb with
  | false =>
    have hno : ¬ IsDb p ds ac dn := fun h => by have := HBB.out.2 h; cases this
    obtain rfl : cc = 1 := HCC.out.trans (toCode_1 hno)
    clear hno
    obtain ⟨x, y, z, hr⟩ := HR2.out
    have hrow : w2.rowIs (w.heap.size + 1) 38 3 (sel3 x y z) := rowIs3 hr
    have q0 : w2.cell? ⟨w.heap.size + 1, 0, none⟩ = some x := hrow.cell (i := 0) (by omega)
    have z0 : w2.frozen? ⟨w.heap.size + 1, 0, none⟩ = false := hrow.frozen 0
    have r1 := hrow.set 0 (.int .i64 0)
    have q1 : (w2.setCell ⟨w.heap.size + 1, 0, none⟩ (.int .i64 0)).cell? ⟨w.heap.size + 1, 1, none⟩ = some y := r1.cell (i := 1) (by omega)
    have z1 : (w2.setCell ⟨w.heap.size + 1, 0, none⟩ (.int .i64 0)).frozen? ⟨w.heap.size + 1, 1, none⟩ = false := r1.frozen 1
    have r2 := r1.set 1 (.slice none 0 0)
    have q2 : ((w2.setCell ⟨w.heap.size + 1, 0, none⟩ (.int .i64 0)).setCell ⟨w.heap.size + 1, 1, none⟩ (.slice none 0 0)).cell? ⟨w.heap.size + 1, 2, none⟩ = some z := r2.cell (i := 2) (by omega)
    have z2 : ((w2.setCell ⟨w.heap.size + 1, 0, none⟩ (.int .i64 0)).setCell ⟨w.heap.size + 1, 1, none⟩ (.slice none 0 0)).frozen? ⟨w.heap.size + 1, 2, none⟩ = false := r2.frozen 2
    have r3 := r2.set 2 (.slice none 0 0)
    obtain ⟨WF, hWF⟩ : ∃ W : World, W = (((w2.setCell ⟨w.heap.size + 1, 0, none⟩ (.int .i64 0)).setCell ⟨w.heap.size + 1, 1, none⟩ (.slice none 0 0)).setCell ⟨w.heap.size + 1, 2, none⟩ (.slice none 0 0)) := ⟨_, rfl⟩
    have hsF : WF.heap.size = w2.heap.size := by rw [hWF]; simp
    have hkF : ∀ lo hi, w.heap.size + 1 < lo → Same lo hi w2 WF := fun lo hi hl => by rw [hWF]; exact ((Same.set _ (Or.inl hl)).trans (Same.set _ (Or.inl hl))).trans (Same.set _ (Or.inl hl))
    have HB : Hid (Below w.heap.size w WF) := Lib.hid (by
      rw [hWF]
      exact (((HX2.out.below).setCell (by show w.heap.size ≤ w.heap.size + 1; omega) _).setCell (by show w.heap.size ≤ w.heap.size + 1; omega) _).setCell (by show w.heap.size ≤ w.heap.size + 1; omega) _)
    rw [← hWF] at r3
    have f0 : WF.cell? ⟨w.heap.size + 1, 0, none⟩ = some (.int .i64 0) := r3.cell (i := 0) (by omega)
    have f1 : WF.cell? ⟨w.heap.size + 1, 1, none⟩ = some (.slice none 0 0) := r3.cell (i := 1) (by omega)
    have f2 : WF.cell? ⟨w.heap.size + 1, 2, none⟩ = some (.slice none 0 0) := r3.cell (i := 2) (by omega)
    have HWF := Lib.hid hWF
    clear hr hrow r1 r2 r3 hWF
    go_wp2
    rw [← HWF.out]
    refine bodyPost_ret (v := .tuple #[.agg #[.int .i64 0, .slice none 0 0, .slice none 0 0], .int .i64 1]) ?_ rfl ?_
    · simp only [results, HRES.out]
      go_simp
    · exact ⟨_, (0, [], []), 1, rfl, RwC.nil _ _ _, HB.out, RsOut.of_no (by decide)⟩
  | true =>
    have HDB : Hid (IsDb p ds ac dn) := Lib.hid (HBB.out.1 rfl)
    have c0 := HX2.out.c0
    have c1 := HX2.out.c1
    have c2 := HX2.out.c2
    have c3 := HX2.out.c3
    have HTC := Lib.hid (totalComplex_any p HDB.out.prime dv av vv ds ac dn w2 HX2.out.dx HDB.out.cel HDB.out.tbs)
    clear HBB
    go_wp2_with fail
    refine HTC.out.mono ?_
    rintro e w3 ⟨u, rfl, ⟨ad, cd, am, cm, hu, hrc⟩, hb3⟩
    have hu : u = .agg #[.int .i64 p, .slice ad (tD ds).length cd, .slice am (tM ds ac dn).length cm] := hu
    subst hu
    have HRC3 : Hid (RcW w2.heap.size w3.heap.size w3 (.slice ad (tD ds).length cd) (.slice am (tM ds ac dn).length cm) (tD ds) (tM ds ac dn)) := Lib.hid hrc
    have HB3 := Lib.hid hb3
    clear hrc c0 c1 c2 c3 HTC
    obtain ⟨ql, hql⟩ : ∃ q, q = (tD ds).length := ⟨_, rfl⟩
    obtain ⟨qm, hqm⟩ : ∃ q, q = (tM ds ac dn).length := ⟨_, rfl⟩
    have HQL := Lib.hid hql
    have HQM := Lib.hid hqm
    have hq1 : 0 < ql := by rw [hql, tD_len]; omega
    rw [← hql, ← hqm] at HRC3 ⊢
    clear hql hqm hb3
    go_upto_region 4 with fail
    obtain ⟨w4, hw4⟩ : ∃ w4, w4 = w3.alloc (.cells #[.int .i64 p, .slice ad ql cd, .slice am qm cm] 38) := ⟨_, rfl⟩
    have hb4 : Below w3.heap.size w3 w4 := by rw [hw4]; exact below_alloc1 _ _
    have b0 : w4.cell? ⟨w3.heap.size, 0, none⟩ = some (.int .i64 p) := by rw [hw4]; simp
    have b1 : w4.cell? ⟨w3.heap.size, 1, none⟩ = some (.slice ad ql cd) := by rw [hw4]; simp
    have b2 : w4.cell? ⟨w3.heap.size, 2, none⟩ = some (.slice am qm cm) := by rw [hw4]; simp
    have hlt4 : w3.heap.size < w4.heap.size := by rw [hw4]; simp
    rw [← hw4]
    clear hw4
    have HL1 := Lib.hid (HRC3.out.cx.dims.below hb4)
    have hql8 : ql ≤ 1048576 := by have h1 := HQL.out; have h2 := tD_len ds; have h3 := HDB.out.cel.len1; have h4 := HDB.out.cel.h1; unfold ttop at h2; omega
    have HEX : Hid (Calls Try.prog 71 #[.agg #[.int .i64 p, .slice ad ql cd, .slice am qm cm]] w4 (BB (Exc (tD ds)) w4)) := Lib.hid (exceedsLimits_any p _ _ (tD ds) w4 (Sl.lower (Nat.zero_le _) (fun _ _ _ h => h) HL1.out) (by rw [← HQL.out]; exact hq1) (by rw [← HQL.out]; exact hql8))
    have HB4 := Lib.hid hb4
    go_wp2_with fail
    refine HEX.out.mono ?_
    rintro e w5 ⟨b5, rfl, hb5, hbe⟩
    have HBE := Lib.hid hbe
    have d0 := later hb5 (Nat.le_refl _) b0
    have d1 := later hb5 (Nat.le_refl _) b1
    have d2 := later hb5 (Nat.le_refl _) b2
    have HB5 : Hid (Below w3.heap.size w3 w5) := Lib.hid (HB4.out.trans (hb5.mono HB4.out.size))
    have HB25 : Hid (Below w2.heap.size w2 w5) := Lib.hid (HB3.out.trans (HB5.out.mono HB3.out.size))
    have HR5 : Hid (∃ x y z, w5.heap[w.heap.size + 1]? = some (.cells #[x, y, z] 38)) := Lib.hid (by obtain ⟨x, y, z, hh⟩ := HR2.out; exact ⟨x, y, z, by rw [HB25.out.block (w.heap.size + 1) HS2.out]; exact hh⟩)
    have hne3 : w.heap.size + 1 < w3.heap.size := by have := HS2.out; have := HB3.out.size; omega
    clear hb5 hbe b0 b1 b2 HEX hb4 HL1
    cases b5 with
    | true =>
      obtain rfl : cc = 3 := HCC.out.trans (toCode_3 HDB.out (HBE.out.1 rfl))
      clear d0 d1 d2
      obtain ⟨x, y, z, hr⟩ := HR5.out
      have hrow : w5.rowIs (w.heap.size + 1) 38 3 (sel3 x y z) := rowIs3 hr
      have q0 : w5.cell? ⟨w.heap.size + 1, 0, none⟩ = some x := hrow.cell (i := 0) (by omega)
      have z0 : w5.frozen? ⟨w.heap.size + 1, 0, none⟩ = false := hrow.frozen 0
      have r1 := hrow.set 0 (.int .i64 0)
      have q1 : (w5.setCell ⟨w.heap.size + 1, 0, none⟩ (.int .i64 0)).cell? ⟨w.heap.size + 1, 1, none⟩ = some y := r1.cell (i := 1) (by omega)
      have z1 : (w5.setCell ⟨w.heap.size + 1, 0, none⟩ (.int .i64 0)).frozen? ⟨w.heap.size + 1, 1, none⟩ = false := r1.frozen 1
      have r2 := r1.set 1 (.slice none 0 0)
      have q2 : ((w5.setCell ⟨w.heap.size + 1, 0, none⟩ (.int .i64 0)).setCell ⟨w.heap.size + 1, 1, none⟩ (.slice none 0 0)).cell? ⟨w.heap.size + 1, 2, none⟩ = some z := r2.cell (i := 2) (by omega)
      have z2 : ((w5.setCell ⟨w.heap.size + 1, 0, none⟩ (.int .i64 0)).setCell ⟨w.heap.size + 1, 1, none⟩ (.slice none 0 0)).frozen? ⟨w.heap.size + 1, 2, none⟩ = false := r2.frozen 2
      have r3 := r2.set 2 (.slice none 0 0)
      obtain ⟨WF, hWF⟩ : ∃ W : World, W = (((w5.setCell ⟨w.heap.size + 1, 0, none⟩ (.int .i64 0)).setCell ⟨w.heap.size + 1, 1, none⟩ (.slice none 0 0)).setCell ⟨w.heap.size + 1, 2, none⟩ (.slice none 0 0)) := ⟨_, rfl⟩
      have hsF : WF.heap.size = w5.heap.size := by rw [hWF]; simp
      have hkF : ∀ lo hi, w.heap.size + 1 < lo → Same lo hi w5 WF := fun lo hi hl => by rw [hWF]; exact ((Same.set _ (Or.inl hl)).trans (Same.set _ (Or.inl hl))).trans (Same.set _ (Or.inl hl))
      have HB : Hid (Below w.heap.size w WF) := Lib.hid (by
        rw [hWF]
        exact (((HX2.out.below.trans (HB25.out.mono HX2.out.below.size)).setCell (by show w.heap.size ≤ w.heap.size + 1; omega) _).setCell (by show w.heap.size ≤ w.heap.size + 1; omega) _).setCell (by show w.heap.size ≤ w.heap.size + 1; omega) _)
      rw [← hWF] at r3
      have f0 : WF.cell? ⟨w.heap.size + 1, 0, none⟩ = some (.int .i64 0) := r3.cell (i := 0) (by omega)
      have f1 : WF.cell? ⟨w.heap.size + 1, 1, none⟩ = some (.slice none 0 0) := r3.cell (i := 1) (by omega)
      have f2 : WF.cell? ⟨w.heap.size + 1, 2, none⟩ = some (.slice none 0 0) := r3.cell (i := 2) (by omega)
      have HWF := Lib.hid hWF
      clear hr hrow r1 r2 r3 hWF
      go_wp2
      rw [← HWF.out]
      refine bodyPost_ret (v := .tuple #[.agg #[.int .i64 0, .slice none 0 0, .slice none 0 0], .int .i64 3]) ?_ rfl ?_
      · simp only [results, HRES.out]
        go_simp
      · exact ⟨_, (0, [], []), 3, rfl, RwC.nil _ _ _, HB.out, RsOut.of_no (by decide)⟩
    | false =>
      have hnx : ¬ Exc (tD ds) := fun h => by have := HBE.out.2 h; cases this
      obtain rfl : cc = 0 := HCC.out.trans (toCode_0 HDB.out hnx)
      clear hnx
      obtain ⟨x, y, z, hr⟩ := HR5.out
      have hrow : w5.rowIs (w.heap.size + 1) 38 3 (sel3 x y z) := rowIs3 hr
      have q0 : w5.cell? ⟨w.heap.size + 1, 0, none⟩ = some x := hrow.cell (i := 0) (by omega)
      have z0 : w5.frozen? ⟨w.heap.size + 1, 0, none⟩ = false := hrow.frozen 0
      have r1 := hrow.set 0 (.int .i64 p)
      have q1 : (w5.setCell ⟨w.heap.size + 1, 0, none⟩ (.int .i64 p)).cell? ⟨w.heap.size + 1, 1, none⟩ = some y := r1.cell (i := 1) (by omega)
      have z1 : (w5.setCell ⟨w.heap.size + 1, 0, none⟩ (.int .i64 p)).frozen? ⟨w.heap.size + 1, 1, none⟩ = false := r1.frozen 1
      have r2 := r1.set 1 (.slice ad ql cd)
      have q2 : ((w5.setCell ⟨w.heap.size + 1, 0, none⟩ (.int .i64 p)).setCell ⟨w.heap.size + 1, 1, none⟩ (.slice ad ql cd)).cell? ⟨w.heap.size + 1, 2, none⟩ = some z := r2.cell (i := 2) (by omega)
      have z2 : ((w5.setCell ⟨w.heap.size + 1, 0, none⟩ (.int .i64 p)).setCell ⟨w.heap.size + 1, 1, none⟩ (.slice ad ql cd)).frozen? ⟨w.heap.size + 1, 2, none⟩ = false := r2.frozen 2
      have r3 := r2.set 2 (.slice am qm cm)
      obtain ⟨WF, hWF⟩ : ∃ W : World, W = (((w5.setCell ⟨w.heap.size + 1, 0, none⟩ (.int .i64 p)).setCell ⟨w.heap.size + 1, 1, none⟩ (.slice ad ql cd)).setCell ⟨w.heap.size + 1, 2, none⟩ (.slice am qm cm)) := ⟨_, rfl⟩
      have hsF : WF.heap.size = w5.heap.size := by rw [hWF]; simp
      have hkF : ∀ lo hi, w.heap.size + 1 < lo → Same lo hi w5 WF := fun lo hi hl => by rw [hWF]; exact ((Same.set _ (Or.inl hl)).trans (Same.set _ (Or.inl hl))).trans (Same.set _ (Or.inl hl))
      have HB : Hid (Below w.heap.size w WF) := Lib.hid (by
        rw [hWF]
        exact (((HX2.out.below.trans (HB25.out.mono HX2.out.below.size)).setCell (by show w.heap.size ≤ w.heap.size + 1; omega) _).setCell (by show w.heap.size ≤ w.heap.size + 1; omega) _).setCell (by show w.heap.size ≤ w.heap.size + 1; omega) _)
      rw [← hWF] at r3
      have f0 : WF.cell? ⟨w.heap.size + 1, 0, none⟩ = some (.int .i64 p) := r3.cell (i := 0) (by omega)
      have f1 : WF.cell? ⟨w.heap.size + 1, 1, none⟩ = some (.slice ad ql cd) := r3.cell (i := 1) (by omega)
      have f2 : WF.cell? ⟨w.heap.size + 1, 2, none⟩ = some (.slice am qm cm) := r3.cell (i := 2) (by omega)
      have HWF := Lib.hid hWF
      clear hr hrow r1 r2 r3 hWF
      go_wp2
      rw [← HWF.out]
      refine bodyPost_ret (v := .tuple #[.agg #[.int .i64 p, .slice ad ql cd, .slice am qm cm], .int .i64 0]) ?_ rfl ?_
      · simp only [results, HRES.out]
        go_simp
      · refine ⟨_, toO p ds ac dn, 0, rfl, ⟨ad, cd, am, cm, ?_, ?_⟩, HB.out, RsOut.of_yes rfl rfl⟩
        · show _ = Value.agg #[.int .i64 p, .slice ad (tD ds).length cd, .slice am (tM ds ac dn).length cm]
          rw [← HQL.out, ← HQM.out]
        · show RcW w.heap.size WF.heap.size WF (.slice ad (tD ds).length cd) (.slice am (tM ds ac dn).length cm) (tD ds) (tM ds ac dn)
          rw [← HQL.out, ← HQM.out]
          have h2 := HS2.out
          have h5 := HB5.out.size
          exact ((HRC3.out.same (Same.of_below HB5.out (Nat.le_refl _))).same (hkF _ _ h2)).wider (by omega) (by omega)
end Go.Proofs.Ytlopenephgabhaa


namespace Go.Proofs.Ytlopenephgabhaa
open Go.RowKit

/-- The dimension of the cell of the column m and the degree n, 0 where there is none. -/
def tgD (ds : List (List Int)) (n m : Nat) : Nat := if n - m < (ds.getD m []).length then cdim ds (m, n - m) else 0
section
variable {p : Int} {ds : List (List Int)} {ac dn : List (List (List (List Int)))} {n m i y z : Nat}
theorem lvk_fin (b : Bool) (h : m ≤ n) : lvk ds b n m (tgD ds n m) = lvp ds b n (m + 1) := by
  unfold tgD
  by_cases h2 : n - m < (ds.getD m []).length
  · rw [if_pos h2, lvk_all h h2]
  · rw [if_neg h2, lvk_zero, lvp_no h2]
theorem rwk_fin (h : m ≤ n) : rwk ds ac dn n m (tgD ds n m) = rwp ds ac dn n (m + 1) := by
  unfold tgD
  by_cases h2 : n - m < (ds.getD m []).length
  · rw [if_pos h2, rwk_all h h2]
  · rw [if_neg h2, rwk_zero, rwp_no h2]
theorem tg_lt (h : z < (ds.getD m []).length) : m < ds.length := by
  by_cases hm : m < ds.length
  · exact hm
  · have : ds.getD m [] = [] := by simp [List.getD_eq_getElem?_getD, show ds.length ≤ m by omega]
    rw [this] at h
    exact absurd h (Nat.not_lt_zero _)
theorem tg_mem (h : n - m < (ds.getD m []).length) : (m, n - m) ∈ cellsTo ds ds.length := mem_cells.2 ⟨tg_lt h, h⟩
theorem tg_in (h : y < tgD ds n m) : n - m < (ds.getD m []).length ∧ y < cdim ds (m, n - m) := by
  unfold tgD at h
  by_cases h2 : n - m < (ds.getD m []).length
  · rw [if_pos h2] at h; exact ⟨h2, h⟩
  · rw [if_neg h2] at h; exact absurd h (Nat.not_lt_zero _)
theorem tg_dco (hok : DclOk ds) (n m : Nat) : dco ds (m : Int) ((n - m : Nat) : Int) = ((tgD ds n m : Nat) : Int) := by
  unfold tgD
  by_cases h2 : n - m < (ds.getD m []).length
  · rw [if_pos h2]
    exact dco_cell hok (c := (m, n - m)) (tg_mem h2)
  · rw [if_neg h2]
    refine if_neg (fun h => h2 ?_)
    have hh : (ds.getD m []).length = (ds.getD 0 []).length := cl_height hok (by have := h.2.1; omega)
    have := h.2.2.2
    omega
theorem tgD_le (hok : DclOk ds) (n m : Nat) : tgD ds n m ≤ 4 := by
  unfold tgD
  by_cases h2 : n - m < (ds.getD m []).length
  · rw [if_pos h2]
    exact (cdim_cast hok (tg_mem h2)).2
  · rw [if_neg h2]
    omega
theorem tg_len_a (ht : TbsOk p ds ac dn) (hc : (i, y) ∈ cellsTo ds ds.length) : (tbl ac (i, y)).length = cdim ds (i, y) := by
  have h1 := (ht.tab (i, y) hc).1.1
  simp only [dcl_nat] at h1
  show _ = ((ds.getD i []).getD y 0).toNat
  have h2 : ((tbl ac (i, y)).length : Int) = (ds.getD i []).getD y 0 := h1
  omega
theorem tg_len_d (ht : TbsOk p ds ac dn) (hc : (i, y) ∈ cellsTo ds ds.length) : (tbl dn (i, y)).length = cdim ds (i, y) := by
  have h2 := tbl_len ht hc
  show _ = ((ds.getD i []).getD y 0).toNat
  omega
theorem tg_left (hok : DclOk ds) (h : n - i < (ds.getD i []).length) (hz : z + 1 = i) (hi : i ≤ n) : n - 1 - z < (ds.getD z []).length := by
  have hil := tg_lt h
  have e1 : (ds.getD i []).length = (ds.getD 0 []).length := cl_height hok hil
  have e2 : (ds.getD z []).length = (ds.getD 0 []).length := cl_height hok (by omega)
  omega
theorem trp_a (hok : DclOk ds) (h : n - i < (ds.getD i []).length) (hz : z + 1 = i) (hi : i ≤ n) (y : Nat) : trp ds ac dn (n - 1) (i, n - i) y (z + 1) = trp ds ac dn (n - 1) (i, n - i) y z ++ (tbl ac (i, n - i)).getD y [] := by
  rw [trp_yes (i, n - i) y (by omega) (tg_left hok h hz hi), prt_a y ⟨hz, by show n - 1 - z = n - i; omega⟩]
theorem trp_d (h : n - i < (ds.getD i []).length) (hz : i < n) (y : Nat) : trp ds ac dn (n - 1) (i, n - i) y (i + 1) = trp ds ac dn (n - 1) (i, n - i) y i ++ (tbl dn (i, n - i)).getD y [] := by
  rw [trp_yes (i, n - i) y (by omega) (by omega), prt_d (f := (i, n - i)) (c := (i, n - 1 - i)) y ⟨rfl, by show n - 1 - i + 1 = n - i; omega⟩]
theorem trp_o (hz : z < n) (h1 : z + 1 ≠ i) (h2 : z ≠ i) (y : Nat) : trp ds ac dn (n - 1) (i, n - i) y (z + 1) = trp ds ac dn (n - 1) (i, n - i) y z ++ List.replicate (tgD ds (n - 1) z) 0 := by
  unfold tgD
  by_cases hc : n - 1 - z < (ds.getD z []).length
  · rw [if_pos hc, trp_yes (i, n - i) y (by omega) hc, prt_o y (fun h => h1 h.1) (fun h => h2 h.1)]
  · rw [if_neg hc, trp_no (i, n - i) y hc]
    simp
theorem tg_row_a (hok : DclOk ds) (ht : TbsOk p ds ac dn) (hi : i ≤ n) (h : y < tgD ds n i) : ((tbl ac (i, n - i)).getD y []).length ≤ 4 := by
  obtain ⟨h1, h2⟩ := tg_in h
  have ht1 := (ht.tab (i, n - i) (tg_mem h1)).1
  have hl := tg_len_a ht (tg_mem h1)
  have hy : y < (tbl ac (i, n - i)).length := by omega
  have hx := (ht1.2 _ (List.getElem_mem hy)).1
  rw [getD_of_lt _ hy]
  by_cases h0 : i = 0
  · subst h0
    have e : dcl ds ((0 : Nat) - 1 : Int) ((n - 0 : Nat) : Int) = 0 := if_pos (Or.inl (by omega))
    have := hx.trans e
    omega
  · obtain ⟨j, rfl⟩ : ∃ j, i = j + 1 := ⟨i - 1, by omega⟩
    have hc : (j, n - (j + 1)) ∈ cellsTo ds ds.length := cell_left hok (tg_mem h1)
    have h5 := cdim_cast hok hc
    have e : dcl ds (((j + 1 : Nat) : Int) - 1) ((n - (j + 1) : Nat) : Int) = dcl ds (j : Int) ((n - (j + 1) : Nat) : Int) := by rw [show (((j + 1 : Nat) : Int) - 1) = (j : Int) by omega]
    have h6 := hx.trans e
    have h7 := h5.1
    have h8 := h5.2
    simp only at h7
    omega
theorem tg_row_d (hok : DclOk ds) (ht : TbsOk p ds ac dn) (hi : i < n) (h : y < tgD ds n i) : ((tbl dn (i, n - i)).getD y []).length ≤ 4 := by
  obtain ⟨h1, h2⟩ := tg_in h
  have ht1 := (ht.tab (i, n - i) (tg_mem h1)).2
  have hl := tg_len_d ht (tg_mem h1)
  have hy : y < (tbl dn (i, n - i)).length := by omega
  have hx := (ht1.2 _ (List.getElem_mem hy)).1
  rw [getD_of_lt _ hy]
  have hc : (i, n - 1 - i) ∈ cellsTo ds ds.length := mem_cells.2 ⟨tg_lt h1, by show n - 1 - i < (ds.getD i []).length; omega⟩
  have h5 := cdim_cast hok hc
  have e : dcl ds (i : Int) (((n - i : Nat) : Int) - 1) = dcl ds (i : Int) ((n - 1 - i : Nat) : Int) := by rw [show (((n - i : Nat) : Int) - 1) = ((n - 1 - i : Nat) : Int) by omega]
  have h6 := hx.trans e
  have h7 := h5.1
  have h8 := h5.2
  simp only at h7
  omega
theorem lvk_rwk_len (b : Bool) (k : Nat) : (lvk ds b n m k).length = (rwk ds ac dn n m k).length := by
  unfold lvk rwk
  rw [List.length_append, List.length_append]
  have : (lvp ds b n m).length = (rwp ds ac dn n m).length := by
    unfold lvp rwp
    rw [List.length_flatMap, List.length_flatMap]
    simp
  simp [this]
theorem lvp_le (hok : DclOk ds) (b : Bool) (n : Nat) : ∀ m, (lvp ds b n m).length ≤ 4 * m
  | 0 => by simp [lvp, dgp_zero]
  | m + 1 => by
    have ih := lvp_le hok b n m
    by_cases h : m ≤ n
    · have h1 := tgD_le hok n m
      rw [← lvk_fin b h]
      unfold lvk
      simp
      omega
    · unfold lvp at ih ⊢
      rw [dgp_stay (Or.inl (by omega))]
      omega
theorem lvk_le (hok : DclOk ds) (b : Bool) (n m k : Nat) : (lvk ds b n m k).length ≤ 4 * m + k := by
  have := lvp_le hok b n m
  unfold lvk
  simp
  omega
theorem tg_fits (h : ¬ Exc (tD ds)) : ttop ds ≤ 5 ∧ ∀ n, n ≤ ttop ds → tdim ds n ≤ 8 := by
  have hl := tD_len ds
  refine ⟨?_, fun n hn => ?_⟩
  · by_cases h1 : ttop ds ≤ 5
    · exact h1
    · exact absurd (Or.inl (by omega)) h
  · by_cases h1 : tdim ds n ≤ 8
    · exact h1
    · exact absurd (Or.inr ⟨n, by omega, by rw [tD_at (by omega)]; omega⟩) h
theorem tg_top (h : 5 < ttop ds) : Exc (tD ds) := Or.inl (by have := tD_len ds; omega)
theorem tg_big (hn : n ≤ ttop ds) (h : 8 < tdim ds n) : Exc (tD ds) := Or.inr ⟨n, by have := tD_len ds; omega, by rw [tD_at (by omega)]; omega⟩
theorem tg_not (h : ttop ds ≤ 5) (h2 : ∀ n, n ≤ ttop ds → tdim ds n ≤ 8) : ¬ Exc (tD ds) := by
  rintro (h1 | ⟨j, h3, h4⟩)
  · have := tD_len ds; omega
  · have hl := tD_len ds
    rw [tD_at (by omega)] at h4
    have := h2 j (by omega)
    omega
def tL (b : Bool) (ds : List (List Int)) : List (List Int) := (List.range (ttop ds + 1)).map (lvt ds b)
theorem tL_len (b : Bool) (ds : List (List Int)) : (tL b ds).length = ttop ds + 1 := by simp [tL]
theorem tL_take (b : Bool) (h : n ≤ ttop ds) : (tL b ds).take (n + 1) = (tL b ds).take n ++ [lvt ds b n] := by
  rw [List.take_succ_eq_append_getElem (by rw [tL_len]; omega)]
  simp [tL]
theorem tD_take (h : n ≤ ttop ds) : (tD ds).take (n + 1) = (tD ds).take n ++ [((tdim ds n : Nat) : Int)] := by
  rw [List.take_succ_eq_append_getElem (by rw [tD_len]; omega)]
  simp [tD]
theorem tM_take (h : n < ttop ds) : (tM ds ac dn).take (n + 1) = (tM ds ac dn).take n ++ [ttab ds ac dn n] := by
  rw [List.take_succ_eq_append_getElem (by rw [tM_len]; omega)]
  simp [tM]
end
end Go.Proofs.Ytlopenephgabhaa


namespace Go.Proofs.Ytlopenephgabhaa
open Go.RowKit Go.Shelf
attribute [local go_sem] Oper.semAt_some

/-- The levels of one degree while the cells come in. -/
def lvs (ds : List (List Int)) (b : Bool) (cs : List (Nat × Nat)) (s : Nat) : List Int := (cs.filter fun c => c.1 + c.2 == s).flatMap fun f => List.replicate (cdim ds f) (lvl b f)
theorem lvs_snoc (ds : List (List Int)) (b : Bool) (cs : List (Nat × Nat)) (c : Nat × Nat) (s : Nat) : lvs ds b (cs ++ [c]) s = lvs ds b cs s ++ if c.1 + c.2 = s then List.replicate (cdim ds c) (lvl b c) else [] := by
  unfold lvs
  rw [List.filter_append, List.flatMap_append]
  by_cases e : c.1 + c.2 = s
  · rw [if_pos e]; simp [e]
  · rw [if_neg e]; simp [e]
def LvP (n : Nat) (ds : List (List Int)) (b : Bool) (cs : List (Nat × Nat)) (t : List (List Int)) : Prop := t.length = n ∧ ∀ s, s < n → t.getD s [] = lvs ds b cs s
def LvQ (n : Nat) (ds : List (List Int)) (b : Bool) (cs : List (Nat × Nat)) (c : Nat × Nat) (k : Nat) (t : List (List Int)) : Prop := t.length = n ∧ ∀ s, s < n → t.getD s [] = lvs ds b cs s ++ if c.1 + c.2 = s then List.replicate k (lvl b c) else []
section
variable {n k : Nat} {ds : List (List Int)} {b : Bool} {cs : List (Nat × Nat)} {t : List (List Int)}
theorem LvP.nil (n : Nat) (ds : List (List Int)) (b : Bool) : LvP n ds b [] (List.replicate n []) := ⟨by simp, fun s hs => by rw [getD_of_lt _ (by simp [hs]), List.getElem_replicate]; rfl⟩
theorem LvP.q (h : LvP n ds b cs t) (c : Nat × Nat) : LvQ n ds b cs c 0 t := ⟨h.1, fun s hs => by rw [h.2 s hs]; split <;> simp⟩
theorem LvQ.p {c : Nat × Nat} (h : LvQ n ds b cs c (cdim ds c) t) : LvP n ds b (cs ++ [c]) t := ⟨h.1, fun s hs => by rw [h.2 s hs, lvs_snoc]⟩
theorem LvQ.step {i j s : Nat} (h : LvQ n ds b cs (i, j) k t) (hs : s = i + j) (hl : s < t.length) : LvQ n ds b cs (i, j) (k + 1) (t.set s (t[s] ++ [lvl b (i, j)])) := by
  refine ⟨by rw [List.length_set]; exact h.1, fun q hq => ?_⟩
  have hq' : q < t.length := by rw [h.1]; exact hq
  have h1 := h.2 q hq
  rw [getD_of_lt _ (by rw [List.length_set]; exact hq'), List.getElem_set]
  rw [getD_of_lt _ hq'] at h1
  by_cases e : s = q
  · subst e
    rw [if_pos rfl, h1, if_pos hs.symm, if_pos hs.symm, List.append_assoc, List.replicate_succ']
  · rw [if_neg e, h1, if_neg (by show i + j ≠ q; omega), if_neg (by show i + j ≠ q; omega)]
theorem LvP.all (h : LvP n ds b (cellsTo ds ds.length) t) (hn : n = ttop ds + 1) : t = tL b ds := by
  refine List.ext_getElem (by rw [h.1, hn, tL_len]) (fun q h1 h2 => ?_)
  have h3 := h.2 q (by rw [← h.1]; exact h1)
  rw [getD_of_lt _ h1] at h3
  rw [h3]
  simp only [tL, List.getElem_map, List.getElem_range]
  rfl
theorem lvt_le (hok : DclOk ds) (b : Bool) (s : Nat) : (lvt ds b s).length ≤ 64 := by
  have h := flat_le (fun f => List.replicate (cdim ds f) (lvl b f)) 4 (dgn ds s) (fun f hf => by
    rw [List.length_replicate]
    exact (cdim_cast hok (mem_cells.2 (mem_dgn.1 hf).1)).2)
  have := dgn_le hok s
  unfold lvt
  omega
theorem lvs_le (hok : DclOk ds) {b : Bool} (pre : List (CellIn ds)) (s : Nat) : (lvs ds b (pre.map (·.1)) s).length ≤ 4 * pre.length := by
  have h := flat_le (fun f => List.replicate (cdim ds f) (lvl b f)) 4 ((pre.map (·.1)).filter fun c => c.1 + c.2 == s) (fun f hf => by
    rw [List.length_replicate]
    obtain ⟨x, _, rfl⟩ := List.mem_map.1 (List.mem_filter.1 hf).1
    exact (cdim_cast hok x.2).2)
  have h2 := List.length_filter_le (fun c : Nat × Nat => c.1 + c.2 == s) (pre.map (·.1))
  rw [List.length_map] at h2
  unfold lvs
  omega
end
section
variable {ops : Array Oper} {Q : Exit → Act → World → Prop} {n : Nat}
theorem lastQ_storeTT {on : Oper} {a : Act} {w : World} (hn : ops[n]? = some on) (hg : on.guard = none) (_ : on.dst = none) (x y : Operand) (ho : on.op = .store 22 x y)
    (b o : Nat) (ad : Option Addr) (l c : Nat) (u : Value) (hx : a.eval x = .pointer (some ⟨b, o, none⟩)) (hy : a.eval y = .slice ad l c) (hc : w.cell? ⟨b, o, none⟩ = some u) (hf : w.frozen? ⟨b, o, none⟩ = false)
    (h : Q .normal a (w.setCell ⟨b, o, none⟩ (.slice ad l c))) : lastQ Try.prog ops n Q .normal a w :=
  lastQ_of hn hg (by
    unfold Oper.wp execOp
    simp only [ho, hx, hy]
    go_simp
    exact h)
end
/-- A table is kept by a turn of a block of another type. -/
theorem Gqv.kept2 {lo g : Nat} {w w' : World} {u : Value} {vs : List Value} {t : List (List Int)} {cs : Array Value} {ty : TypeId} (h : Gqv lo w u vs t) (hg : w.grownBy w' (some g)) (hz : w.heap[g]? = some (.cells cs ty (0, 0))) (h1 : ty ≠ 2) (h2 : ty ≠ 35) : Gqv lo w' u vs t := by
  have off : ∀ {e : TypeId} {n : Nat} {v : Value} {xs : List Value}, w.ownsRow lo e 1 v n xs → ty ≠ e → w'.ownsRow lo e 1 v n xs := fun {e n v xs} ho hne => ho.kept hg (by
    rcases ho.2 with ⟨h0, _⟩ | ⟨g', c', cur, hu, _, hh, _⟩
    · rw [h0]; exact .inl rfl
    · rw [hu]
      refine .inr (fun e2 => ?_)
      have e3 : g' = g := by simpa [Value.ownBlock] using e2
      rw [e3, hz] at hh
      injection hh with hh
      injection hh with _ h3
      exact hne h3)
  exact ⟨off h.own h2, fun i a b => off (h.rows i a b) h1, h.ap⟩
/-- What the inner loop keeps. -/
structure LvI (w w1 W0 A W : World) (Bx ZB TB n i j : Nat) (ds : List (List Int)) (b : Bool) (cs : List (Nat × Nat)) (k : Nat) : Prop where
  tab : ∃ vs t, Gqv w1.heap.size W (.slice (some ⟨TB, 0, none⟩) n n) vs t ∧ LvQ n ds b cs (i, j) k t
  box : Go.Boxed W ZB 22 (.slice (some ⟨TB, 0, none⟩) n n)
  low : Below w1.heap.size w1 W
  keep : KeepsFrom W0.heap.size A W
  bel : Below w.heap.size A W
  cel : W.heap[Bx]? = some (.cells #[.int .i64 (i : Int), .int .i64 (j : Int)] 101 (0, 0))
theorem LvI.next {w w1 W0 A W W' : World} {Bx ZB TB n i j : Nat} {ds : List (List Int)} {b : Bool} {cs : List (Nat × Nat)} {k : Nat} (h : LvI w w1 W0 A W Bx ZB TB n i j ds b cs k) (hb : Below W.heap.size W W') (hw : w.heap.size ≤ W.heap.size) : LvI w w1 W0 A W' Bx ZB TB n i j ds b cs k := by
  obtain ⟨⟨vs, t, hq, ht⟩, hz, hl, hk, hbl, hc⟩ := h
  exact ⟨⟨vs, t, hq.below hb, ht⟩, (hb.block _ hz.lt).trans hz, hl.trans (hb.mono hl.size), hk.trans ⟨hb.size, fun k o _ hk _ => (hb.block k (Array.getElem?_eq_some_iff.1 hk).1).trans hk⟩, hbl.trans (hb.mono hw), (hb.block _ (Array.getElem?_eq_some_iff.1 hc).1).trans hc⟩
set_option maxRecDepth 100000 in
set_option maxHeartbeats 12800000 in
theorem levelsOfTotal_any (b : Bool) (p : Int) (dv av vv : Value) (ds : List (List Int)) (ac dn : List (List (List (List Int)))) (w : World) (h : Dx 0 w dv av vv ds ac dn) (hok : DclOk ds) :
    Calls Try.prog 72 #[.agg #[.int .i64 p, dv, av, vv], .bool b] w fun e w' => ∃ u, e = .returned u ∧ Rw2 w.heap.size w'.heap.size w' u (tL b ds) ∧ Below w.heap.size w w' := by
  have HOK := Lib.hid hok
  have HX := Lib.hid h
  have hl0 := hok.len0
  have hl4 := hok.len1
  have hq0 := hok.h0
  have hq4 := hok.h1
  obtain ⟨m, hm⟩ : ∃ m, m = ds.length := ⟨_, rfl⟩
  obtain ⟨q, hq⟩ : ∃ q, q = (ds.getD 0 []).length := ⟨_, rfl⟩
  obtain ⟨n, hn⟩ : ∃ n, n = ttop ds + 1 := ⟨_, rfl⟩
  have hnm : n + 1 = m + q := by rw [hn, hm, hq]; unfold ttop; omega
  rw [← hm] at hl0 hl4
  rw [← hq] at hq0 hq4
  have HM := Lib.hid hm
  have HQ := Lib.hid hq
  have HN := Lib.hid hn
  clear hm hq hn hok
  have hx0 := (DBx.start (p := p) 28 h).next ((Below.refl _ _).alloc (Nat.le_refl _) (.cells #[.bool b] 4))
  clear h
  obtain ⟨w1, hw1⟩ : ∃ w1, w1 = (w.alloc (.cells #[.int .i64 p, dv, av, vv] 28)).alloc (.cells #[.bool b] 4) := ⟨_, rfl⟩
  have hs1 : w1.heap.size = w.heap.size + 2 := by rw [hw1]; simp
  have HF1 : Hid (w1.heap[w.heap.size + 1]? = some (.cells #[.bool b] 4 (0, 0))) := Lib.hid (by rw [hw1]; have := heap_alloc_new (w.alloc (.cells #[.int .i64 p, dv, av, vv] 28)) (.cells #[.bool b] 4); simpa using this)
  rw [← hw1] at hx0
  have HX1 := Lib.hid hx0
  have c0 := hx0.c0
  have c1 := hx0.c1
  have c2 := hx0.c2
  have c3 := hx0.c3
  clear hx0
  have HNX : Hid (∀ W, Below w1.heap.size w1 W → DBx w W w.heap.size p dv av vv ds ac dn ∧ W.heap[w.heap.size + 1]? = some (.cells #[.bool b] 4 (0, 0))) := Lib.hid (fun W hb => ⟨HX1.out.next hb, (hb.block (w.heap.size + 1) (by omega)).trans HF1.out⟩)
  have HWI : Hid (∀ W, Below w1.heap.size w1 W → Calls Try.prog 58 #[.agg #[.int .i64 p, dv, av, vv]] W fun e w' => e = .returned (.int .i64 (m : Int)) ∧ Below W.heap.size W w') := Lib.hid (fun W hb => by rw [HM.out]; exact widthOf_any p dv av vv ds W (HNX.out W hb).1.dx.dims)
  have HHE : Hid (∀ W, Below w1.heap.size w1 W → Calls Try.prog 93 #[.agg #[.int .i64 p, dv, av, vv]] W fun e w' => e = .returned (.int .i64 (q : Int)) ∧ Below W.heap.size W w') := Lib.hid (fun W hb => by rw [HQ.out]; exact heightOf_any p dv av vv ds W (HNX.out W hb).1.dx.dims (by rw [← HM.out]; exact hl0))
  have hmk := run_make_row' (P := Try.prog) 22 35 (.slice none 0 0) 24 Try.underlying22 Try.infoS rfl .i64 .i64 n (by omega) (by omega)
  refine (callsIn_wide (n := 8)).1 ?_
  refine callsIn_of_wp_marks Try.func72 rfl trivial ?_
  simp only [Try.ntmps72, List.size_toArray, List.length_cons, List.length_nil, Nat.reduceAdd, Nat.reduceSub, Array.replicate_succ, Array.replicate_zero, List.push_toArray, List.append_toArray, List.nil_append, List.cons_append]
  refine wpIn_calm ?_
  refine wpIn_wide.2 ?_
  go_upto_region 1 with fail
  rw [← hw1]
  clear hw1 c0 c1 c2 c3
  go_cut [5] from 8 to 14 (fun s wx => ∃ TB ZB : Nat, s = .pointer (some ⟨ZB, 0, none⟩) ∧ Hid (Below w1.heap.size w1 wx ∧ Go.Boxed wx ZB 22 (.slice (some ⟨TB, 0, none⟩) n n) ∧ Gqv w1.heap.size wx (.slice (some ⟨TB, 0, none⟩) n n) (List.replicate n (.slice none 0 0)) (List.replicate n []) ∧ ZB ≠ TB ∧ w1.heap.size ≤ ZB ∧ w1.heap.size ≤ TB))
  case first =>
    go_wp2
    refine wp_region_last (fun W => Below w1.heap.size w1 W) 8 (by kernel_rfl) rfl (by kernel_rfl) ?_
    have S0 : Below w1.heap.size w1 w1.drew := (Below.refl _ _).drew
    change wpAnyH _ _ _ _ _ _ _ _ w1.drew
    obtain ⟨wd, hwd⟩ : ∃ wd, wd = w1.drew := ⟨_, rfl⟩
    rw [← hwd] at S0 ⊢
    clear hwd
    have hz0 : w1.heap.size ≤ wd.heap.size := S0.size
    refine held_take (i := 0) (v := .agg #[.int .i64 p, dv, av, vv]) (some 8) rfl rfl (by kernel_rfl) (by kernel_rfl) (by kernel_rfl) (fun _ _ _ h => h) (yieldsIf_cell (by kernel_rfl) rfl (by kernel_rfl) (fun W h => hloadDb W (HNX.out W h).1)) S0 ?_
    refine held_take (i := 2) (v := .agg #[.int .i64 p, dv, av, vv]) (some 10) rfl rfl (by kernel_rfl) (by kernel_rfl) (by kernel_rfl) (fun _ _ _ h => h) (yieldsIf_cell (by kernel_rfl) rfl (by kernel_rfl) (fun W h => hloadDb W (HNX.out W h).1)) S0 ?_
    refine held_two (i := 1) (j := 7) (by kernel_rfl) ?_ ?_
    · refine op_enter (i := 1) (some 9) (f := 58) (args := #[.agg #[.int .i64 p, dv, av, vv]]) rfl rfl rfl (by kernel_rfl) (HWI.out _ S0) ?_ (fun c w' h => by cases h.1) (fun w' h => by cases h.1)
      rintro e1 W1 ⟨he1, hb1⟩
      injection he1 with he1
      subst he1
      have S1 : Below w1.heap.size w1 W1 := S0.trans (hb1.mono S0.size)
      have hz1 : wd.heap.size ≤ W1.heap.size := hb1.size
      refine ⟨S1, ?_⟩
      refine held_two (i := 3) (j := 7) (by kernel_rfl) ?_ ?_
      · refine op_enter (i := 3) (some 11) (f := 93) (args := #[.agg #[.int .i64 p, dv, av, vv]]) rfl rfl rfl (by kernel_rfl) (HHE.out _ S1) ?_ (fun c w' h => by cases h.1) (fun w' h => by cases h.1)
        rintro e2 W2 ⟨he2, hb2⟩
        injection he2 with he2
        subst he2
        have S2 : Below w1.heap.size w1 W2 := S1.trans (hb2.mono S1.size)
        have hz2 : W1.heap.size ≤ W2.heap.size := hb2.size
        refine ⟨S2, ?_⟩
        refine held_take (i := 4) (v := .int .i64 ((m : Int) + (q : Int))) (some 12) rfl rfl (by kernel_rfl) (by kernel_rfl) (by kernel_rfl) (fun _ _ _ h => h) (yieldsIf_bin (by kernel_rfl) rfl (by kernel_rfl) (by kernel_rfl) (fun _ => rfl) (haddA (IntWalk.i64_in _ (by omega)))) S2 ?_
        refine held_take (i := 5) (v := .int .i64 (n : Int)) (some 13) rfl rfl (by kernel_rfl) (by kernel_rfl) (by kernel_rfl) (fun _ _ _ h => h) (yieldsIf_bin (by kernel_rfl) rfl (by kernel_rfl) (by kernel_rfl) (fun _ => rfl) (hsubA (by rw [show (m : Int) + (q : Int) - 1 = (n : Int) by omega]; exact IntWalk.i64_in _ (by omega)))) S2 ?_
        refine held_two (i := 6) (j := 7) (by kernel_rfl) ?_ ?_
        · obtain ⟨W3, hW3⟩ : ∃ W', W' = W2.alloc (.cells (madeCells #[.slice none 0 0] n) 35) := ⟨_, rfl⟩
          have hb3 : Below W2.heap.size W2 W3 := by rw [hW3]; exact below_alloc1 _ _
          have hz3 : W3.heap.size = W2.heap.size + 1 := by rw [hW3]; simp
          have S3 : Below w1.heap.size w1 W3 := S2.trans (hb3.mono S2.size)
          have hq3 : w1.heap.size ≤ W2.heap.size := S2.size
          have hN3 : Gqv w1.heap.size W3 (.slice (some ⟨W2.heap.size, 0, none⟩) n n) (List.replicate n (.slice none 0 0)) (List.replicate n []) := by rw [hW3]; exact gqv_made n S2.size (by unfold maxLen; omega) _ (made_list n (.slice none 0 0))
          refine op_make (i := 6) (v := .slice (some ⟨W2.heap.size, 0, none⟩) n n) (w' := W3) (x := .int .i64 (n : Int)) (y := .int .i64 (n : Int)) (some 14) 22 (.tmp 13) (.tmp 13) rfl rfl rfl rfl (by kernel_rfl) (by kernel_rfl) (by rw [hW3]; exact hmk _) ?_
          refine ⟨S3, ?_⟩
          refine held_one (i := 7) (by kernel_rfl) ?_
          obtain ⟨W4, hW4⟩ : ∃ W', W' = W3.alloc (.cells #[.slice none 0 0] 22) := ⟨_, rfl⟩
          have hb4 : Below W3.heap.size W3 W4 := by rw [hW4]; exact below_alloc1 _ _
          have hz4 : W4.heap.size = W3.heap.size + 1 := by rw [hW4]; simp
          have S4 : Below w1.heap.size w1 W4 := S3.trans (hb4.mono S3.size)
          have hq4 : w1.heap.size ≤ W3.heap.size := S3.size
          have hR4 : Rz W4 W3.heap.size 22 #[.slice none 0 0] := by rw [hW4]; exact Rz.new _ _ _
          have hT4 := hN3.below hb4
          refine op_mem (i := 7) (v := .pointer (some ⟨W3.heap.size, 0, none⟩)) (w' := W4) (some 5) rfl rfl rfl (by rw [hW4]; go_simp) ?_
          refine ⟨S4, ?_⟩
          refine held_none (i := 8) (v := .bool false) rfl rfl (by kernel_rfl) (by kernel_rfl) (by kernel_rfl) (fun _ _ _ h => h) (yieldsIf_move (by kernel_rfl) rfl (by kernel_rfl)) S4 ?_
          have hzc : W4.cell? ⟨W3.heap.size, 0, none⟩ = some (.slice none 0 0) := hR4.cell (i := 0) rfl
          have hzf : W4.frozen? ⟨W3.heap.size, 0, none⟩ = false := by have h0 : W4.heap[W3.heap.size]? = _ := hR4; simp [World.frozen?, h0]
          have hNE : W3.heap.size ≠ W2.heap.size ∧ w1.heap.size ≤ W3.heap.size ∧ w1.heap.size ≤ W2.heap.size := by omega
          have hQF : Gqv w1.heap.size (W4.setCell ⟨W3.heap.size, 0, none⟩ (.slice (some ⟨W2.heap.size, 0, none⟩) n n)) (.slice (some ⟨W2.heap.size, 0, none⟩) n n) (List.replicate n (.slice none 0 0)) (List.replicate n []) := hT4.kept2 (grownBy_setCell' W4 (W3.heap.size) _) hR4 (by decide) (by decide)
          have hZF : Go.Boxed (W4.setCell ⟨W3.heap.size, 0, none⟩ (.slice (some ⟨W2.heap.size, 0, none⟩) n n)) W3.heap.size 22 (.slice (some ⟨W2.heap.size, 0, none⟩) n n) := (show Go.Boxed W4 (W3.heap.size) 22 (.slice none 0 0) from hR4).set _
          have hBF : Below w1.heap.size w1 (W4.setCell ⟨W3.heap.size, 0, none⟩ (.slice (some ⟨W2.heap.size, 0, none⟩) n n)) := S4.setCell (by show w1.heap.size ≤ W3.heap.size; omega) _
          refine wpAnyH_done (by kernel_rfl) (lastQ_storeTT rfl (by kernel_rfl) (by kernel_rfl) (.tmp 5) (.tmp 14) (by kernel_rfl) (W3.heap.size) 0 (some ⟨W2.heap.size, 0, none⟩) n n _ (by kernel_rfl) (by kernel_rfl) hzc hzf ?_) _
          simp only [Act.put, List.setIfInBounds_toArray, List.set_cons_zero, List.set_cons_succ]
          obtain ⟨WF, hWF⟩ : ∃ W', W' = W4.setCell ⟨W3.heap.size, 0, none⟩ (.slice (some ⟨W2.heap.size, 0, none⟩) n n) := ⟨_, rfl⟩
          rw [← hWF] at hQF hZF hBF ⊢
          clear hWF
          have HL := Lib.hid (And.intro hBF (And.intro hZF (And.intro hQF hNE)))
          clear hBF hZF hQF
          go_wp2
          go_meet
          exact ⟨W2.heap.size, W3.heap.size, rfl, HL⟩
        · obtain ⟨W6, hW6⟩ : ∃ W', W' = W2.alloc (.cells #[.slice none 0 0] 22) := ⟨_, rfl⟩
          have hb6 : Below W2.heap.size W2 W6 := by rw [hW6]; exact below_alloc1 _ _
          have hz6 : W6.heap.size = W2.heap.size + 1 := by rw [hW6]; simp
          have S6 : Below w1.heap.size w1 W6 := S2.trans (hb6.mono S2.size)
          have hq6 : w1.heap.size ≤ W2.heap.size := S2.size
          have hR6 : Rz W6 W2.heap.size 22 #[.slice none 0 0] := by rw [hW6]; exact Rz.new _ _ _
          refine op_mem (i := 7) (v := .pointer (some ⟨W2.heap.size, 0, none⟩)) (w' := W6) (some 5) rfl rfl rfl (by rw [hW6]; go_simp) ?_
          refine ⟨S6, ?_⟩
          refine held_one (i := 6) (by kernel_rfl) ?_
          obtain ⟨W7, hW7⟩ : ∃ W', W' = W6.alloc (.cells (madeCells #[.slice none 0 0] n) 35) := ⟨_, rfl⟩
          have hb7 : Below W6.heap.size W6 W7 := by rw [hW7]; exact below_alloc1 _ _
          have hz7 : W7.heap.size = W6.heap.size + 1 := by rw [hW7]; simp
          have S7 : Below w1.heap.size w1 W7 := S6.trans (hb7.mono S6.size)
          have hq7 : w1.heap.size ≤ W6.heap.size := S6.size
          have hN7 : Gqv w1.heap.size W7 (.slice (some ⟨W6.heap.size, 0, none⟩) n n) (List.replicate n (.slice none 0 0)) (List.replicate n []) := by rw [hW7]; exact gqv_made n S6.size (by unfold maxLen; omega) _ (made_list n (.slice none 0 0))
          have hy7 := hR6.lt
          have hZ7 := hR6.next hb7
          refine op_make (i := 6) (v := .slice (some ⟨W6.heap.size, 0, none⟩) n n) (w' := W7) (x := .int .i64 (n : Int)) (y := .int .i64 (n : Int)) (some 14) 22 (.tmp 13) (.tmp 13) rfl rfl rfl rfl (by kernel_rfl) (by kernel_rfl) (by rw [hW7]; exact hmk _) ?_
          refine ⟨S7, ?_⟩
          refine held_none (i := 8) (v := .bool false) rfl rfl (by kernel_rfl) (by kernel_rfl) (by kernel_rfl) (fun _ _ _ h => h) (yieldsIf_move (by kernel_rfl) rfl (by kernel_rfl)) S7 ?_
          have hzc : W7.cell? ⟨W2.heap.size, 0, none⟩ = some (.slice none 0 0) := hZ7.cell (i := 0) rfl
          have hzf : W7.frozen? ⟨W2.heap.size, 0, none⟩ = false := by have h0 : W7.heap[W2.heap.size]? = _ := hZ7; simp [World.frozen?, h0]
          have hNE : W2.heap.size ≠ W6.heap.size ∧ w1.heap.size ≤ W2.heap.size ∧ w1.heap.size ≤ W6.heap.size := by omega
          have hQF : Gqv w1.heap.size (W7.setCell ⟨W2.heap.size, 0, none⟩ (.slice (some ⟨W6.heap.size, 0, none⟩) n n)) (.slice (some ⟨W6.heap.size, 0, none⟩) n n) (List.replicate n (.slice none 0 0)) (List.replicate n []) := hN7.kept2 (grownBy_setCell' W7 (W2.heap.size) _) hZ7 (by decide) (by decide)
          have hZF : Go.Boxed (W7.setCell ⟨W2.heap.size, 0, none⟩ (.slice (some ⟨W6.heap.size, 0, none⟩) n n)) W2.heap.size 22 (.slice (some ⟨W6.heap.size, 0, none⟩) n n) := (show Go.Boxed W7 (W2.heap.size) 22 (.slice none 0 0) from hZ7).set _
          have hBF : Below w1.heap.size w1 (W7.setCell ⟨W2.heap.size, 0, none⟩ (.slice (some ⟨W6.heap.size, 0, none⟩) n n)) := S7.setCell (by show w1.heap.size ≤ W2.heap.size; omega) _
          refine wpAnyH_done (by kernel_rfl) (lastQ_storeTT rfl (by kernel_rfl) (by kernel_rfl) (.tmp 5) (.tmp 14) (by kernel_rfl) (W2.heap.size) 0 (some ⟨W6.heap.size, 0, none⟩) n n _ (by kernel_rfl) (by kernel_rfl) hzc hzf ?_) _
          simp only [Act.put, List.setIfInBounds_toArray, List.set_cons_zero, List.set_cons_succ]
          obtain ⟨WF, hWF⟩ : ∃ W', W' = W7.setCell ⟨W2.heap.size, 0, none⟩ (.slice (some ⟨W6.heap.size, 0, none⟩) n n) := ⟨_, rfl⟩
          rw [← hWF] at hQF hZF hBF ⊢
          clear hWF
          have HL := Lib.hid (And.intro hBF (And.intro hZF (And.intro hQF hNE)))
          clear hBF hZF hQF
          go_wp2
          go_meet
          exact ⟨W6.heap.size, W2.heap.size, rfl, HL⟩
      · obtain ⟨W9, hW9⟩ : ∃ W', W' = W1.alloc (.cells #[.slice none 0 0] 22) := ⟨_, rfl⟩
        have hb9 : Below W1.heap.size W1 W9 := by rw [hW9]; exact below_alloc1 _ _
        have hz9 : W9.heap.size = W1.heap.size + 1 := by rw [hW9]; simp
        have S9 : Below w1.heap.size w1 W9 := S1.trans (hb9.mono S1.size)
        have hq9 : w1.heap.size ≤ W1.heap.size := S1.size
        have hR9 : Rz W9 W1.heap.size 22 #[.slice none 0 0] := by rw [hW9]; exact Rz.new _ _ _
        refine op_mem (i := 7) (v := .pointer (some ⟨W1.heap.size, 0, none⟩)) (w' := W9) (some 5) rfl rfl rfl (by rw [hW9]; go_simp) ?_
        refine ⟨S9, ?_⟩
        refine held_one (i := 3) (by kernel_rfl) ?_
        refine op_enter (i := 3) (some 11) (f := 93) (args := #[.agg #[.int .i64 p, dv, av, vv]]) rfl rfl rfl (by kernel_rfl) (HHE.out _ S9) ?_ (fun c w' h => by cases h.1) (fun w' h => by cases h.1)
        rintro e10 W10 ⟨he10, hb10⟩
        injection he10 with he10
        subst he10
        have S10 : Below w1.heap.size w1 W10 := S9.trans (hb10.mono S9.size)
        have hz10 : W9.heap.size ≤ W10.heap.size := hb10.size
        have hZ10 := hR9.next hb10
        refine ⟨S10, ?_⟩
        refine held_take (i := 4) (v := .int .i64 ((m : Int) + (q : Int))) (some 12) rfl rfl (by kernel_rfl) (by kernel_rfl) (by kernel_rfl) (fun _ _ _ h => h) (yieldsIf_bin (by kernel_rfl) rfl (by kernel_rfl) (by kernel_rfl) (fun _ => rfl) (haddA (IntWalk.i64_in _ (by omega)))) S10 ?_
        refine held_take (i := 5) (v := .int .i64 (n : Int)) (some 13) rfl rfl (by kernel_rfl) (by kernel_rfl) (by kernel_rfl) (fun _ _ _ h => h) (yieldsIf_bin (by kernel_rfl) rfl (by kernel_rfl) (by kernel_rfl) (fun _ => rfl) (hsubA (by rw [show (m : Int) + (q : Int) - 1 = (n : Int) by omega]; exact IntWalk.i64_in _ (by omega)))) S10 ?_
        refine held_one (i := 6) (by kernel_rfl) ?_
        obtain ⟨W11, hW11⟩ : ∃ W', W' = W10.alloc (.cells (madeCells #[.slice none 0 0] n) 35) := ⟨_, rfl⟩
        have hb11 : Below W10.heap.size W10 W11 := by rw [hW11]; exact below_alloc1 _ _
        have hz11 : W11.heap.size = W10.heap.size + 1 := by rw [hW11]; simp
        have S11 : Below w1.heap.size w1 W11 := S10.trans (hb11.mono S10.size)
        have hq11 : w1.heap.size ≤ W10.heap.size := S10.size
        have hN11 : Gqv w1.heap.size W11 (.slice (some ⟨W10.heap.size, 0, none⟩) n n) (List.replicate n (.slice none 0 0)) (List.replicate n []) := by rw [hW11]; exact gqv_made n S10.size (by unfold maxLen; omega) _ (made_list n (.slice none 0 0))
        have hy11 := hZ10.lt
        have hZ11 := hZ10.next hb11
        refine op_make (i := 6) (v := .slice (some ⟨W10.heap.size, 0, none⟩) n n) (w' := W11) (x := .int .i64 (n : Int)) (y := .int .i64 (n : Int)) (some 14) 22 (.tmp 13) (.tmp 13) rfl rfl rfl rfl (by kernel_rfl) (by kernel_rfl) (by rw [hW11]; exact hmk _) ?_
        refine ⟨S11, ?_⟩
        refine held_none (i := 8) (v := .bool false) rfl rfl (by kernel_rfl) (by kernel_rfl) (by kernel_rfl) (fun _ _ _ h => h) (yieldsIf_move (by kernel_rfl) rfl (by kernel_rfl)) S11 ?_
        have hzc : W11.cell? ⟨W1.heap.size, 0, none⟩ = some (.slice none 0 0) := hZ11.cell (i := 0) rfl
        have hzf : W11.frozen? ⟨W1.heap.size, 0, none⟩ = false := by have h0 : W11.heap[W1.heap.size]? = _ := hZ11; simp [World.frozen?, h0]
        have hNE : W1.heap.size ≠ W10.heap.size ∧ w1.heap.size ≤ W1.heap.size ∧ w1.heap.size ≤ W10.heap.size := by omega
        have hQF : Gqv w1.heap.size (W11.setCell ⟨W1.heap.size, 0, none⟩ (.slice (some ⟨W10.heap.size, 0, none⟩) n n)) (.slice (some ⟨W10.heap.size, 0, none⟩) n n) (List.replicate n (.slice none 0 0)) (List.replicate n []) := hN11.kept2 (grownBy_setCell' W11 (W1.heap.size) _) hZ11 (by decide) (by decide)
        have hZF : Go.Boxed (W11.setCell ⟨W1.heap.size, 0, none⟩ (.slice (some ⟨W10.heap.size, 0, none⟩) n n)) W1.heap.size 22 (.slice (some ⟨W10.heap.size, 0, none⟩) n n) := (show Go.Boxed W11 (W1.heap.size) 22 (.slice none 0 0) from hZ11).set _
        have hBF : Below w1.heap.size w1 (W11.setCell ⟨W1.heap.size, 0, none⟩ (.slice (some ⟨W10.heap.size, 0, none⟩) n n)) := S11.setCell (by show w1.heap.size ≤ W1.heap.size; omega) _
        refine wpAnyH_done (by kernel_rfl) (lastQ_storeTT rfl (by kernel_rfl) (by kernel_rfl) (.tmp 5) (.tmp 14) (by kernel_rfl) (W1.heap.size) 0 (some ⟨W10.heap.size, 0, none⟩) n n _ (by kernel_rfl) (by kernel_rfl) hzc hzf ?_) _
        simp only [Act.put, List.setIfInBounds_toArray, List.set_cons_zero, List.set_cons_succ]
        obtain ⟨WF, hWF⟩ : ∃ W', W' = W11.setCell ⟨W1.heap.size, 0, none⟩ (.slice (some ⟨W10.heap.size, 0, none⟩) n n) := ⟨_, rfl⟩
        rw [← hWF] at hQF hZF hBF ⊢
        clear hWF
        have HL := Lib.hid (And.intro hBF (And.intro hZF (And.intro hQF hNE)))
        clear hBF hZF hQF
        go_wp2
        go_meet
        exact ⟨W10.heap.size, W1.heap.size, rfl, HL⟩
    · obtain ⟨W13, hW13⟩ : ∃ W', W' = wd.alloc (.cells #[.slice none 0 0] 22) := ⟨_, rfl⟩
      have hb13 : Below wd.heap.size wd W13 := by rw [hW13]; exact below_alloc1 _ _
      have hz13 : W13.heap.size = wd.heap.size + 1 := by rw [hW13]; simp
      have S13 : Below w1.heap.size w1 W13 := S0.trans (hb13.mono S0.size)
      have hq13 : w1.heap.size ≤ wd.heap.size := S0.size
      have hR13 : Rz W13 wd.heap.size 22 #[.slice none 0 0] := by rw [hW13]; exact Rz.new _ _ _
      refine op_mem (i := 7) (v := .pointer (some ⟨wd.heap.size, 0, none⟩)) (w' := W13) (some 5) rfl rfl rfl (by rw [hW13]; go_simp) ?_
      refine ⟨S13, ?_⟩
      refine held_one (i := 1) (by kernel_rfl) ?_
      refine op_enter (i := 1) (some 9) (f := 58) (args := #[.agg #[.int .i64 p, dv, av, vv]]) rfl rfl rfl (by kernel_rfl) (HWI.out _ S13) ?_ (fun c w' h => by cases h.1) (fun w' h => by cases h.1)
      rintro e14 W14 ⟨he14, hb14⟩
      injection he14 with he14
      subst he14
      have S14 : Below w1.heap.size w1 W14 := S13.trans (hb14.mono S13.size)
      have hz14 : W13.heap.size ≤ W14.heap.size := hb14.size
      have hZ14 := hR13.next hb14
      refine ⟨S14, ?_⟩
      refine held_one (i := 3) (by kernel_rfl) ?_
      refine op_enter (i := 3) (some 11) (f := 93) (args := #[.agg #[.int .i64 p, dv, av, vv]]) rfl rfl rfl (by kernel_rfl) (HHE.out _ S14) ?_ (fun c w' h => by cases h.1) (fun w' h => by cases h.1)
      rintro e15 W15 ⟨he15, hb15⟩
      injection he15 with he15
      subst he15
      have S15 : Below w1.heap.size w1 W15 := S14.trans (hb15.mono S14.size)
      have hz15 : W14.heap.size ≤ W15.heap.size := hb15.size
      have hZ15 := hZ14.next hb15
      refine ⟨S15, ?_⟩
      refine held_take (i := 4) (v := .int .i64 ((m : Int) + (q : Int))) (some 12) rfl rfl (by kernel_rfl) (by kernel_rfl) (by kernel_rfl) (fun _ _ _ h => h) (yieldsIf_bin (by kernel_rfl) rfl (by kernel_rfl) (by kernel_rfl) (fun _ => rfl) (haddA (IntWalk.i64_in _ (by omega)))) S15 ?_
      refine held_take (i := 5) (v := .int .i64 (n : Int)) (some 13) rfl rfl (by kernel_rfl) (by kernel_rfl) (by kernel_rfl) (fun _ _ _ h => h) (yieldsIf_bin (by kernel_rfl) rfl (by kernel_rfl) (by kernel_rfl) (fun _ => rfl) (hsubA (by rw [show (m : Int) + (q : Int) - 1 = (n : Int) by omega]; exact IntWalk.i64_in _ (by omega)))) S15 ?_
      refine held_one (i := 6) (by kernel_rfl) ?_
      obtain ⟨W16, hW16⟩ : ∃ W', W' = W15.alloc (.cells (madeCells #[.slice none 0 0] n) 35) := ⟨_, rfl⟩
      have hb16 : Below W15.heap.size W15 W16 := by rw [hW16]; exact below_alloc1 _ _
      have hz16 : W16.heap.size = W15.heap.size + 1 := by rw [hW16]; simp
      have S16 : Below w1.heap.size w1 W16 := S15.trans (hb16.mono S15.size)
      have hq16 : w1.heap.size ≤ W15.heap.size := S15.size
      have hN16 : Gqv w1.heap.size W16 (.slice (some ⟨W15.heap.size, 0, none⟩) n n) (List.replicate n (.slice none 0 0)) (List.replicate n []) := by rw [hW16]; exact gqv_made n S15.size (by unfold maxLen; omega) _ (made_list n (.slice none 0 0))
      have hy16 := hZ15.lt
      have hZ16 := hZ15.next hb16
      refine op_make (i := 6) (v := .slice (some ⟨W15.heap.size, 0, none⟩) n n) (w' := W16) (x := .int .i64 (n : Int)) (y := .int .i64 (n : Int)) (some 14) 22 (.tmp 13) (.tmp 13) rfl rfl rfl rfl (by kernel_rfl) (by kernel_rfl) (by rw [hW16]; exact hmk _) ?_
      refine ⟨S16, ?_⟩
      refine held_none (i := 8) (v := .bool false) rfl rfl (by kernel_rfl) (by kernel_rfl) (by kernel_rfl) (fun _ _ _ h => h) (yieldsIf_move (by kernel_rfl) rfl (by kernel_rfl)) S16 ?_
      have hzc : W16.cell? ⟨wd.heap.size, 0, none⟩ = some (.slice none 0 0) := hZ16.cell (i := 0) rfl
      have hzf : W16.frozen? ⟨wd.heap.size, 0, none⟩ = false := by have h0 : W16.heap[wd.heap.size]? = _ := hZ16; simp [World.frozen?, h0]
      have hNE : wd.heap.size ≠ W15.heap.size ∧ w1.heap.size ≤ wd.heap.size ∧ w1.heap.size ≤ W15.heap.size := by omega
      have hQF : Gqv w1.heap.size (W16.setCell ⟨wd.heap.size, 0, none⟩ (.slice (some ⟨W15.heap.size, 0, none⟩) n n)) (.slice (some ⟨W15.heap.size, 0, none⟩) n n) (List.replicate n (.slice none 0 0)) (List.replicate n []) := hN16.kept2 (grownBy_setCell' W16 (wd.heap.size) _) hZ16 (by decide) (by decide)
      have hZF : Go.Boxed (W16.setCell ⟨wd.heap.size, 0, none⟩ (.slice (some ⟨W15.heap.size, 0, none⟩) n n)) wd.heap.size 22 (.slice (some ⟨W15.heap.size, 0, none⟩) n n) := (show Go.Boxed W16 (wd.heap.size) 22 (.slice none 0 0) from hZ16).set _
      have hBF : Below w1.heap.size w1 (W16.setCell ⟨wd.heap.size, 0, none⟩ (.slice (some ⟨W15.heap.size, 0, none⟩) n n)) := S16.setCell (by show w1.heap.size ≤ wd.heap.size; omega) _
      refine wpAnyH_done (by kernel_rfl) (lastQ_storeTT rfl (by kernel_rfl) (by kernel_rfl) (.tmp 5) (.tmp 14) (by kernel_rfl) (wd.heap.size) 0 (some ⟨W15.heap.size, 0, none⟩) n n _ (by kernel_rfl) (by kernel_rfl) hzc hzf ?_) _
      simp only [Act.put, List.setIfInBounds_toArray, List.set_cons_zero, List.set_cons_succ]
      obtain ⟨WF, hWF⟩ : ∃ W', W' = W16.setCell ⟨wd.heap.size, 0, none⟩ (.slice (some ⟨W15.heap.size, 0, none⟩) n n) := ⟨_, rfl⟩
      rw [← hWF] at hQF hZF hBF ⊢
      clear hWF
      have HL := Lib.hid (And.intro hBF (And.intro hZF (And.intro hQF hNE)))
      clear hBF hZF hQF
      go_wp2
      go_meet
      exact ⟨W15.heap.size, wd.heap.size, rfl, HL⟩
  case rest =>
    obtain ⟨TB, ZB, rfl, HLM⟩ := hcut
    clear hmk
    obtain ⟨wx, hwx⟩ : ∃ wx : World, wx = wc := ⟨_, rfl⟩
    subst hwx
    have hnx := HNX.out wx HLM.out.1
    have c0 := hnx.1.c0
    have c1 := hnx.1.c1
    have c2 := hnx.1.c2
    have c3 := hnx.1.c3
    have hxl := hnx.1.lt
    clear hnx
    go_wp2_with fail
    refine (cellsOf_any p dv av vv _).mono ?_
    rintro e w2 ⟨rfl, rfl⟩
    dsimp only
    go_wp2
    clear c0 c1 c2 c3
    have hB0 : Below wx.heap.size wx (wx.alloc (.cells #[.int .i64 p, dv, av, vv] 28)) := (Below.refl _ _).alloc (Nat.le_refl _) _
    have hd0 : (wx.alloc (.cells #[.int .i64 p, dv, av, vv] 28)).cell? ⟨wx.heap.size, 1, none⟩ = some dv := new_c1 wx p dv av vv
    have hs0 : (wx.alloc (.cells #[.int .i64 p, dv, av, vv] 28)).heap.size = wx.heap.size + 1 := by simp
    obtain ⟨W0, hW0⟩ : ∃ W0, W0 = wx.alloc (.cells #[.int .i64 p, dv, av, vv] 28) := ⟨_, rfl⟩
    rw [← hW0] at hB0 hd0 hs0 ⊢
    clear hW0
    have hdb := HLM.out.1.size
    have hBw : Below w.heap.size w W0 := HX1.out.below.trans ((HLM.out.1.trans (hB0.mono hdb)).mono (by have := HX1.out.below.size; omega))
    have hst := cells_stops Fence.wide 7 trivial rfl (by decide) wx.heap.size dv ds (by have := HM.out; omega) (fun r hr => by have := (HOK.out.col r hr).1; have := HOK.out.h1; omega) w W0 (by omega) hd0 HX.out.dims hBw
    have hq00 := HLM.out.2.2.1.below hB0
    have hz00 : Go.Boxed W0 ZB 22 (.slice (some ⟨TB, 0, none⟩) n n) := (hB0.block _ HLM.out.2.1.lt).trans HLM.out.2.1
    have hb10 : Below w1.heap.size w1 W0 := HLM.out.1.trans (hB0.mono hdb)
    have hne := HLM.out.2.2.2.1
    have hzl := HLM.out.2.2.2.2.1
    have htl := HLM.out.2.2.2.2.2
    have hT0 : LvP n ds b ([] : List (Nat × Nat)) (List.replicate n []) := LvP.nil _ _ _
    have HBW := Lib.hid hBw
    clear HLM hB0 hd0 hBw
    refine (wpIn_wide (n := 8)).1 ?_
    refine wpIn_rangeFunc_cell rfl (by decide : 1 ≤ 8) (gf := 118) (lb := #[.pointer (some ⟨wx.heap.size, 0, none⟩)]) rfl trivial (enters_of Try.func118 (by kernel_rfl) rfl)
      hst belowK_t (belowK_b (by omega)) (Below.refl _ _) (fun _ => rfl)
      (fun (pre : List (CellIn ds)) W => (∃ vs t, Gqv w1.heap.size W (.slice (some ⟨TB, 0, none⟩) n n) vs t ∧ LvP n ds b (pre.map fun x : CellIn ds => (x.1 : Nat × Nat)) t) ∧ Go.Boxed W ZB 22 (.slice (some ⟨TB, 0, none⟩) n n) ∧ Below w1.heap.size w1 W) (fun _ _ _ => False)
      (OwnFrom.and (fun s X Y row ⟨vs, t, h1, h2⟩ hg hr => ⟨vs, t, h1.kept hg (fun r e => (hr r e).2), h2⟩) (OwnFrom.and (Own.from (boxed_own (β := List (CellIn ds)) _ _ (fun _ => Value.slice (some ⟨TB, 0, none⟩) n n)) _) (ownFrom_below (Nat.le_refl _) (by omega)))) (fun _ _ _ _ _ h _ _ => h)
      ⟨⟨_, _, hq00, hT0⟩, hz00, hb10⟩ (fun x => #[.int .i64 (x.1.1 : Int), .int .i64 (x.1.2 : Int)]) 6 101 w1.heap.size
      ?assign ?body ?done ?stop
    case assign =>
      rintro l pre x A K ⟨⟨vs, t, hq, ht⟩, hz, hb⟩ hKK
      simp only [cellV] at hKK ⊢
      have hsz := hb.size
      gi_wp2
      have hk := hKK A.heap.size _ (by omega) (World.alloc_heap_new A _) ((KeepsOthers.alloc _ _).from _) ((Below.refl _ A).alloc (by omega) _) ⟨⟨vs, t, hq.below ((Below.refl _ A).alloc (Nat.le_refl _) _), ht⟩, (((Below.refl _ A).alloc (Nat.le_refl _) _).block _ hz.lt).trans hz, hb.trans (((Below.refl _ A).alloc (Nat.le_refl _) _).mono (by omega))⟩
      simp at hk
      refine Eq.mp ?_ hk
      congr 1
      all_goals (try congr 1)
    case body =>
      rintro l pre x Bx A hl ⟨r, hr⟩ ⟨⟨vs, t, hq, ht⟩, hz, hb⟩ hBx hX hlt
      obtain ⟨⟨i, j⟩, hxm⟩ := x
      dsimp only at hX
      have hmf := mem_cells.1 hxm
      dsimp only at hmf
      have hcol : (ds.getD i []).length = q := by rw [getD_of_lt _ hmf.1, (HOK.out.col _ (List.getElem_mem hmf.1)).1]; exact HQ.out.symm
      have hmm : ds.length = m := HM.out.symm
      obtain ⟨s, hs⟩ : ∃ s, s = i + j := ⟨_, rfl⟩
      have hsn : s < n := by omega
      have hi4 : i ≤ 4 := by omega
      have hj4 : j ≤ 4 := by omega
      have HSS : Hid (s = i + j) := Lib.hid hs
      obtain ⟨d, hd⟩ : ∃ d, d = cdim ds (i, j) := ⟨_, rfl⟩
      have hcd := cdim_cast HOK.out hxm
      rw [← hd] at hcd
      have hd4 := hcd.2
      have HD := Lib.hid hd
      have hxA := HNX.out A hb
      have HDC : Hid (Calls Try.prog 95 #[.agg #[.int .i64 p, dv, av, vv], .agg #[.int .i64 (i : Int), .int .i64 (j : Int)]] A fun e w' => e = .returned (.int .i64 (d : Int)) ∧ Below A.heap.size A w') := Lib.hid (by
        rw [hcd.1]
        exact dimOfCell_any p i j _ _ _ ds A hxA.1.dx.dims ⟨by have := HOK.out.len1; omega, fun r hr => by have := (HOK.out.col r hr).1; have := HOK.out.h1; show r.length ≤ _; omega⟩ (by omega) (by omega) (by omega) (fun _ => by simp only [Int.toNat_natCast]; exact Int.ofNat_lt.2 hmf.2))
      have x0 : A.cell? ⟨Bx, 0, none⟩ = some (.int .i64 (i : Int)) := by simp [World.cell?, hX]
      have x1 : A.cell? ⟨Bx, 1, none⟩ = some (.int .i64 (j : Int)) := by simp [World.cell?, hX]
      have c0 := hxA.1.c0
      have c1 := hxA.1.c1
      have c2 := hxA.1.c2
      have c3 := hxA.1.c3
      have cb : A.cell? ⟨w.heap.size + 1, 0, none⟩ = some (.bool b) := by simp [World.cell?, hxA.2]
      have HLA : Hid (LvI w w1 W0 A A Bx ZB TB n i j ds b (pre.map (·.1)) 0) := Lib.hid ⟨⟨vs, t, hq, ht.q _⟩, hz, hb, ⟨Nat.le_refl _, fun _ _ _ hk _ => hk⟩, Below.refl _ _, hX⟩
      have hsz := hb.size
      have hpl : pre.length ≤ 16 := by have := cells_le HOK.out; omega
      clear hq ht hz hb hr hX hxA hlt hs hd hcd
      cases b with
      | false =>
        gi_wp2_with fail
        refine ⟨trivial, (CallsIn.inRound l (callsIn_wide.2 HDC.out)).mono ?_⟩
        rintro e A2 ⟨rfl, hb2⟩
        have HLI : Hid (LvI w w1 W0 A A2 Bx ZB TB n i j ds false (pre.map (·.1)) 0) := Lib.hid (HLA.out.next hb2 (by omega))
        clear HDC c0 c1 c2 c3 x0 x1 cb hb2
        gi_wp2
        gi_loopw [26] (fun i' wr => ∃ k : Nat, k ≤ d ∧ i' = .int .i64 k ∧ Hid (LvI w w1 W0 A wr Bx ZB TB n i j ds false (pre.map (·.1)) k)) (fun i' _ => d - (intOf i').toNat)
        case atStart => exact ⟨0, Nat.zero_le _, rfl, HLI⟩
        case round =>
          obtain ⟨k, hk, rfl, HLK⟩ := hrel
          by_cases hlk : k < d
          · obtain ⟨⟨vs, t, hq, ht⟩, hz, hb, hkp, hbl, hcl⟩ := HLK.out
            have htl : t.length = n := ht.1
            have hvl := hq.len
            have hit : s < t.length := by omega
            have hiv : s < vs.length := by omega
            have hrow := hq.rows s hiv hit
            obtain ⟨hcell, cs, htab⟩ := hq.cell hiv
            have hsz := hb.size
            have hrl : (t[s]).length ≤ 1000 := by
              have h1 := ht.2 s hsn
              rw [getD_of_lt _ hit] at h1
              rw [h1]
              have h2 := lvs_le HOK.out (b := false) pre s
              have h3 := cells_le HOK.out
              have h4 : (if (i, j).1 + (i, j).2 = s then List.replicate k (lvl false (i, j)) else []).length ≤ k := by split <;> simp
              rw [List.length_append]
              omega
            have hsw : IntKind.i64.wrap ((i : Int) + (j : Int)) = (s : Int) := by rw [show (i : Int) + (j : Int) = (s : Int) by have := HSS.out; omega]; exact IntWalk.i64_in _ (by omega)
            obtain ⟨rv, hrv⟩ : ∃ rv, rv = vs[s] := ⟨_, rfl⟩
            obtain ⟨ar, cr, hsh⟩ := Sl.shape hrow.l1
            rw [← hrv] at hrow hcell hsh
            have HQ := Lib.hid hq
            have HT := Lib.hid ht
            have HROW := Lib.hid hrow
            have HRV := Lib.hid hrv
            have HB := Lib.hid hb
            have HKB := Lib.hid (And.intro hkp hbl)
            have HTA := Lib.hid htab
            have HCL := Lib.hid hcl
            have HGO : Hid (∀ X, wr.grownBy X rv.ownBlock → X.cell? ⟨ZB, 0, none⟩ = some (.slice (some ⟨TB, 0, none⟩) n n) ∧ X.cell? ⟨Bx, 0, none⟩ = some (.int .i64 (i : Int)) ∧ X.cell? ⟨Bx, 1, none⟩ = some (.int .i64 (j : Int)) ∧ X.cell? ⟨TB, s, none⟩ = some rv ∧ X.frozen? ⟨TB, s, none⟩ = false ∧ Go.Boxed X ZB 22 (.slice (some ⟨TB, 0, none⟩) n n) ∧ X.heap[Bx]? = some (.cells #[.int .i64 (i : Int), .int .i64 (j : Int)] 101 (0, 0))) := Lib.hid (fun X hg => by
              have g1 := grown_off hrow hg (show wr.heap[ZB]? = _ from hz) (by decide)
              have g2 := grown_off hrow hg hcl (by decide)
              have g3 := grown_off hrow hg htab (by decide)
              have z1 : X.heap[ZB]? = some (.cells #[.slice (some ⟨TB, 0, none⟩) n n] 22 (0, 0)) := g1.trans hz
              exact ⟨by simp [World.cell?, z1], by simp [World.cell?, g2.trans hcl], by simp [World.cell?, g2.trans hcl], (World.cell?_of_block g3).trans hcell, by simp [World.frozen?, g3.trans htab], z1, g2.trans hcl⟩)
            clear hq ht hrow hb hcell htab hz hrv hkp hbl hcl HLK
            subst hsh
            gi_wp2_with fail
            refine wpIn_region_last (fun X => wr.grownBy X (Value.slice ar (t[s]).length cr).ownBlock) 18 (by kernel_rfl) (by kernel_rfl) (fun ⟨_, _, h⟩ => h) rfl (by kernel_rfl) ?_
            have S0 : wr.grownBy wr.drew (Value.slice ar (t[s]).length cr).ownBlock := ⟨rfl, rfl, rfl, Nat.le_refl _, fun _ _ _ => rfl⟩
            have hbd : Below wr.heap.size wr wr.drew := (Below.refl _ _).drew
            change wpAnyH _ _ _ _ _ _ _ _ wr.drew
            obtain ⟨wd, hwd⟩ : ∃ wd, wd = wr.drew := ⟨_, rfl⟩
            rw [← hwd] at S0 hbd ⊢
            clear hwd
            refine held_take (i := 0) (v := .slice (some ⟨TB, 0, none⟩) n n) (some 28) rfl rfl (by kernel_rfl) (by kernel_rfl) (by kernel_rfl) (fun _ _ _ h => h) (yieldsIf_cell (by kernel_rfl) rfl (by kernel_rfl) (fun W h => hload2s W (HGO.out W h).1)) S0 ?_
            refine held_take (i := 1) (v := .pointer (some ⟨Bx, 0, none⟩)) (some 29) rfl rfl (by kernel_rfl) (by kernel_rfl) (by kernel_rfl) (fun _ _ _ h => h) (yieldsIf_run (by kernel_rfl) (fun W _ => by kernel_rfl)) S0 ?_
            refine held_take (i := 2) (v := .int .i64 (i : Int)) (some 30) rfl rfl (by kernel_rfl) (by kernel_rfl) (by kernel_rfl) (fun _ _ _ h => h) (yieldsIf_cell (by kernel_rfl) rfl (by kernel_rfl) (fun W h => hloadIn W (HGO.out W h).2.1)) S0 ?_
            refine held_take (i := 3) (v := .pointer (some ⟨Bx, 1, none⟩)) (some 31) rfl rfl (by kernel_rfl) (by kernel_rfl) (by kernel_rfl) (fun _ _ _ h => h) (yieldsIf_run (by kernel_rfl) (fun W _ => by kernel_rfl)) S0 ?_
            refine held_take (i := 4) (v := .int .i64 (j : Int)) (some 32) rfl rfl (by kernel_rfl) (by kernel_rfl) (by kernel_rfl) (fun _ _ _ h => h) (yieldsIf_cell (by kernel_rfl) rfl (by kernel_rfl) (fun W h => hloadIn W (HGO.out W h).2.2.1)) S0 ?_
            refine held_take (i := 5) (v := .int .i64 (s : Int)) (some 33) rfl rfl (by kernel_rfl) (by kernel_rfl) (by kernel_rfl) (fun _ _ _ h => h) (yieldsIf_bin (by kernel_rfl) rfl (by kernel_rfl) (by kernel_rfl) (fun _ => rfl) (haddA hsw)) S0 ?_
            refine held_take (i := 6) (v := .slice (some ⟨TB, 0, none⟩) n n) (some 34) rfl rfl (by kernel_rfl) (by kernel_rfl) (by kernel_rfl) (fun _ _ _ h => h) (yieldsIf_cell (by kernel_rfl) rfl (by kernel_rfl) (fun W h => hload2s W (HGO.out W h).1)) S0 ?_
            refine held_take (i := 7) (v := .pointer (some ⟨Bx, 0, none⟩)) (some 35) rfl rfl (by kernel_rfl) (by kernel_rfl) (by kernel_rfl) (fun _ _ _ h => h) (yieldsIf_run (by kernel_rfl) (fun W _ => by kernel_rfl)) S0 ?_
            refine held_take (i := 8) (v := .int .i64 (i : Int)) (some 36) rfl rfl (by kernel_rfl) (by kernel_rfl) (by kernel_rfl) (fun _ _ _ h => h) (yieldsIf_cell (by kernel_rfl) rfl (by kernel_rfl) (fun W h => hloadIn W (HGO.out W h).2.1)) S0 ?_
            refine held_take (i := 9) (v := .pointer (some ⟨Bx, 1, none⟩)) (some 37) rfl rfl (by kernel_rfl) (by kernel_rfl) (by kernel_rfl) (fun _ _ _ h => h) (yieldsIf_run (by kernel_rfl) (fun W _ => by kernel_rfl)) S0 ?_
            refine held_take (i := 10) (v := .int .i64 (j : Int)) (some 38) rfl rfl (by kernel_rfl) (by kernel_rfl) (by kernel_rfl) (fun _ _ _ h => h) (yieldsIf_cell (by kernel_rfl) rfl (by kernel_rfl) (fun W h => hloadIn W (HGO.out W h).2.2.1)) S0 ?_
            refine held_take (i := 11) (v := .int .i64 (s : Int)) (some 39) rfl rfl (by kernel_rfl) (by kernel_rfl) (by kernel_rfl) (fun _ _ _ h => h) (yieldsIf_bin (by kernel_rfl) rfl (by kernel_rfl) (by kernel_rfl) (fun _ => rfl) (haddA hsw)) S0 ?_
            refine held_take (i := 12) (v := .pointer (some ⟨TB, 0 + s, none⟩)) (some 40) rfl rfl (by kernel_rfl) (by kernel_rfl) (by kernel_rfl) (fun _ _ _ h => h) (yieldsIf_index (by kernel_rfl) rfl (by kernel_rfl) (by kernel_rfl) (hidx2s TB 0 n hsn)) S0 ?_
            refine held_take (i := 13) (v := .slice ar (t[s]).length cr) (some 41) rfl rfl (by kernel_rfl) (by kernel_rfl) (by kernel_rfl) (fun _ _ _ h => h) (yieldsIf_cell (by kernel_rfl) rfl (by kernel_rfl) (fun W h => hload1s (b := TB) (o := 0 + s) W (by rw [Nat.zero_add]; exact (HGO.out W h).2.2.2.1))) S0 ?_
            refine held_take (i := 14) (v := .int .i64 (i : Int)) (some 42) rfl rfl (by kernel_rfl) (by kernel_rfl) (by kernel_rfl) (fun _ _ _ h => h) (yieldsIf_move (by kernel_rfl) rfl (by kernel_rfl)) S0 ?_
            obtain ⟨w7, hw7⟩ : ∃ w7, w7 = wd.alloc (.cells #[.int .i64 (i : Int)] 2) := ⟨_, rfl⟩
            have hb7 : Below wr.heap.size wr w7 := hbd.trans ((by rw [hw7]; exact below_alloc1 _ _ : Below wd.heap.size wd w7).mono hbd.size)
            have hl7 : L1 0 w7 (.slice (some ⟨wd.heap.size, 0, none⟩) 1 1) [(i : Int)] := .inr ⟨wd.heap.size, 0, 1, rfl, Nat.zero_le _, by simp, fun k hk => by
              have hk0 : k = 0 := by simpa using hk
              subst hk0
              exact ⟨.int .i64 (i : Int), by rw [hw7]; simp, rfl⟩⟩
            have S7 : wr.grownBy w7 (Value.slice ar (t[s]).length cr).ownBlock := ⟨hb7.os, hb7.tape, hb7.output, hb7.size, fun k hk _ => hb7.block k hk⟩
            refine held_mem (i := 15) (v := .slice (some ⟨wd.heap.size, 0, none⟩) 1 1) (w' := w7) (some 43) (by kernel_rfl) rfl rfl rfl (by rw [hw7]; go_simp) S7 ?_
            have hq7 := HQ.out.below hb7
            have hr7 := HROW.out.below hb7
            obtain ⟨v8, W8, hrun, hg8, hgr8, hown8⟩ := run_append_at w7 35 (.slice ar (t[s]).length cr) (t[s]) hr7 (.slice (some ⟨wd.heap.size, 0, none⟩) 1 1) [(i : Int)] hl7 (by simp; omega) (by have := hb7.size; omega)
            have S8 : wr.grownBy W8 (Value.slice ar (t[s]).length cr).ownBlock := ⟨hgr8.os.trans S7.os, hgr8.tape.trans S7.tape, hgr8.output.trans S7.output, Nat.le_trans S7.size hgr8.size, fun k hk hne => (hgr8.block k (Nat.lt_of_lt_of_le hk S7.size) hne).trans (S7.block k hk hne)⟩
            refine held_app (i := 16) (v := v8) (w' := W8) (x := .slice ar (t[s]).length cr) (y := .slice (some ⟨wd.heap.size, 0, none⟩) 1 1) (some 44) #[35, 35] (.tmp 41) (.tmp 43) (by kernel_rfl) rfl rfl rfl rfl (by kernel_rfl) (by kernel_rfl) (fun _ => hrun) S8 ?_
            obtain ⟨hq9, hfz9, u9, hc9⟩ := hq7.turn (row := v8) (y := t[s] ++ [(i : Int)]) hit hiv (by rw [← HRV.out]; exact hgr8) hg8 (fun b hbk => by
              rw [← HRV.out]
              rcases hown8 with h1 | h1
              · exact .inl (h1.symm.trans hbk)
              · rw [h1] at hbk; injection hbk with hbk; exact .inr (by omega))
            have hT9 := HT.out.step (s := s) HSS.out hit
            refine held_take (i := 17) (v := .pointer (some ⟨TB, 0 + s, none⟩)) (some 45) rfl rfl (by kernel_rfl) (by kernel_rfl) (by kernel_rfl) (fun _ _ _ h => h) (yieldsIf_index (by kernel_rfl) rfl (by kernel_rfl) (by kernel_rfl) (hidx2s TB 0 n hsn)) S8 ?_
            have hkeep : KeepsFrom W0.heap.size wr (W8.setCell ⟨TB, s, none⟩ v8) := KeepsFrom.trans ⟨S8.size, fun k o _ hk hc => (S8.block k (Array.getElem?_eq_some_iff.1 hk).1 (fun e => by
              rcases HROW.out.2 with ⟨h0, _⟩ | ⟨g, c', cur, hu, _, hh, _⟩
              · rw [h0] at e; simp [Value.ownBlock] at e
              · rw [hu] at e
                simp [Value.ownBlock] at e
                subst e
                rw [hh] at hk
                cases hk
                cases hc)).trans hk⟩ ((KeepsOthers.setCell _ _ _).from _)
            have hown : ∀ g, (Value.slice ar (t[s]).length cr).ownBlock = some g → w1.heap.size ≤ g := fun g hg => (HROW.out.lt g hg).1
            have hbz : Go.Boxed (W8.setCell ⟨TB, s, none⟩ v8) ZB 22 (.slice (some ⟨TB, 0, none⟩) n n) := (Below.heap_setCell W8 ⟨TB, s, none⟩ v8 _ (by show ZB ≠ TB; omega)).trans (HGO.out W8 S8).2.2.2.2.2.1
            have hBxT : Bx ≠ TB := fun e => by
              have h1 := HCL.out
              rw [e, HTA.out] at h1
              simp at h1
            have hc9x : (W8.setCell ⟨TB, s, none⟩ v8).heap[Bx]? = some (.cells #[.int .i64 (i : Int), .int .i64 (j : Int)] 101 (0, 0)) := (Below.heap_setCell W8 ⟨TB, s, none⟩ v8 _ (by show Bx ≠ TB; exact hBxT)).trans (HGO.out W8 S8).2.2.2.2.2.2
            have HLN : Hid (LvI w w1 W0 A (W8.setCell ⟨TB, s, none⟩ v8) Bx ZB TB n i j ds false (pre.map (·.1)) (k + 1)) := Lib.hid ⟨⟨_, _, hq9, hT9⟩, hbz, (HB.out.grown S8 hsz hown).setCell (p := ⟨TB, s, none⟩) (by show w1.heap.size ≤ TB; omega) _, HKB.out.1.trans hkeep, (HKB.out.2.grown S8 (by omega) (fun g hg => by have := hown g hg; omega)).setCell (p := ⟨TB, s, none⟩) (by show w.heap.size ≤ TB; omega) _, hc9x⟩
            obtain ⟨a8, c8, hv8⟩ := Sl.shape hg8.l1
            obtain ⟨n8, hn8⟩ : ∃ n8, n8 = (t[s] ++ [(i : Int)]).length := ⟨_, rfl⟩
            rw [← hn8] at hv8
            subst hv8
            clear hn8 hkeep hbz hc9x hT9 hq9 hg8 hgr8 hown8 hown hq7 hr7 hl7 hb7 hw7 hrun hBxT
            refine held_none (i := 18) (v := .bool false) rfl rfl (by kernel_rfl) (by kernel_rfl) (by kernel_rfl) (fun _ _ _ h => h) (yieldsIf_move (by kernel_rfl) rfl (by kernel_rfl)) S8 ?_
            refine wpAnyH_done (by kernel_rfl) (lastQ_storeN rfl (by kernel_rfl) (by kernel_rfl) (.tmp 45) (.tmp 44) (by kernel_rfl) TB (0 + s) a8 n8 c8 u9 (by kernel_rfl) (by kernel_rfl) (by rw [Nat.zero_add]; exact hc9) (by rw [Nat.zero_add]; exact hfz9) ?_) _
            rw [Nat.zero_add]
            simp only [Act.put, List.setIfInBounds_toArray, List.set_cons_zero, List.set_cons_succ]
            clear S0 S7 S8 hbd HGO HQ HT HROW HRV HB HKB HTA HCL hc9 hfz9 hsw hrl
            gi_wp2
            go_roundw
            case rel => exact ⟨k + 1, by omega, by go_num, HLN⟩
            case measure => simp [intOf]; omega
          · obtain rfl : k = d := by omega
            have HF : Hid (KeepsFrom W0.heap.size A wr ∧ Below w.heap.size A wr ∧ (∃ vs t, Gqv w1.heap.size wr (.slice (some ⟨TB, 0, none⟩) n n) vs t ∧ LvP n ds false ((pre ++ ([⟨(i, j), hxm⟩] : List (CellIn ds))).map (·.1)) t) ∧ Go.Boxed wr ZB 22 (.slice (some ⟨TB, 0, none⟩) n n) ∧ Below w1.heap.size w1 wr) := Lib.hid (by
              obtain ⟨⟨vs, t, hq, ht⟩, hz, hb, hkp, hbl, hcl⟩ := HLK.out
              refine ⟨hkp, hbl, ⟨vs, t, hq, ?_⟩, hz, hb⟩
              rw [List.map_append]
              exact (by rw [HD.out] at ht; exact ht.p : LvP n ds false (pre.map (·.1) ++ [(i, j)]) t))
            gi_wp2
            exact HF.out
      | true =>
        gi_wp2_with fail
        refine ⟨trivial, (CallsIn.inRound l (callsIn_wide.2 HDC.out)).mono ?_⟩
        rintro e A2 ⟨rfl, hb2⟩
        have HLI : Hid (LvI w w1 W0 A A2 Bx ZB TB n i j ds true (pre.map (·.1)) 0) := Lib.hid (HLA.out.next hb2 (by omega))
        clear HDC c0 c1 c2 c3 x0 x1 cb hb2
        gi_wp2
        gi_loopw [26] (fun i' wr => ∃ k : Nat, k ≤ d ∧ i' = .int .i64 k ∧ Hid (LvI w w1 W0 A wr Bx ZB TB n i j ds true (pre.map (·.1)) k)) (fun i' _ => d - (intOf i').toNat)
        case atStart => exact ⟨0, Nat.zero_le _, rfl, HLI⟩
        case round =>
          obtain ⟨k, hk, rfl, HLK⟩ := hrel
          by_cases hlk : k < d
          · obtain ⟨⟨vs, t, hq, ht⟩, hz, hb, hkp, hbl, hcl⟩ := HLK.out
            have htl : t.length = n := ht.1
            have hvl := hq.len
            have hit : s < t.length := by omega
            have hiv : s < vs.length := by omega
            have hrow := hq.rows s hiv hit
            obtain ⟨hcell, cs, htab⟩ := hq.cell hiv
            have hsz := hb.size
            have hrl : (t[s]).length ≤ 1000 := by
              have h1 := ht.2 s hsn
              rw [getD_of_lt _ hit] at h1
              rw [h1]
              have h2 := lvs_le HOK.out (b := true) pre s
              have h3 := cells_le HOK.out
              have h4 : (if (i, j).1 + (i, j).2 = s then List.replicate k (lvl true (i, j)) else []).length ≤ k := by split <;> simp
              rw [List.length_append]
              omega
            have hsw : IntKind.i64.wrap ((i : Int) + (j : Int)) = (s : Int) := by rw [show (i : Int) + (j : Int) = (s : Int) by have := HSS.out; omega]; exact IntWalk.i64_in _ (by omega)
            obtain ⟨rv, hrv⟩ : ∃ rv, rv = vs[s] := ⟨_, rfl⟩
            obtain ⟨ar, cr, hsh⟩ := Sl.shape hrow.l1
            rw [← hrv] at hrow hcell hsh
            have HQ := Lib.hid hq
            have HT := Lib.hid ht
            have HROW := Lib.hid hrow
            have HRV := Lib.hid hrv
            have HB := Lib.hid hb
            have HKB := Lib.hid (And.intro hkp hbl)
            have HTA := Lib.hid htab
            have HCL := Lib.hid hcl
            have HGO : Hid (∀ X, wr.grownBy X rv.ownBlock → X.cell? ⟨ZB, 0, none⟩ = some (.slice (some ⟨TB, 0, none⟩) n n) ∧ X.cell? ⟨Bx, 0, none⟩ = some (.int .i64 (i : Int)) ∧ X.cell? ⟨Bx, 1, none⟩ = some (.int .i64 (j : Int)) ∧ X.cell? ⟨TB, s, none⟩ = some rv ∧ X.frozen? ⟨TB, s, none⟩ = false ∧ Go.Boxed X ZB 22 (.slice (some ⟨TB, 0, none⟩) n n) ∧ X.heap[Bx]? = some (.cells #[.int .i64 (i : Int), .int .i64 (j : Int)] 101 (0, 0))) := Lib.hid (fun X hg => by
              have g1 := grown_off hrow hg (show wr.heap[ZB]? = _ from hz) (by decide)
              have g2 := grown_off hrow hg hcl (by decide)
              have g3 := grown_off hrow hg htab (by decide)
              have z1 : X.heap[ZB]? = some (.cells #[.slice (some ⟨TB, 0, none⟩) n n] 22 (0, 0)) := g1.trans hz
              exact ⟨by simp [World.cell?, z1], by simp [World.cell?, g2.trans hcl], by simp [World.cell?, g2.trans hcl], (World.cell?_of_block g3).trans hcell, by simp [World.frozen?, g3.trans htab], z1, g2.trans hcl⟩)
            clear hq ht hrow hb hcell htab hz hrv hkp hbl hcl HLK
            subst hsh
            gi_wp2_with fail
            refine wpIn_region_last (fun X => wr.grownBy X (Value.slice ar (t[s]).length cr).ownBlock) 18 (by kernel_rfl) (by kernel_rfl) (fun ⟨_, _, h⟩ => h) rfl (by kernel_rfl) ?_
            have S0 : wr.grownBy wr.drew (Value.slice ar (t[s]).length cr).ownBlock := ⟨rfl, rfl, rfl, Nat.le_refl _, fun _ _ _ => rfl⟩
            have hbd : Below wr.heap.size wr wr.drew := (Below.refl _ _).drew
            change wpAnyH _ _ _ _ _ _ _ _ wr.drew
            obtain ⟨wd, hwd⟩ : ∃ wd, wd = wr.drew := ⟨_, rfl⟩
            rw [← hwd] at S0 hbd ⊢
            clear hwd
            refine held_take (i := 0) (v := .slice (some ⟨TB, 0, none⟩) n n) (some 28) rfl rfl (by kernel_rfl) (by kernel_rfl) (by kernel_rfl) (fun _ _ _ h => h) (yieldsIf_cell (by kernel_rfl) rfl (by kernel_rfl) (fun W h => hload2s W (HGO.out W h).1)) S0 ?_
            refine held_take (i := 1) (v := .pointer (some ⟨Bx, 0, none⟩)) (some 29) rfl rfl (by kernel_rfl) (by kernel_rfl) (by kernel_rfl) (fun _ _ _ h => h) (yieldsIf_run (by kernel_rfl) (fun W _ => by kernel_rfl)) S0 ?_
            refine held_take (i := 2) (v := .int .i64 (i : Int)) (some 30) rfl rfl (by kernel_rfl) (by kernel_rfl) (by kernel_rfl) (fun _ _ _ h => h) (yieldsIf_cell (by kernel_rfl) rfl (by kernel_rfl) (fun W h => hloadIn W (HGO.out W h).2.1)) S0 ?_
            refine held_take (i := 3) (v := .pointer (some ⟨Bx, 1, none⟩)) (some 31) rfl rfl (by kernel_rfl) (by kernel_rfl) (by kernel_rfl) (fun _ _ _ h => h) (yieldsIf_run (by kernel_rfl) (fun W _ => by kernel_rfl)) S0 ?_
            refine held_take (i := 4) (v := .int .i64 (j : Int)) (some 32) rfl rfl (by kernel_rfl) (by kernel_rfl) (by kernel_rfl) (fun _ _ _ h => h) (yieldsIf_cell (by kernel_rfl) rfl (by kernel_rfl) (fun W h => hloadIn W (HGO.out W h).2.2.1)) S0 ?_
            refine held_take (i := 5) (v := .int .i64 (s : Int)) (some 33) rfl rfl (by kernel_rfl) (by kernel_rfl) (by kernel_rfl) (fun _ _ _ h => h) (yieldsIf_bin (by kernel_rfl) rfl (by kernel_rfl) (by kernel_rfl) (fun _ => rfl) (haddA hsw)) S0 ?_
            refine held_take (i := 6) (v := .slice (some ⟨TB, 0, none⟩) n n) (some 34) rfl rfl (by kernel_rfl) (by kernel_rfl) (by kernel_rfl) (fun _ _ _ h => h) (yieldsIf_cell (by kernel_rfl) rfl (by kernel_rfl) (fun W h => hload2s W (HGO.out W h).1)) S0 ?_
            refine held_take (i := 7) (v := .pointer (some ⟨Bx, 0, none⟩)) (some 35) rfl rfl (by kernel_rfl) (by kernel_rfl) (by kernel_rfl) (fun _ _ _ h => h) (yieldsIf_run (by kernel_rfl) (fun W _ => by kernel_rfl)) S0 ?_
            refine held_take (i := 8) (v := .int .i64 (i : Int)) (some 36) rfl rfl (by kernel_rfl) (by kernel_rfl) (by kernel_rfl) (fun _ _ _ h => h) (yieldsIf_cell (by kernel_rfl) rfl (by kernel_rfl) (fun W h => hloadIn W (HGO.out W h).2.1)) S0 ?_
            refine held_take (i := 9) (v := .pointer (some ⟨Bx, 1, none⟩)) (some 37) rfl rfl (by kernel_rfl) (by kernel_rfl) (by kernel_rfl) (fun _ _ _ h => h) (yieldsIf_run (by kernel_rfl) (fun W _ => by kernel_rfl)) S0 ?_
            refine held_take (i := 10) (v := .int .i64 (j : Int)) (some 38) rfl rfl (by kernel_rfl) (by kernel_rfl) (by kernel_rfl) (fun _ _ _ h => h) (yieldsIf_cell (by kernel_rfl) rfl (by kernel_rfl) (fun W h => hloadIn W (HGO.out W h).2.2.1)) S0 ?_
            refine held_take (i := 11) (v := .int .i64 (s : Int)) (some 39) rfl rfl (by kernel_rfl) (by kernel_rfl) (by kernel_rfl) (fun _ _ _ h => h) (yieldsIf_bin (by kernel_rfl) rfl (by kernel_rfl) (by kernel_rfl) (fun _ => rfl) (haddA hsw)) S0 ?_
            refine held_take (i := 12) (v := .pointer (some ⟨TB, 0 + s, none⟩)) (some 40) rfl rfl (by kernel_rfl) (by kernel_rfl) (by kernel_rfl) (fun _ _ _ h => h) (yieldsIf_index (by kernel_rfl) rfl (by kernel_rfl) (by kernel_rfl) (hidx2s TB 0 n hsn)) S0 ?_
            refine held_take (i := 13) (v := .slice ar (t[s]).length cr) (some 41) rfl rfl (by kernel_rfl) (by kernel_rfl) (by kernel_rfl) (fun _ _ _ h => h) (yieldsIf_cell (by kernel_rfl) rfl (by kernel_rfl) (fun W h => hload1s (b := TB) (o := 0 + s) W (by rw [Nat.zero_add]; exact (HGO.out W h).2.2.2.1))) S0 ?_
            refine held_take (i := 14) (v := .int .i64 (j : Int)) (some 42) rfl rfl (by kernel_rfl) (by kernel_rfl) (by kernel_rfl) (fun _ _ _ h => h) (yieldsIf_move (by kernel_rfl) rfl (by kernel_rfl)) S0 ?_
            obtain ⟨w7, hw7⟩ : ∃ w7, w7 = wd.alloc (.cells #[.int .i64 (j : Int)] 2) := ⟨_, rfl⟩
            have hb7 : Below wr.heap.size wr w7 := hbd.trans ((by rw [hw7]; exact below_alloc1 _ _ : Below wd.heap.size wd w7).mono hbd.size)
            have hl7 : L1 0 w7 (.slice (some ⟨wd.heap.size, 0, none⟩) 1 1) [(j : Int)] := .inr ⟨wd.heap.size, 0, 1, rfl, Nat.zero_le _, by simp, fun k hk => by
              have hk0 : k = 0 := by simpa using hk
              subst hk0
              exact ⟨.int .i64 (j : Int), by rw [hw7]; simp, rfl⟩⟩
            have S7 : wr.grownBy w7 (Value.slice ar (t[s]).length cr).ownBlock := ⟨hb7.os, hb7.tape, hb7.output, hb7.size, fun k hk _ => hb7.block k hk⟩
            refine held_mem (i := 15) (v := .slice (some ⟨wd.heap.size, 0, none⟩) 1 1) (w' := w7) (some 43) (by kernel_rfl) rfl rfl rfl (by rw [hw7]; go_simp) S7 ?_
            have hq7 := HQ.out.below hb7
            have hr7 := HROW.out.below hb7
            obtain ⟨v8, W8, hrun, hg8, hgr8, hown8⟩ := run_append_at w7 35 (.slice ar (t[s]).length cr) (t[s]) hr7 (.slice (some ⟨wd.heap.size, 0, none⟩) 1 1) [(j : Int)] hl7 (by simp; omega) (by have := hb7.size; omega)
            have S8 : wr.grownBy W8 (Value.slice ar (t[s]).length cr).ownBlock := ⟨hgr8.os.trans S7.os, hgr8.tape.trans S7.tape, hgr8.output.trans S7.output, Nat.le_trans S7.size hgr8.size, fun k hk hne => (hgr8.block k (Nat.lt_of_lt_of_le hk S7.size) hne).trans (S7.block k hk hne)⟩
            refine held_app (i := 16) (v := v8) (w' := W8) (x := .slice ar (t[s]).length cr) (y := .slice (some ⟨wd.heap.size, 0, none⟩) 1 1) (some 44) #[35, 35] (.tmp 41) (.tmp 43) (by kernel_rfl) rfl rfl rfl rfl (by kernel_rfl) (by kernel_rfl) (fun _ => hrun) S8 ?_
            obtain ⟨hq9, hfz9, u9, hc9⟩ := hq7.turn (row := v8) (y := t[s] ++ [(j : Int)]) hit hiv (by rw [← HRV.out]; exact hgr8) hg8 (fun b hbk => by
              rw [← HRV.out]
              rcases hown8 with h1 | h1
              · exact .inl (h1.symm.trans hbk)
              · rw [h1] at hbk; injection hbk with hbk; exact .inr (by omega))
            have hT9 := HT.out.step (s := s) HSS.out hit
            refine held_take (i := 17) (v := .pointer (some ⟨TB, 0 + s, none⟩)) (some 45) rfl rfl (by kernel_rfl) (by kernel_rfl) (by kernel_rfl) (fun _ _ _ h => h) (yieldsIf_index (by kernel_rfl) rfl (by kernel_rfl) (by kernel_rfl) (hidx2s TB 0 n hsn)) S8 ?_
            have hkeep : KeepsFrom W0.heap.size wr (W8.setCell ⟨TB, s, none⟩ v8) := KeepsFrom.trans ⟨S8.size, fun k o _ hk hc => (S8.block k (Array.getElem?_eq_some_iff.1 hk).1 (fun e => by
              rcases HROW.out.2 with ⟨h0, _⟩ | ⟨g, c', cur, hu, _, hh, _⟩
              · rw [h0] at e; simp [Value.ownBlock] at e
              · rw [hu] at e
                simp [Value.ownBlock] at e
                subst e
                rw [hh] at hk
                cases hk
                cases hc)).trans hk⟩ ((KeepsOthers.setCell _ _ _).from _)
            have hown : ∀ g, (Value.slice ar (t[s]).length cr).ownBlock = some g → w1.heap.size ≤ g := fun g hg => (HROW.out.lt g hg).1
            have hbz : Go.Boxed (W8.setCell ⟨TB, s, none⟩ v8) ZB 22 (.slice (some ⟨TB, 0, none⟩) n n) := (Below.heap_setCell W8 ⟨TB, s, none⟩ v8 _ (by show ZB ≠ TB; omega)).trans (HGO.out W8 S8).2.2.2.2.2.1
            have hBxT : Bx ≠ TB := fun e => by
              have h1 := HCL.out
              rw [e, HTA.out] at h1
              simp at h1
            have hc9x : (W8.setCell ⟨TB, s, none⟩ v8).heap[Bx]? = some (.cells #[.int .i64 (i : Int), .int .i64 (j : Int)] 101 (0, 0)) := (Below.heap_setCell W8 ⟨TB, s, none⟩ v8 _ (by show Bx ≠ TB; exact hBxT)).trans (HGO.out W8 S8).2.2.2.2.2.2
            have HLN : Hid (LvI w w1 W0 A (W8.setCell ⟨TB, s, none⟩ v8) Bx ZB TB n i j ds true (pre.map (·.1)) (k + 1)) := Lib.hid ⟨⟨_, _, hq9, hT9⟩, hbz, (HB.out.grown S8 hsz hown).setCell (p := ⟨TB, s, none⟩) (by show w1.heap.size ≤ TB; omega) _, HKB.out.1.trans hkeep, (HKB.out.2.grown S8 (by omega) (fun g hg => by have := hown g hg; omega)).setCell (p := ⟨TB, s, none⟩) (by show w.heap.size ≤ TB; omega) _, hc9x⟩
            obtain ⟨a8, c8, hv8⟩ := Sl.shape hg8.l1
            obtain ⟨n8, hn8⟩ : ∃ n8, n8 = (t[s] ++ [(j : Int)]).length := ⟨_, rfl⟩
            rw [← hn8] at hv8
            subst hv8
            clear hn8 hkeep hbz hc9x hT9 hq9 hg8 hgr8 hown8 hown hq7 hr7 hl7 hb7 hw7 hrun hBxT
            refine held_none (i := 18) (v := .bool false) rfl rfl (by kernel_rfl) (by kernel_rfl) (by kernel_rfl) (fun _ _ _ h => h) (yieldsIf_move (by kernel_rfl) rfl (by kernel_rfl)) S8 ?_
            refine wpAnyH_done (by kernel_rfl) (lastQ_storeN rfl (by kernel_rfl) (by kernel_rfl) (.tmp 45) (.tmp 44) (by kernel_rfl) TB (0 + s) a8 n8 c8 u9 (by kernel_rfl) (by kernel_rfl) (by rw [Nat.zero_add]; exact hc9) (by rw [Nat.zero_add]; exact hfz9) ?_) _
            rw [Nat.zero_add]
            simp only [Act.put, List.setIfInBounds_toArray, List.set_cons_zero, List.set_cons_succ]
            clear S0 S7 S8 hbd HGO HQ HT HROW HRV HB HKB HTA HCL hc9 hfz9 hsw hrl
            gi_wp2
            go_roundw
            case rel => exact ⟨k + 1, by omega, by go_num, HLN⟩
            case measure => simp [intOf]; omega
          · obtain rfl : k = d := by omega
            have HF : Hid (KeepsFrom W0.heap.size A wr ∧ Below w.heap.size A wr ∧ (∃ vs t, Gqv w1.heap.size wr (.slice (some ⟨TB, 0, none⟩) n n) vs t ∧ LvP n ds true ((pre ++ ([⟨(i, j), hxm⟩] : List (CellIn ds))).map (·.1)) t) ∧ Go.Boxed wr ZB 22 (.slice (some ⟨TB, 0, none⟩) n n) ∧ Below w1.heap.size w1 wr) := Lib.hid (by
              obtain ⟨⟨vs, t, hq, ht⟩, hz, hb, hkp, hbl, hcl⟩ := HLK.out
              refine ⟨hkp, hbl, ⟨vs, t, hq, ?_⟩, hz, hb⟩
              rw [List.map_append]
              exact (by rw [HD.out] at ht; exact ht.p : LvP n ds true (pre.map (·.1) ++ [(i, j)]) t))
            gi_wp2
            exact HF.out
    case done =>
      rintro D zs A hD hS ⟨⟨vs, t, hq, ht⟩, hz, hb⟩ hKD
      rw [hS] at ht
      have zc := hz.cell
      have HKD := Lib.hid hKD
      have HQ2 := Lib.hid hq
      have htt := ht.all HN.out
      have HT := Lib.hid htt
      have HTL := Lib.hid ht.1
      have HB := Lib.hid hb
      have hsz := hb.size
      clear hz hq ht hb hKD hS htt
      go_wp2
      refine ⟨by simp, .inl ⟨_, _, rfl, run_takeDeferred HKD.out, ?_⟩⟩
      have hqf := (HQ2.out.kept (grownBy_putObj' A D (.deferred none)) (fun r e => by cases e; exact ⟨_, HKD.out, rfl⟩)).rw2 (by have := HTL.out; omega) (fun y hy => by
        rw [HT.out] at hy
        obtain ⟨k, _, rfl⟩ := List.mem_map.1 hy
        have h1 := lvt_le HOK.out b k
        omega)
      rw [HT.out] at hqf
      refine ⟨_, results_tmp rfl _ _ _, ?_⟩
      exact ⟨.slice (some ⟨TB, 0, none⟩) n n, rfl, hqf.wider (by omega) (Nat.le_refl _), (HX1.out.below.trans (HB.out.mono (by omega))).trans (belowK_b (w := w) (Nat.le_refl _) _ D _ _ (by omega) HKD.out rfl rfl)⟩
    case stop =>
      rintro D c pre A hD _ hf hKD
      exact hf.elim
end Go.Proofs.Ytlopenephgabhaa

