/-
  DualComplex of the program: its answer in memory of its own.
-/
import Derived.Test.YtjkbfnkaaadlcaaRc
import Derived.Test.YtjkbfnkaaadlcaaDual
import Derived.Test.YtjkbfnkaaadlcaaEnd
namespace Go.Proofs.Ytjkbfnkaaadlcaa
open Go.RowKit
/-- The dual's dimensions and tables. -/
def dualD (ds : List Int) : List Int := (List.range ds.length).map fun j => ds.getD (ds.length - 1 - j) 0
def dualM (ds : List Int) (ms : List (List (List Int))) : List (List (List Int)) := (List.range ms.length).map fun j => tableOf (duR ds ms.length j) (duC ms j) (duZ ms j)
theorem dualD_length (ds : List Int) : (dualD ds).length = ds.length := by simp [dualD]
theorem dualM_length (ds : List Int) (ms : List (List (List Int))) : (dualM ds ms).length = ms.length := by simp [dualM]
theorem dualM_at {ds : List Int} {ms : List (List (List Int))} {j : Nat} (h : j < (dualM ds ms).length) : (dualM ds ms)[j] = tableOf (duR ds ms.length j) (duC ms j) (duZ ms j) := by simp [dualM]
theorem duR_8 {p : Int} {ds : List Int} {ms : List (List (List Int))} (h : IsCx p ds ms) (j : Nat) : duR ds ms.length j ≤ 8 := by
  have := (h.1.dim (ms.length - 1 - j)).2
  unfold duR
  omega
theorem duC_bd {ms : List (List (List Int))} (h : Bd3 1048576 ms) (j : Nat) : duC ms j ≤ 1048576 := by
  unfold duC
  by_cases e : ms.length - 1 - j < ms.length
  · rw [getD_of_lt _ e]
    exact (h.2 _ (List.getElem_mem e)).1
  · rw [List.getD_eq_getElem?_getD, List.getElem?_eq_none (by omega)]
    simp
theorem DuAt.rc {w W : World} {p : Int} {ds : List Int} {ms : List (List (List Int))} {bd bm : Nat} (h : DuAt w W ds ms bd bm) (hd : ds.length ≤ 1048576) (hm : Bd3 1048576 ms) (hcx : IsCx p ds ms) :
    RcW w.heap.size W.heap.size W (.slice (some ⟨bd, 0, none⟩) ds.length ds.length) (.slice (some ⟨bm, 0, none⟩) ms.length ms.length) (dualD ds) (dualM ds ms) := by
  obtain ⟨hb, ⟨l1, l2, l3⟩, hdim, lo, bs, t1, t2, t3, t4⟩ := h
  have hml := hm.1
  have hlt := t3.lt
  have hfill : Fill3 W bm ms.length ms.length (duM bs (duR ds ms.length) ms.length) (fun j => if j < ms.length then bs j else W.heap.size) (dualM ds ms) := by
    refine ⟨t3, ?_, fun j hj => ?_, ?_, fun j hj hjk => ?_⟩
    · by_cases e : 0 < ms.length
      · simp only [if_pos e]
        have := t4.lo' 0 e
        omega
      · simp only [if_neg e]
        exact hlt
    · simp only [if_pos hj]
      by_cases e : j + 1 < ms.length
      · simp only [if_pos e]
        have := t4.inc j (j + 1) (by omega) e
        omega
      · simp only [if_neg e]
        have := t4.hi j hj
        omega
    · simp only [if_neg (Nat.lt_irrefl _)]
      exact Nat.le_refl _
    · rw [dualM_at]
      simp only [duM, if_pos hjk]
      refine Tb.rw2h (g := bs j) ⟨(t4.at' j hjk).top, (t4.at' j hjk).rows, t4.hi j hjk⟩ (Nat.le_refl _) ?_ (Nat.le_trans (duR_8 hcx j) (by omega)) (duC_bd hm j)
      by_cases e : j + 1 < ms.length
      · simp only [if_pos e]
        exact t4.inc j (j + 1) (by omega) e
      · simp only [if_neg e]
        exact t4.hi j hjk
  obtain ⟨q3, J, s3, n3, d3, z3⟩ := hfill.parts (dualM_length ds ms).symm hml
  obtain ⟨q1, I, s1, n1, b1, z1⟩ := row_rc (xs := dualD ds) hdim (dualD_length ds) (fun i hi => by
    have hi' : i < ds.length := by rw [dualD_length] at hi; exact hi
    simp [duD, dualD, hi']) hd l1
  refine ⟨⟨q1, q3.wider l2 (Nat.le_refl _)⟩, I, J, s1, s3.wider l2 (Nat.le_refl _), n1, n3.wider ?_ (Nat.le_refl _), d3, fun x hx y hy => Or.inl ?_, z1, z3⟩
  · by_cases e : 0 < ms.length
    · simp only [if_pos e]
      have := t4.lo' 0 e
      omega
    · simp only [if_neg e]
      omega
  · have h1 := b1 x hx
    have h2 := (n3 y hy).1
    have h3 := hdim.lt
    rw [h1]
    by_cases e : 0 < ms.length
    · simp only [if_pos e] at h2
      have := t4.lo' 0 e
      omega
    · simp only [if_neg e] at h2
      omega
open Classical in
/-- The code of a function of a complex alone. -/
noncomputable def coCode (p : Int) (ds : List Int) (ms : List (List (List Int))) : Int := if IsCx p ds ms then 0 else 1
theorem coCode_zero {p : Int} {ds : List Int} {ms : List (List (List Int))} (h : coCode p ds ms = 0) : IsCx p ds ms := by
  unfold coCode at h
  by_cases hc : IsCx p ds ms
  · exact hc
  · rw [if_neg hc] at h
    cases h
theorem dual_bd {p : Int} {ds : List Int} {ms : List (List (List Int))} (h : IsCx p ds ms) : CoB (p, dualD ds, dualM ds ms) := by
  have h1 := h.1.len1
  have h2 := h.1.mlen
  have hR := duR_8 h
  have hC : ∀ j, duC ms j ≤ 8 := fun j => by
    unfold duC
    by_cases e : ms.length - 1 - j < ms.length
    · have a1 := (h.1.tabs _ e).1
      have a2 := h.1.dim (ms.length - 1 - j + 1)
      omega
    · rw [List.getD_eq_getElem?_getD, List.getElem?_eq_none (by omega)]
      simp
  refine ⟨by show (dualD ds).length ≤ _; rw [dualD_length]; omega, by show (dualM ds ms).length ≤ _; rw [dualM_length]; omega, fun t ht => ?_⟩
  obtain ⟨j, hj, rfl⟩ := List.mem_map.1 (show t ∈ dualM ds ms from ht)
  have := hR j
  have := hC j
  refine ⟨by simp [tableOf]; omega, fun r hr => ?_⟩
  obtain ⟨i, hi, rfl⟩ := List.mem_map.1 (show r ∈ tableOf _ _ _ from hr)
  show List.length _ ≤ _
  rw [List.length_map, List.length_range]
  omega
def DualIs (p : Int) (ds : List Int) (ms : List (List (List Int))) (o : Co) : Prop := o = (p, dualD ds, dualM ds ms)

set_option maxHeartbeats 3200000 in
set_option maxRecDepth 100000 in
theorem dual_any (p : Int) (dv mv : Value) (ds : List Int) (ms : List (List (List Int))) (w : World) (h : Cx 0 w dv mv ds ms) (hd : ds.length ≤ 1048576) (hm : Bd3 1048576 ms) :
    Calls Try.prog 34 #[.agg #[.int .i64 p, dv, mv]] w (AnsW RwC (DualIs p ds ms) (0, [], []) (coCode p ds ms) w) := by
  obtain ⟨ad, cap, rfl⟩ := Sl.shape h.dims
  obtain ⟨am, capm, rfl⟩ := Sl.shape h.maps
  by_cases hc : IsCx p ds ms
  · refine (dualImpl_good p _ _ ds ms w h hd hm hc).mono ?_
    rintro e w' ⟨bd, bm, rfl, ha⟩
    have hrc := ha.rc hd hm hc
    refine ⟨_, (p, dualD ds, dualM ds ms), 0, rfl, ⟨some ⟨bd, 0, none⟩, ds.length, some ⟨bm, 0, none⟩, ms.length, ?_, ?_⟩, ha.below, RsOut.of_yes (by unfold coCode; rw [if_pos hc]) rfl⟩
    · dsimp only
      rw [dualD_length, dualM_length]
    · dsimp only
      rw [dualD_length, dualM_length]
      exact hrc
  · have HCODE : Hid (coCode p ds ms = 1) := Lib.hid (by unfold coCode; rw [if_neg hc])
    have HX0 := Lib.hid ((Bx.start (p := p) 32 h).next ((Below.refl _ _).alloc (Nat.le_refl _) (.cells #[.int .i64 0, .slice none 0 0, .slice none 0 0] 32)))
    have HCX := Lib.hid hc
    have HM := Lib.hid hm
    have hres : Try.f34.results = #[.cell 2 32, .tmp 3] := by kernel_rfl
    have HRES := Lib.hid hres
    clear hres h hm hc
    go_enter Try.func34, Try.ntmps34
    go_wp2_with fail
    refine (isComplex_any p _ _ ds ms _ HX0.out.cx hd HM.out).mono ?_
    rintro e w1 ⟨bb, rfl, hb1, hbb⟩
    obtain rfl : bb = false := bb_no hbb HCX.out
    have HX1 := Lib.hid (HX0.out.next hb1)
    have hsz1 : w.heap.size + 2 ≤ w1.heap.size := by have := hb1.size; simpa using this
    have hr0 : ∃ x y z, w1.heap[w.heap.size + 1]? = some (.cells #[x, y, z] 32) := ⟨_, _, _, by rw [hb1.block (w.heap.size + 1) (by simp)]; have := heap_alloc_new (w.alloc (.cells #[.int .i64 p, .slice ad ds.length cap, .slice am ms.length capm] 32)) (.cells #[.int .i64 0, .slice none 0 0, .slice none 0 0] 32); simpa using this⟩
    obtain ⟨x, y, z, hr⟩ := hr0
    have hrow : w1.rowIs (w.heap.size + 1) 32 3 (sel3 x y z) := rowIs3 hr
    have q0 : w1.cell? ⟨w.heap.size + 1, 0, none⟩ = some x := hrow.cell (i := 0) (by omega)
    have z0 : w1.frozen? ⟨w.heap.size + 1, 0, none⟩ = false := hrow.frozen 0
    have r1 := hrow.set 0 (.int .i64 0)
    have q1 : (w1.setCell ⟨w.heap.size + 1, 0, none⟩ (.int .i64 0)).cell? ⟨w.heap.size + 1, 1, none⟩ = some y := r1.cell (i := 1) (by omega)
    have z1 : (w1.setCell ⟨w.heap.size + 1, 0, none⟩ (.int .i64 0)).frozen? ⟨w.heap.size + 1, 1, none⟩ = false := r1.frozen 1
    have r2 := r1.set 1 (.slice none 0 0)
    have q2 : ((w1.setCell ⟨w.heap.size + 1, 0, none⟩ (.int .i64 0)).setCell ⟨w.heap.size + 1, 1, none⟩ (.slice none 0 0)).cell? ⟨w.heap.size + 1, 2, none⟩ = some z := r2.cell (i := 2) (by omega)
    have z2 : ((w1.setCell ⟨w.heap.size + 1, 0, none⟩ (.int .i64 0)).setCell ⟨w.heap.size + 1, 1, none⟩ (.slice none 0 0)).frozen? ⟨w.heap.size + 1, 2, none⟩ = false := r2.frozen 2
    have r3 := r2.set 2 (.slice none 0 0)
    obtain ⟨WF, hWF⟩ : ∃ W : World, W = ((w1.setCell ⟨w.heap.size + 1, 0, none⟩ (.int .i64 0)).setCell ⟨w.heap.size + 1, 1, none⟩ (.slice none 0 0)).setCell ⟨w.heap.size + 1, 2, none⟩ (.slice none 0 0) := ⟨_, rfl⟩
    rw [← hWF] at r3
    have f0 : WF.cell? ⟨w.heap.size + 1, 0, none⟩ = some (.int .i64 0) := r3.cell (i := 0) (by omega)
    have f1 : WF.cell? ⟨w.heap.size + 1, 1, none⟩ = some (.slice none 0 0) := r3.cell (i := 1) (by omega)
    have f2 : WF.cell? ⟨w.heap.size + 1, 2, none⟩ = some (.slice none 0 0) := r3.cell (i := 2) (by omega)
    have HB : Hid (Below w.heap.size w WF) := Lib.hid (by
      rw [hWF]
      exact ((HX1.out.below.setCell (by show w.heap.size ≤ w.heap.size + 1; omega) _).setCell (by show w.heap.size ≤ w.heap.size + 1; omega) _).setCell (by show w.heap.size ≤ w.heap.size + 1; omega) _)
    have HWF := Lib.hid hWF
    clear hr hrow r1 r2 r3 hWF hb1 hbb
    go_wp2
    rw [← HWF.out]
    refine bodyPost_ret (v := .tuple #[.agg #[.int .i64 0, .slice none 0 0, .slice none 0 0], .int .i64 1]) ?_ rfl ?_
    · simp only [results, HRES.out]
      go_simp
    · refine ⟨_, (0, [], []), 1, rfl, RwC.nil _ _ _, HB.out, ?_⟩
      rw [HCODE.out]
      exact RsOut.of_no (by decide)
end Go.Proofs.Ytjkbfnkaaadlcaa
