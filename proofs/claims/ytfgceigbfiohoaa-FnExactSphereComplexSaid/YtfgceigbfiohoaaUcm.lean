/-
  UnitComplex of both sides by contracts.
-/
import Derived.Test.YtfgceigbfiohoaaRc
import Derived.Test.YtfgceigbfiohoaaDual
import Derived.Test.YtfgceigbfiohoaaSrw
namespace Go.Proofs.Ytfgceigbfiohoaa
open Go.RowKit

/-- The unit complex. -/
def unitOut (p : Int) : Co := (p, [1], [])
open Classical in
noncomputable def unitCode (p : Int) : Int := if IsP p then 0 else 2
theorem unitCode_yes {p : Int} (h : IsP p) : unitCode p = 0 := if_pos h
theorem unitCode_no {p : Int} (h : ¬ IsP p) : unitCode p = 2 := if_neg h
theorem unit_bd (p : Int) : CoB (unitOut p) := ⟨by simp [unitOut], by simp [unitOut], by simp [unitOut]⟩
theorem one_row (w : World) : (w.alloc (.cells #[.int .i64 1] 2)).rowIs w.heap.size 2 1 (fun _ => .int .i64 1) :=
  ⟨#[.int .i64 1], heap_alloc_new w _, rfl, fun i hi => by
    obtain rfl : i = 0 := by omega
    rfl⟩
theorem unit_rc {W : World} {lo b : Nat} (h : W.rowIs b 2 1 (fun _ => .int .i64 1)) (hb : lo ≤ b) (p : Int) : RwC lo W.heap.size W (.agg #[.int .i64 p, .slice (some ⟨b, 0, none⟩) 1 1, .slice none 0 0]) (unitOut p) := by
  obtain ⟨q1, I, s1, n1, b1, z1⟩ := row_rc (xs := [1]) h rfl (fun i hi => by
    have hi : i < 1 := hi
    obtain rfl : i = 0 := by omega
    rfl) (by omega) hb
  refine ⟨some ⟨b, 0, none⟩, 1, none, 0, rfl, ?_⟩
  obtain ⟨e0, I2, J2, e1, e2, e3, e4, e5, e6, e7, e8⟩ := RcW.nil lo W.heap.size W
  exact ⟨⟨q1, e0.maps⟩, I, [], s1, ⟨none, 0, 0, fun _ => .slice none 0 0, fun _ => [], rfl, by omega, rfl, fun _ h => absurd h (Nat.not_lt_zero _), fun h => absurd h (Nat.lt_irrefl _)⟩, n1, fun _ h => absurd h (by simp), List.Pairwise.nil, fun _ _ _ h => absurd h (by simp), z1, by simp [ivSize]⟩

set_option maxHeartbeats 1600000 in
set_option maxRecDepth 100000 in
theorem unitComplex_any (p : Int) (w : World) : Calls Try.prog 16 #[.int .i64 p] w (AnsW RwC (fun o => o = unitOut p) (0, [], []) (unitCode p) w) := by
  have hres : Try.f16.results = #[.cell 2 25, .tmp 3] := by kernel_rfl
  have HRES := Lib.hid hres
  clear hres
  by_cases hp : IsP p
  · have HP := Lib.hid hp
    clear hp
    rw [unitCode_yes HP.out]
    go_enter Try.func16, Try.ntmps16
    go_wp2_with fail
    refine (prime_yes HP.out _).mono ?_
    rintro e w' ⟨rfl, rfl⟩
    go_wp2
    refine bodyPost_ret (v := .tuple #[.agg #[.int .i64 p, .slice (some ⟨w.heap.size + 1, 0, none⟩) 1 1, .slice none 0 0], .int .i64 0]) ?_ rfl ?_
    · simp only [results, HRES.out]
      go_simp
    · have h1 := one_row (w.alloc (.cells #[.int .i64 p, .slice (some ⟨w.heap.size + 1, 0, none⟩) 1 1, .slice none 0 0] 25))
      have hs : (w.alloc (.cells #[.int .i64 p, .slice (some ⟨w.heap.size + 1, 0, none⟩) 1 1, .slice none 0 0] 25)).heap.size = w.heap.size + 1 := by simp
      rw [hs] at h1
      exact ⟨_, unitOut p, 0, rfl, unit_rc h1 (by omega) p, (below_alloc1 _ _).trans ((below_alloc1 _ _).mono (by omega)), RsOut.of_yes rfl rfl⟩
  · have HP := Lib.hid hp
    clear hp
    rw [unitCode_no HP.out]
    go_enter Try.func16, Try.ntmps16
    go_wp2_with fail
    refine (prime_no HP.out _).mono ?_
    rintro e w' ⟨rfl, rfl⟩
    go_wp2
    refine bodyPost_ret (v := .tuple #[.agg #[.int .i64 0, .slice none 0 0, .slice none 0 0], .int .i64 2]) ?_ rfl ?_
    · simp only [results, HRES.out]
      go_simp
    · refine ⟨_, (0, [], []), 2, rfl, RwC.nil _ _ _, ?_, RsOut.of_no (by decide)⟩
      exact below_alloc1 _ _

set_option maxHeartbeats 1600000 in
set_option maxRecDepth 100000 in
theorem l06Unit_any (p : Int) (w : World) : Calls Try.prog 61 #[.int .i64 p] w (fun e w' => ∃ ad cd am cm, e = .returned (.agg #[.int .i64 p, .slice ad 1 cd, .slice am 0 cm]) ∧ CxW w.heap.size w'.heap.size w' (.slice ad 1 cd) (.slice am 0 cm) [1] [] ∧ Below w.heap.size w w') := by
  have hres : Try.f61.results = #[.cell 2 25] := by kernel_rfl
  have HRES := Lib.hid hres
  clear hres
  go_enter Try.func61, Try.ntmps61
  go_wp2
  refine bodyPost_ret (v := .agg #[.int .i64 p, .slice (some ⟨w.heap.size + 1, 0, none⟩) 1 1, .slice (some ⟨w.heap.size + 1 + 1, 0, none⟩) 0 0]) ?_ rfl ?_
  · simp only [results, HRES.out]
    go_simp
  · obtain ⟨W0, hW0⟩ : ∃ W0, W0 = w.alloc (.cells #[.int .i64 p, .slice (some ⟨w.heap.size + 1, 0, none⟩) 1 1, .slice (some ⟨w.heap.size + 1 + 1, 0, none⟩) 0 0] 25) := ⟨_, rfl⟩
    have hs : W0.heap.size = w.heap.size + 1 := by rw [hW0]; simp
    have hb0 : Below w.heap.size w W0 := by rw [hW0]; exact below_alloc1 _ _
    rw [← hW0]
    have h1 := one_row W0
    rw [hs] at h1
    have hb1 : Below (w.heap.size + 1) W0 (W0.alloc (.cells #[.int .i64 1] 2)) := by have := below_alloc1 W0 (.cells #[.int .i64 1] 2); rwa [hs] at this
    have hs1 : (W0.alloc (.cells #[.int .i64 1] 2)).heap.size = w.heap.size + 2 := by simp [hs]
    have hb2 := below_alloc1 (W0.alloc (.cells #[.int .i64 1] 2)) (.cells #[] 46)
    have hz2 : ((W0.alloc (.cells #[.int .i64 1] 2)).alloc (.cells #[] 46)).heap.size = w.heap.size + 3 := by simp [hs]
    refine ⟨_, _, _, _, rfl, ⟨Or.inr ⟨w.heap.size + 1, 0, 1, rfl, by omega, by omega, by simp, fun k hk => ⟨.int .i64 1, ?_, ?_⟩, fun k hk => ?_⟩, Or.inl ⟨rfl, _, _, rfl⟩⟩, hb0.trans ((hb1.trans (hb2.mono (by omega))).mono (by omega))⟩
    · have hk : k < 1 := hk
      obtain rfl : k = 0 := by omega
      have hc := h1.cell (i := 0) (by omega)
      exact (hb2.cell (p := ⟨w.heap.size + 1, 0, none⟩) (by show w.heap.size + 1 < _; omega)).trans hc
    · have hk : k < 1 := hk
      obtain rfl : k = 0 := by omega
      rfl
    · have hc := h1.frozen (0 + k)
      exact (hb2.frozen (p := ⟨w.heap.size + 1, 0 + k, none⟩) (by show w.heap.size + 1 < _; omega)).trans hc

set_option maxHeartbeats 1600000 in
set_option maxRecDepth 100000 in
theorem spUnitComplex_any (p : Int) (w : World) : Calls Try.prog 15 #[.int .i64 p] w (AnsS RsC (fun o => o = unitOut p) (0, [], []) (unitCode p) w) := by
  have hres : Try.f15.results = #[.cell 2 25, .tmp 3] := by kernel_rfl
  have HRES := Lib.hid hres
  clear hres
  by_cases hp : IsP p
  · have HP := Lib.hid hp
    clear hp
    rw [unitCode_yes HP.out]
    go_enter Try.func15, Try.ntmps15
    go_wp2_with fail
    refine (spprime_yes HP.out _).mono ?_
    rintro e w' ⟨rfl, rfl⟩
    obtain ⟨w1, hw1⟩ : ∃ w1, w1 = w.alloc (.cells #[.int .i64 0, .slice none 0 0, .slice none 0 0] 25) := ⟨_, rfl⟩
    have HR0 : Hid (Rz w1 w.heap.size 25 #[.int .i64 0, .slice none 0 0, .slice none 0 0]) := Lib.hid (by rw [hw1]; exact Rz.new _ _ _)
    have HB1 : Hid (Below w.heap.size w w1) := Lib.hid (by rw [hw1]; exact below_alloc1 _ _)
    have hs1 : w.heap.size + 1 = w1.heap.size := by rw [hw1]; simp
    rw [← hw1]
    clear hw1
    go_wp2_with fail
    refine (l06Unit_any p _).mono ?_
    rintro e w2 ⟨ad, cd, am, cm, rfl, hc, hb⟩
    have HR2 := Lib.hid (HR0.out.next hb)
    have HC := Lib.hid hc
    have HB2 := Lib.hid (HB1.out.trans (hb.mono (by omega)))
    have hs2 : w1.heap.size ≤ w2.heap.size := hb.size
    clear hc hb
    have HR1 : ∃ x0 x1 x2, w2.heap[w.heap.size]? = some (.cells #[x0, x1, x2] 25) := ⟨_, _, _, HR2.out⟩
    obtain ⟨x0, x1, x2, hr⟩ := HR1
    have r0 : w2.rowIs (w.heap.size) 25 3 (sel3 x0 x1 x2) := rowIs3 hr
    have q0 : w2.cell? ⟨w.heap.size, 0, none⟩ = some x0 := r0.cell (i := 0) (by omega)
    have z0 : w2.frozen? ⟨w.heap.size, 0, none⟩ = false := r0.frozen 0
    have r1 := r0.set 0 (.int .i64 p)
    have q1 : (w2.setCell ⟨w.heap.size, 0, none⟩ (.int .i64 p)).cell? ⟨w.heap.size, 1, none⟩ = some x1 := r1.cell (i := 1) (by omega)
    have z1 : (w2.setCell ⟨w.heap.size, 0, none⟩ (.int .i64 p)).frozen? ⟨w.heap.size, 1, none⟩ = false := r1.frozen 1
    have r2 := r1.set 1 (.slice ad 1 cd)
    have q2 : ((w2.setCell ⟨w.heap.size, 0, none⟩ (.int .i64 p)).setCell ⟨w.heap.size, 1, none⟩ (.slice ad 1 cd)).cell? ⟨w.heap.size, 2, none⟩ = some x2 := r2.cell (i := 2) (by omega)
    have z2 : ((w2.setCell ⟨w.heap.size, 0, none⟩ (.int .i64 p)).setCell ⟨w.heap.size, 1, none⟩ (.slice ad 1 cd)).frozen? ⟨w.heap.size, 2, none⟩ = false := r2.frozen 2
    have r3 := r2.set 2 (.slice am 0 cm)
    obtain ⟨WF, hWF⟩ : ∃ W : World, W = (((w2.setCell ⟨w.heap.size, 0, none⟩ (.int .i64 p)).setCell ⟨w.heap.size, 1, none⟩ (.slice ad 1 cd)).setCell ⟨w.heap.size, 2, none⟩ (.slice am 0 cm)) := ⟨_, rfl⟩
    have hbWF : ∀ B (w0 : World), B ≤ w.heap.size → Below B w0 w2 → Below B w0 WF := fun B w0 hl hb => by rw [hWF]; exact (((hb.setCell (by show B ≤ w.heap.size; exact hl) _).setCell (by show B ≤ w.heap.size; exact hl) _).setCell (by show B ≤ w.heap.size; exact hl) _)
    have hsWF : ∀ lo hi, w.heap.size < lo ∨ hi ≤ w.heap.size → Same lo hi w2 WF := fun lo hi hl => by rw [hWF]; exact (((Same.set _ hl).trans (Same.set _ hl)).trans (Same.set _ hl))
    have hzWF : WF.heap.size = w2.heap.size := by rw [hWF]; simp
    rw [← hWF] at r3
    have f0 : WF.cell? ⟨w.heap.size, 0, none⟩ = some (.int .i64 p) := r3.cell (i := 0) (by omega)
    have f1 : WF.cell? ⟨w.heap.size, 1, none⟩ = some (.slice ad 1 cd) := r3.cell (i := 1) (by omega)
    have f2 : WF.cell? ⟨w.heap.size, 2, none⟩ = some (.slice am 0 cm) := r3.cell (i := 2) (by omega)
    have HWWF := Lib.hid hWF
    clear hr r0 r1 r2 r3 hWF
    have HBF := Lib.hid (hbWF w.heap.size w (Nat.le_refl _) HB2.out)
    have HCF := Lib.hid ((HC.out.same (hsWF _ _ (Or.inl (by omega)))).cx.lower (Nat.zero_le _))
    clear hbWF hsWF hzWF
    go_wp2
    rw [← HWWF.out]
    refine bodyPost_ret (v := .tuple #[.agg #[.int .i64 p, .slice ad 1 cd, .slice am 0 cm], .int .i64 0]) ?_ rfl ?_
    · simp only [results, HRES.out]
      go_simp
    · exact ⟨_, unitOut p, 0, rfl, ⟨ad, cd, am, cm, rfl, HCF.out⟩, HBF.out, RsOut.of_yes rfl rfl⟩
  · have HP := Lib.hid hp
    clear hp
    rw [unitCode_no HP.out]
    go_enter Try.func15, Try.ntmps15
    go_wp2_with fail
    refine (spprime_no HP.out _).mono ?_
    rintro e w' ⟨rfl, rfl⟩
    go_wp2
    refine bodyPost_ret (v := .tuple #[.agg #[.int .i64 0, .slice none 0 0, .slice none 0 0], .int .i64 2]) ?_ rfl ?_
    · simp only [results, HRES.out]
      go_simp
    · exact ⟨_, (0, [], []), 2, rfl, RsC.nil _, below_alloc1 _ _, RsOut.of_no (by decide)⟩
end Go.Proofs.Ytfgceigbfiohoaa
