/-
  UnitComplex of both sides by contracts.
-/
import Derived.Test.YtpdkfidmmjlmnaaRc
import Derived.Test.YtpdkfidmmjlmnaaDual
import Derived.Test.YtpdkfidmmjlmnaaSrw
namespace Go.Proofs.Ytpdkfidmmjlmnaa
open Go.RowKit

/-- The unit complex. -/
def unitOut (p : Int) : Co := (p, [1], [])
open Classical in
noncomputable def unitCode (p : Int) : Int := if IsP p then 0 else 2
theorem unitCode_yes {p : Int} (h : IsP p) : unitCode p = 0 := if_pos h
theorem unitCode_no {p : Int} (h : ¬ IsP p) : unitCode p = 2 := if_neg h
theorem unit_bd (p : Int) : CoB (unitOut p) := ⟨by simp [unitOut], by simp [unitOut], by simp [unitOut]⟩
theorem one_row (w : World) : (w.alloc (.cells #[.int .i64 1] 2)).rowIs w.heap.size 2 1 (fun _ => .int .i64 1) :=
  ⟨#[.int .i64 1], heap_alloc_new w _, rfl, fun i hi => by
    obtain rfl : i = 0 := by omega
    rfl⟩
theorem unit_rc {W : World} {lo b : Nat} (h : W.rowIs b 2 1 (fun _ => .int .i64 1)) (hb : lo ≤ b) (p : Int) : RwC lo W.heap.size W (.agg #[.int .i64 p, .slice (some ⟨b, 0, none⟩) 1 1, .slice none 0 0]) (unitOut p) := by
  obtain ⟨q1, I, s1, n1, b1, z1⟩ := row_rc (xs := [1]) h rfl (fun i hi => by
    have hi : i < 1 := hi
    obtain rfl : i = 0 := by omega
    rfl) (by omega) hb
  refine ⟨some ⟨b, 0, none⟩, 1, none, 0, rfl, ?_⟩
  obtain ⟨e0, I2, J2, e1, e2, e3, e4, e5, e6, e7, e8⟩ := RcW.nil lo W.heap.size W
  exact ⟨⟨q1, e0.maps⟩, I, [], s1, ⟨none, 0, 0, fun _ => .slice none 0 0, fun _ => [], rfl, by omega, rfl, fun _ h => absurd h (Nat.not_lt_zero _), fun h => absurd h (Nat.lt_irrefl _)⟩, n1, fun _ h => absurd h (by simp), List.Pairwise.nil, fun _ _ _ h => absurd h (by simp), z1, by simp [ivSize]⟩

set_option maxHeartbeats 1600000 in
set_option maxRecDepth 100000 in
theorem unitComplex_any (p : Int) (w : World) : Calls Try.prog 137 #[.int .i64 p] w (AnsW RwC (fun o => o = unitOut p) (0, [], []) (unitCode p) w) := by
  have hres : Try.f137.results = #[.cell 2 28, .tmp 3] := by kernel_rfl
  have HRES := Lib.hid hres
  clear hres
  by_cases hp : IsP p
  · have HP := Lib.hid hp
    clear hp
    rw [unitCode_yes HP.out]
    go_enter Try.func137, Try.ntmps137
    go_wp2_with fail
    refine (prime_yes HP.out _).mono ?_
    rintro e w' ⟨rfl, rfl⟩
    go_wp2
    refine bodyPost_ret (v := .tuple #[.agg #[.int .i64 p, .slice (some ⟨w.heap.size + 1, 0, none⟩) 1 1, .slice none 0 0], .int .i64 0]) ?_ rfl ?_
    · simp only [results, HRES.out]
      go_simp
    · have h1 := one_row (w.alloc (.cells #[.int .i64 p, .slice (some ⟨w.heap.size + 1, 0, none⟩) 1 1, .slice none 0 0] 28))
      have hs : (w.alloc (.cells #[.int .i64 p, .slice (some ⟨w.heap.size + 1, 0, none⟩) 1 1, .slice none 0 0] 28)).heap.size = w.heap.size + 1 := by simp
      rw [hs] at h1
      exact ⟨_, unitOut p, 0, rfl, unit_rc h1 (by omega) p, (below_alloc1 _ _).trans ((below_alloc1 _ _).mono (by omega)), RsOut.of_yes rfl rfl⟩
  · have HP := Lib.hid hp
    clear hp
    rw [unitCode_no HP.out]
    go_enter Try.func137, Try.ntmps137
    go_wp2_with fail
    refine (prime_no HP.out _).mono ?_
    rintro e w' ⟨rfl, rfl⟩
    go_wp2
    refine bodyPost_ret (v := .tuple #[.agg #[.int .i64 0, .slice none 0 0, .slice none 0 0], .int .i64 2]) ?_ rfl ?_
    · simp only [results, HRES.out]
      go_simp
    · refine ⟨_, (0, [], []), 2, rfl, RwC.nil _ _ _, ?_, RsOut.of_no (by decide)⟩
      exact below_alloc1 _ _

set_option maxHeartbeats 1600000 in
set_option maxRecDepth 100000 in
theorem l06Unit_any (p : Int) (w : World) : Calls Try.prog 144 #[.int .i64 p] w (fun e w' => ∃ ad cd am cm, e = .returned (.agg #[.int .i64 p, .slice ad 1 cd, .slice am 0 cm]) ∧ CxW w.heap.size w'.heap.size w' (.slice ad 1 cd) (.slice am 0 cm) [1] [] ∧ Below w.heap.size w w') := by
  have hres : Try.f144.results = #[.cell 2 28] := by kernel_rfl
  have HRES := Lib.hid hres
  clear hres
  go_enter Try.func144, Try.ntmps144
  go_wp2
  refine bodyPost_ret (v := .agg #[.int .i64 p, .slice (some ⟨w.heap.size + 1, 0, none⟩) 1 1, .slice (some ⟨w.heap.size + 1 + 1, 0, none⟩) 0 0]) ?_ rfl ?_
  · simp only [results, HRES.out]
    go_simp
  · obtain ⟨W0, hW0⟩ : ∃ W0, W0 = w.alloc (.cells #[.int .i64 p, .slice (some ⟨w.heap.size + 1, 0, none⟩) 1 1, .slice (some ⟨w.heap.size + 1 + 1, 0, none⟩) 0 0] 28) := ⟨_, rfl⟩
    have hs : W0.heap.size = w.heap.size + 1 := by rw [hW0]; simp
    have hb0 : Below w.heap.size w W0 := by rw [hW0]; exact below_alloc1 _ _
    rw [← hW0]
    have h1 := one_row W0
    rw [hs] at h1
    have hb1 : Below (w.heap.size + 1) W0 (W0.alloc (.cells #[.int .i64 1] 2)) := by have := below_alloc1 W0 (.cells #[.int .i64 1] 2); rwa [hs] at this
    have hs1 : (W0.alloc (.cells #[.int .i64 1] 2)).heap.size = w.heap.size + 2 := by simp [hs]
    have hb2 := below_alloc1 (W0.alloc (.cells #[.int .i64 1] 2)) (.cells #[] 41)
    have hz2 : ((W0.alloc (.cells #[.int .i64 1] 2)).alloc (.cells #[] 41)).heap.size = w.heap.size + 3 := by simp [hs]
    refine ⟨_, _, _, _, rfl, ⟨Or.inr ⟨w.heap.size + 1, 0, 1, rfl, by omega, by omega, by simp, fun k hk => ⟨.int .i64 1, ?_, ?_⟩, fun k hk => ?_⟩, Or.inl ⟨rfl, _, _, rfl⟩⟩, hb0.trans ((hb1.trans (hb2.mono (by omega))).mono (by omega))⟩
    · have hk : k < 1 := hk
      obtain rfl : k = 0 := by omega
      have hc := h1.cell (i := 0) (by omega)
      exact (hb2.cell (p := ⟨w.heap.size + 1, 0, none⟩) (by show w.heap.size + 1 < _; omega)).trans hc
    · have hk : k < 1 := hk
      obtain rfl : k = 0 := by omega
      rfl
    · have hc := h1.frozen (0 + k)
      exact (hb2.frozen (p := ⟨w.heap.size + 1, 0 + k, none⟩) (by show w.heap.size + 1 < _; omega)).trans hc

end Go.Proofs.Ytpdkfidmmjlmnaa
