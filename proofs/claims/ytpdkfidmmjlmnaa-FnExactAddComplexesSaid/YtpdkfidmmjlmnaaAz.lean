/-
  append of zeros to a row that the call gathers.
-/
import Derived.Test.YtpdkfidmmjlmnaaGt
import Derived.Lib.AppendZerosOnto
namespace Go.Proofs.Ytpdkfidmmjlmnaa
open Go.RowKit

theorem run_append_zeros {base : Nat} (w : World) (ty : TypeId) (v : Value) (xs : List Int) (hown : Gb base w v xs) (kq : IntKind) (k : Nat) (h63 : xs.length + k ≤ 2097152) (hb : base ≤ w.heap.size) :
    ∃ v' w', (Builtin.append_ #[22, 2] ty #[v, .int kq (k : Int)]).run Try.prog w = .ok v' w' ∧ Gb base w' v' (xs ++ List.replicate k 0) ∧ w.grownBy w' v.ownBlock := by
  obtain ⟨i, hi, hz, hs, hbt⟩ := info_parts Try.infoI
  have ht := Try.underlying22
  have htn := Try.underlying2
  have hw : IntKind.i64.wrap (k : Int) = k := IntWalk.i64_in _ (by omega)
  have hneg : ¬ ((k : Int) < 0) := by omega
  have h48i : ¬ (281474976710656 < (k : Int) * 8) := by omega
  have hzc : (Builtin.zeroCells (Value.int .i64 0).cells k) = (List.replicate k (Value.int .i64 0)).toArray := by
    refine Array.ext (by simp [Builtin.zeroCells, Value.cells]) fun j h1 h2 => ?_
    simp [Builtin.zeroCells, Value.cells, Nat.mod_one]
  have hw0 : IntKind.i64.wrap 0 = 0 := by decide
  have hown' := hown
  obtain ⟨hl, h2⟩ := hown'
  by_cases hk : k = 0
  · subst hk
    refine ⟨v, w, ?_, by simpa using hown, ⟨rfl, rfl, rfl, Nat.le_refl _, fun _ _ _ => rfl⟩⟩
    rcases h2 with ⟨rfl, h0⟩ | ⟨g, cap, cur, rfl, hbg, hg, hnc, hcm, hcs, htake⟩
    · simp [Builtin.append_, run_underlying ht, run_underlying htn, sizeOf, typeInfo, hi, hbt, asInt, asIntOf, hw0, Builtin.firstCells]
    · simp [Builtin.append_, run_underlying ht, run_underlying htn, sizeOf, typeInfo, hi, hbt, asInt, asIntOf, hw0, hnc, storeCells]
  · rcases h2 with ⟨rfl, h0⟩ | ⟨g, cap, cur, rfl, hbg, hg, hnc, hcm, hcs, htake⟩
    · have hx : xs = [] := List.eq_nil_of_length_eq_zero h0
      subst hx
      have hr := Lib.run_append_nil_zeros (P := Try.prog) w 22 2 ty 2 i _ kq .i64 ht htn hi hz k (by omega) (by omega) (by omega) (by rw [hbt]; omega)
      refine ⟨_, _, hr, ⟨by simp, Or.inr ⟨w.heap.size, _, _, by simp, hb, heap_alloc_new w.drew _, ?_, grownCap_le_maxLen w k 0 2 (by unfold maxLen; simp at h63; omega), ?_, ?_⟩⟩, ⟨rfl, rfl, rfl, by simp, fun j hj _ => heap_alloc_old w.drew _ hj⟩⟩
      · have := grownCap_ge w k 0 2
        simp
        omega
      · have := grownCap_ge w k 0 2
        simp [Builtin.zeroCells, Value.cells]
        omega
      · rw [hzc]
        simp
    · by_cases hroom : xs.length + k ≤ cap
      · have hst := run_storeCells_at Try.prog g xs.length 2 (List.replicate k (Value.int .i64 0)) 0 cur w hg (by simp; omega) (fun u hu => by rw [(List.mem_replicate.1 hu).2]; rfl)
        simp only [Nat.add_zero] at hst
        refine ⟨.slice (some ⟨g, 0, none⟩) (xs.length + k) cap, w.setRow g (cur.toList.take xs.length ++ List.replicate k (Value.int .i64 0) ++ cur.toList.drop (xs.length + (List.replicate k (Value.int .i64 0)).length)).toArray, ?_, ⟨by simp, Or.inr ⟨g, cap, _, by simp, hbg, setRow_heap w g cur _ _ _ hg, by simpa using hroom, hcm, ?_, ?_⟩⟩, ⟨rfl, rfl, rfl, by simp, fun j _ hj => setRow_other w g j _ (fun e => hj (by simp [Value.ownBlock, e]))⟩⟩
        · have hcw : (xs.length : Int) + (k : Int) ≤ (cap : Int) := by omega
          simp [Builtin.append_, run_underlying ht, run_underlying htn, sizeOf, typeInfo, zeroValue, hi, hz, hs, hbt, asInt, asIntOf, hw, hneg, h48i, hroom, hk, hzc, Addr.add_lit, hst]
        · simp
          simp at hcs
          omega
        · simp only [Nat.mul_one] at htake ⊢
          rw [htake, List.map_append, List.map_replicate]
          exact List.take_left' (by simp)
      · have holds : ∀ j u, (xs.map (Value.int .i64))[j]? = some u → w.cell? ((⟨g, 0, none⟩ : Addr).add j) = some u := hown.cells (g := g) rfl
        have hfc := run_firstCells_some (P := Try.prog) w.drew i.size xs.length ⟨g, 0, none⟩ xs.length cap (xs.map (Value.int .i64)) (by simp [hs]) holds
        have hr := Lib.run_append_grow_zeros (P := Try.prog) w 22 2 ty 2 i _ kq .i64 ht htn hi hz (some ⟨g, 0, none⟩) xs.length cap (xs.map (Value.int .i64)) hfc k (by omega) (by omega) (by omega) (by omega) (by rw [hbt]; omega) (growslice_fits (by omega) (by rw [hbt]; omega))
        refine ⟨_, _, hr, ⟨by simp, Or.inr ⟨w.heap.size, _, _, by simp, hb, heap_alloc_new w.drew _, ?_, grownCap_le_maxLen w (xs.length + k) cap 2 (by unfold maxLen; omega), ?_, ?_⟩⟩, ⟨rfl, rfl, rfl, by simp, fun j hj _ => heap_alloc_old w.drew _ hj⟩⟩
        · have := grownCap_ge w (xs.length + k) cap 2
          simp
          omega
        · have := grownCap_ge w (xs.length + k) cap 2
          simp [Builtin.zeroCells, Value.cells]
          omega
        · rw [hzc]
          simp [List.take_append]
          exact List.take_of_length_le (by simp)
end Go.Proofs.Ytpdkfidmmjlmnaa
