/-
  append of a row to a row that the call gathers; spec.l05Blocks by its contract.
-/
import Derived.Test.YtpdkfidmmjlmnaaAz
import Derived.Test.YtpdkfidmmjlmnaaSmt
import Derived.Test.YtpdkfidmmjlmnaaBim
import Derived.Test.YtpdkfidmmjlmnaaSd
namespace Go.Proofs.Ytpdkfidmmjlmnaa
open Go.RowKit

theorem run_append_row {base : Nat} (w : World) (ty : TypeId) (v : Value) (xs : List Int) (hown : Gb base w v xs) (u : Value) (ys : List Int) (hy : L1 0 w u ys) (h63 : xs.length + ys.length ≤ 2097152) (hb : base ≤ w.heap.size) :
    ∃ v' w', (Builtin.append_ #[22, 22] ty #[v, u]).run Try.prog w = .ok v' w' ∧ Gb base w' v' (xs ++ ys) ∧ w.grownBy w' v.ownBlock := by
  obtain ⟨i, hi, hz, hs, hbt⟩ := info_parts Try.infoI
  rcases hy with ⟨rfl, ad, cap, rfl⟩ | ⟨b, o, cap, rfl, _, _, hc⟩
  · exact ⟨v, w, run_append_none' w _ _ _ i Try.underlying22 hi hown ad cap, by rw [List.append_nil]; exact hown, ⟨rfl, rfl, rfl, Nat.le_refl _, fun _ _ _ => rfl⟩⟩
  · obtain ⟨v', w', hr, h2, h3, _⟩ := run_append_own (P := Try.prog) w base 22 ty 2 i _ 1 8 Try.underlying22 hi hz hs hbt (by rfl) (by decide) v xs.length (xs.map (Value.int .i64)) hown ⟨b, o, none⟩ ys.length cap (ys.map (Value.int .i64)) (by simp)
      (fun j u hj => by
        have hj' : j < ys.length := by have := (List.getElem?_eq_some_iff.1 hj).1; simpa using this
        obtain ⟨u2, hu2, hr2⟩ := hc j hj'
        rw [Addr.add_mid, hu2, hr2]
        simp [hj'] at hj
        rw [← hj]) (fun u hu => by
        obtain ⟨y, _, rfl⟩ := List.mem_map.1 hu
        rfl) (by unfold maxLen; omega) (by omega) hb
    exact ⟨v', w', hr, by simpa [Gb] using h2, h3⟩
theorem sumT_take_a {a : List (List Int)} {l : Nat} {b : List (List Int)} {r k : Nat} (h : k < a.length) : (sumT a l b r).take (k + 1) = (sumT a l b r).take k ++ [a[k] ++ List.replicate r 0] := by
  rw [List.take_succ_eq_append_getElem (by rw [sumT_length]; omega)]
  congr 1
  unfold sumT
  rw [List.getElem_append_left (by simpa using h), List.getElem_map]
theorem sumT_take_b {a : List (List Int)} {l : Nat} {b : List (List Int)} {r k : Nat} (h : k < b.length) : (sumT a l b r).take (a.length + k + 1) = (sumT a l b r).take (a.length + k) ++ [List.replicate l 0 ++ b[k]] := by
  rw [List.take_succ_eq_append_getElem (by rw [sumT_length]; omega)]
  congr 1
  unfold sumT
  rw [List.getElem_append_right (by simp), List.getElem_map]
  simp
theorem madeI (w : World) (l : Nat) (hl : l ≤ 1048576) (base : Nat) (hb : base ≤ w.heap.size) : Gb base (w.alloc (.cells (madeCells #[.int .i64 0] l) 2)) (.slice (some ⟨w.heap.size, 0, none⟩) l l) (List.replicate l 0) := by
  have h := gb_row (base := base) (W := w.alloc (.cells (madeCells #[.int .i64 0] l) 2)) (xs := List.replicate l 0) (World.rowIs_made w (.int .i64 0) l 2) (by simp) (fun i hi => by simp) (by unfold maxLen; omega) hb
  exact h

end Go.Proofs.Ytpdkfidmmjlmnaa
