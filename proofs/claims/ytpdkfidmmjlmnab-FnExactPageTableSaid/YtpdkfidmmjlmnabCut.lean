/-
  impl.cutRows: rows that are parts of one block.
-/
import Derived.Test.YtpdkfidmmjlmnabRw
import Derived.Test.YtpdkfidmmjlmnabQe
namespace Go.Proofs.Ytpdkfidmmjlmnab
open Go.RowKit

/-- A block of numbers, cut into rows of six. -/
def cutZ (n : Nat) (Z : Nat → Int) : List (List Int) := tableOf n 6 (fun k q => Z (k * 6 + q))
/-- n rows of a table's top laid, each a part of the block b. -/
structure CutTo (w wr : World) (b n k : Nat) : Prop where
  below : Below w.heap.size w wr
  top : wr.rowIs w.heap.size 22 n (fun j => if j < k then .slice (some ⟨b, j * 6, none⟩) 6 6 else .slice none 0 0)
theorem CutTo.step {w wr : World} {b n k : Nat} (h : CutTo w wr b n k) : CutTo w (wr.setCell ⟨w.heap.size, k, none⟩ (.slice (some ⟨b, k * 6, none⟩) 6 6)) b n (k + 1) := by
  refine ⟨h.below.setCell (Nat.le_refl _) _, (h.top.set k _).congr (fun j hj => ?_)⟩
  by_cases e : j = k
  · subst e
    rw [if_pos rfl, if_pos (by omega)]
  · rw [if_neg e]
    by_cases h2 : j < k
    · rw [if_pos h2, if_pos (by omega)]
    · rw [if_neg h2, if_neg (by omega)]
theorem CutTo.rw2 {w wr : World} {b n lo : Nat} {Z : Nat → Int} (h : CutTo w wr b n n) (hn : n ≤ 1048576) (hlo : lo ≤ b) (hb : b < w.heap.size) (hl : lo ≤ w.heap.size) (hz : ∀ i, i < n * 6 → w.cell? ⟨b, i, none⟩ = some (.int .i64 (Z i)) ∧ w.frozen? ⟨b, i, none⟩ = false) :
    Rw2 lo wr.heap.size wr (.slice (some ⟨w.heap.size, 0, none⟩) n n) (cutZ n Z) := by
  have hlt := h.top.lt
  have hz' : ∀ i, i < n * 6 → wr.cell? ⟨b, i, none⟩ = some (.int .i64 (Z i)) ∧ wr.frozen? ⟨b, i, none⟩ = false := fun i hi => ⟨(h.below.cell (p := ⟨b, i, none⟩) hb).trans (hz i hi).1, (h.below.frozen (p := ⟨b, i, none⟩) hb).trans (hz i hi).2⟩
  have hbr : b < wr.heap.size := by have := h.below.size; omega
  refine ⟨?_, ?_⟩
  · by_cases h0 : n = 0
    · subst h0
      exact Or.inl ⟨rfl, _, _, rfl⟩
    · refine Or.inr ⟨w.heap.size, 0, n, by simp [cutZ, tableOf], hl, hlt, by simp [cutZ, tableOf]; omega, fun k hk => ?_, fun k _ => h.top.frozen _⟩
      have hk' : k < n := by simpa [cutZ, tableOf] using hk
      refine ⟨.slice (some ⟨b, k * 6, none⟩) 6 6, by rw [Nat.zero_add, h.top.cell hk', if_pos hk'], ?_⟩
      simp only [cutZ, tableOf, List.getElem_map, List.getElem_range]
      refine Or.inr ⟨b, k * 6, 6, by simp, hlo, hbr, by simp, fun i hi => ?_, fun i hi => ?_⟩
      · have hi' : i < 6 := by simpa using hi
        exact ⟨_, (hz' (k * 6 + i) (by omega)).1, by simp only [IsI, List.getElem_map, List.getElem_range]⟩
      · have hi' : i < 6 := by simpa using hi
        exact (hz' (k * 6 + i) (by omega)).2
  · refine ⟨flat (fun j => [(b, j * 6, 6)]) n, ⟨some ⟨w.heap.size, 0, none⟩, n, n, fun j => .slice (some ⟨b, j * 6, none⟩) 6 6, fun j => [(b, j * 6, 6)], rfl, hn, rfl, fun j _ => Or.inr ⟨b, j * 6, 6, 6, rfl, by omega, by omega, hlo, hbr, rfl⟩, fun _ => ⟨w.heap.size, 0, rfl, hl, hlt, fun j hj => by rw [Nat.zero_add, h.top.cell hj, if_pos hj]⟩⟩, nums_flat (fun j hj x hx => ?_), ?_, ?_⟩
    · obtain rfl : x = (b, j * 6, 6) := by simpa using hx
      exact ⟨hlo, hbr, fun i hi => by
        have hi' : i < 6 := hi
        exact ⟨⟨_, (hz' (j * 6 + i) (by omega)).1⟩, (hz' (j * 6 + i) (by omega)).2⟩⟩
    · clear hz hz' h hlt hn hl hbr
      induction n with
      | zero => exact List.Pairwise.nil
      | succ n ih =>
        rw [flat_succ]
        refine List.pairwise_append.2 ⟨ih, List.pairwise_singleton _ _, fun x hx y hy => Or.inr (Or.inl ?_)⟩
        obtain rfl : y = (b, n * 6, 6) := by simpa using hy
        obtain ⟨j, hj, hx⟩ := List.mem_flatMap.1 hx
        obtain rfl : x = (b, j * 6, 6) := by simpa using hx
        have := List.mem_range.1 hj
        show j * 6 + 6 ≤ n * 6
        omega
    · have := size_spans (J := fun j => [(b, j * 6, 6)]) (n := n) (B := 6) (fun j _ => by simp [ivSize])
      omega

def CutR (lo n : Nat) (Z : Nat → Int) (w : World) (e : Ending) (w' : World) : Prop := ∃ u, e = .returned u ∧ Rw2 lo w'.heap.size w' u (cutZ n Z) ∧ Below w.heap.size w w'
set_option maxHeartbeats 800000 in
theorem cutRows_any (b n lo : Nat) (Z : Nat → Int) (w : World) (hn : n ≤ 6) (hlo : lo ≤ b) (hb : b < w.heap.size) (hl : lo ≤ w.heap.size) (hz : ∀ i, i < n * 6 → w.cell? ⟨b, i, none⟩ = some (.int .i64 (Z i)) ∧ w.frozen? ⟨b, i, none⟩ = false) :
    Calls Try.prog 163 #[.slice (some ⟨b, 0, none⟩) 36 36, .int .i64 n, .int .i64 6] w (CutR lo n Z w) := by
  have hmk := run_make_row' (P := Try.prog) 26 22 (.slice none 0 0) 24 Try.underlying26 Try.infoS rfl .i64 .i64 n (by omega) (by omega)
  have HZ := Lib.hid hz
  clear hz
  go_enter Try.func163, Try.ntmps163
  go_wp2
  clear hmk
  go_loopw [8, 9, 10, 14] (fun _ _ _ i wr => ∃ (k : Nat), k ≤ n ∧ i = .int .i64 k ∧ Hid (CutTo w wr b n k)) (fun _ _ _ i _ => n - (intOf i).toNat)
  case atStart => exact ⟨0, Nat.zero_le _, rfl, Lib.hid ⟨below_alloc1 _ _, (World.rowIs_made w (.slice none 0 0) n 22).congr (fun j _ => by simp)⟩⟩
  case round =>
    obtain ⟨k, hk, rfl, HC⟩ := hrel
    by_cases hlt : k < n
    · have hkl : (k : Int) < (n : Int) := by omega
      have h0 : wr.cell? ⟨w.heap.size, k, none⟩ = some (.slice none 0 0) := by rw [HC.out.top.cell hlt, if_neg (Nat.lt_irrefl _)]
      have hf := HC.out.top.frozen k
      have w1 : IntKind.i64.wrap ((k : Int) * 6) = ((k * 6 : Nat) : Int) := by rw [show (k : Int) * 6 = ((k * 6 : Nat) : Int) by omega]; exact IntWalk.i64_in _ (by omega)
      have w2 : IntKind.i64.wrap ((k : Int) + 1) = ((k + 1 : Nat) : Int) := by rw [show (k : Int) + 1 = ((k + 1 : Nat) : Int) by omega]; exact IntWalk.i64_in _ (by omega)
      have w3 : IntKind.i64.wrap (((k + 1 : Nat) : Int) * 6) = ((k * 6 + 6 : Nat) : Int) := by rw [show ((k + 1 : Nat) : Int) * 6 = ((k * 6 + 6 : Nat) : Int) by omega]; exact IntWalk.i64_in _ (by omega)
      have HS := Lib.hid HC.out.step
      clear HC
      go_wp2
      rw [show (k + 1) * 6 - k * 6 = 6 by omega]
      exact ⟨⟨k + 1, by omega, by go_num, HS⟩, by simp [intOf]; omega⟩
    · have hkn : ¬ (k : Int) < (n : Int) := by omega
      obtain rfl : k = n := by omega
      go_wp2
      go_ret
      exact ⟨_, rfl, HC.out.rw2 (by omega) hlo hb hl HZ.out, HC.out.below⟩
end Go.Proofs.Ytpdkfidmmjlmnab
