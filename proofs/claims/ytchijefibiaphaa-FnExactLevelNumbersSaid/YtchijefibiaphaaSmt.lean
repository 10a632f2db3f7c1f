/-
  Rows copied into the rows of a table; impl.sumTable by its contract.
-/
import Derived.Test.YtchijefibiaphaaRw
import Derived.Test.YtchijefibiaphaaQe
import Derived.Test.YtchijefibiaphaaP1
import Derived.Deep.RegionHeld3
namespace Go.Proofs.Ytchijefibiaphaa
open Go.RowKit

/-- copy of a row that reads as x into a row of a table that a call has made, from place q on. -/
theorem copy_into {w0 w : World} {r c : Nat} {Z : Nat → Nat → Int} (h : Mat w0 w r c Z) {j q : Nat} (hj : j < r) (dl dc : Nat) (sa : Option Addr) (sc : Nat) (x : List Int) (hx : L1 0 w (.slice sa x.length sc) x) (hq : q + x.length ≤ c) (hd : x.length ≤ dl) :
    ∃ W, (∀ ty, (Builtin.copy_ #[22, 22] ty #[.slice (some ⟨w0.heap.size + 1 + j, q, none⟩) dl dc, .slice sa x.length sc]).run Try.prog w = .ok (goInt x.length) W) ∧ W.heap.size = w.heap.size ∧
      Mat w0 W r c (fun j2 i2 => if j2 = j ∧ q ≤ i2 ∧ i2 < q + x.length then x.getD (i2 - q) 0 else Z j2 i2) := by
  rcases hx with ⟨rfl, ad, cap, hv⟩ | ⟨b, o, cap, hv, _, hpos, hcl⟩
  · refine ⟨w, fun ty => ?_, rfl, h.congr (fun j2 _ i2 _ => by rw [if_neg (by rintro ⟨_, h1, h2⟩; simp at h2; omega)])⟩
    clear hv
    obtain ⟨i, hi, _⟩ := info_parts Try.infoI
    cases sa with
    | none => simp [Builtin.copy_, run_underlying Try.underlying22, Builtin.lenOf, Builtin.firstCells, sizeOf, typeInfo, hi, storeCells]
    | some a => simp [Builtin.copy_, run_underlying Try.underlying22, Builtin.lenOf, Builtin.firstCells, sizeOf, typeInfo, hi, storeCells, loadCells, loadCellsFrom]
  · injection hv with e1 e2 e3
    subst e1 e3
    obtain ⟨cur, hcur, hcs, hget⟩ := h.rows j hj
    have hlen : (x.map (Value.int .i64)).length = x.length := List.length_map ..
    refine ⟨w.setRow (w0.heap.size + 1 + j) (cur.toList.take q ++ x.map (Value.int .i64) ++ cur.toList.drop (q + x.length)).toArray, fun ty => ?_, by simp, ?_⟩
    · have hh := run_copy_row (P := Try.prog) w 22 22 ty 2 (w0.heap.size + 1 + j) q dl dc ⟨b, o, none⟩ x.length sc cur 2 (x.map (Value.int .i64)) Try.underlying22 Try.infoI1 hcur
        (by rw [hlen]; simp only [Nat.min_def]; split <;> omega) (fun k u hk => by
        have hk' : k < x.length := by rw [← hlen]; exact (List.getElem?_eq_some_iff.1 hk).1
        obtain ⟨u2, hu2, hr2⟩ := hcl k hk'
        rw [Addr.add_mid, hu2, hr2]
        simp [hk'] at hk
        rw [← hk]) (by rw [hlen]; omega) (fun u hu => by
        obtain ⟨y, _, rfl⟩ := List.mem_map.1 hu
        rfl)
      rw [hlen] at hh
      exact hh
    · refine ⟨below_setRow h.below (by omega) _, by simp [h.size], h.top.of_block (setRow_other _ _ _ _ (by omega)), fun j2 hj2 => ?_⟩
      by_cases e : j2 = j
      · subst e
        have hcl2 : cur.toList.length = c := by simpa using hcs
        refine ⟨_, setRow_heap _ _ _ _ _ _ hcur, by simp [hcs]; omega, fun i hi => ?_⟩
        show _ = some (Value.int .i64 (if j2 = j2 ∧ q ≤ i ∧ i < q + x.length then x.getD (i - q) 0 else Z j2 i))
        have hgi : cur[i]? = some (Value.int .i64 (Z j2 i)) := hget i hi
        rw [List.getElem?_toArray, List.append_assoc]
        by_cases h1 : i < q
        · rw [List.getElem?_append_left (by rw [List.length_take]; omega), List.getElem?_take_of_lt h1, if_neg (by omega)]
          rw [← Array.getElem?_toList] at hgi
          exact hgi
        · rw [List.getElem?_append_right (by rw [List.length_take]; omega), List.length_take, Nat.min_eq_left (by omega)]
          by_cases h2 : i < q + x.length
          · rw [List.getElem?_append_left (by rw [hlen]; omega), if_pos ⟨rfl, by omega, h2⟩]
            have h3 : i - q < x.length := by omega
            simp [h3, List.getD]
          · rw [List.getElem?_append_right (by rw [hlen]; omega), hlen, if_neg (by omega), List.getElem?_drop, show q + x.length + (i - q - x.length) = i by omega]
            rw [← Array.getElem?_toList] at hgi
            exact hgi
      · exact ((h.rows j2 hj2).of_block (setRow_other _ _ _ _ (by omega))).congr (fun i _ => by rw [if_neg (fun hh => e hh.1)])

/-- Two tables side by side and behind one another. -/
def sumT (a : List (List Int)) (l : Nat) (b : List (List Int)) (r : Nat) : List (List Int) := a.map (fun x => x ++ List.replicate r 0) ++ b.map (fun x => List.replicate l 0 ++ x)
def smZ (a : List (List Int)) (l : Nat) (b : List (List Int)) (k1 k2 : Nat) (j i : Nat) : Int :=
  if j < a.length then (if j < k1 ∧ i < l then (a.getD j []).getD i 0 else 0) else (if j < a.length + k2 ∧ l ≤ i then (b.getD (j - a.length) []).getD (i - l) 0 else 0)
theorem smZ_0 (a : List (List Int)) (l : Nat) (b : List (List Int)) : smZ a l b 0 0 = fun _ _ => 0 := by
  funext j i
  unfold smZ
  by_cases h : j < a.length
  · rw [if_pos h, if_neg (by omega)]
  · rw [if_neg h, if_neg (by omega)]
theorem sumT_length (a : List (List Int)) (l : Nat) (b : List (List Int)) (r : Nat) : (sumT a l b r).length = a.length + b.length := by simp [sumT]
theorem tableOf_sumT {a : List (List Int)} {l : Nat} {b : List (List Int)} {r : Nat} (ha : ∀ x ∈ a, x.length = l) (hb : ∀ x ∈ b, x.length = r) : tableOf (a.length + b.length) (l + r) (smZ a l b a.length b.length) = sumT a l b r := by
  unfold sumT
  refine List.ext_getElem (by simp [tableOf]) fun j h1 h2 => ?_
  have hj : j < a.length + b.length := by simpa [tableOf] using h1
  simp only [tableOf, List.getElem_map, List.getElem_range]
  by_cases h : j < a.length
  · rw [List.getElem_append_left (by simpa using h), List.getElem_map]
    have hl := ha _ (List.getElem_mem h)
    refine List.ext_getElem (by simp [hl]) fun i h3 h4 => ?_
    simp only [List.getElem_map, List.getElem_range, smZ, if_pos h]
    by_cases hi : i < l
    · rw [if_pos ⟨h, hi⟩, List.getElem_append_left (by omega), getD_of_lt _ h, getD_of_lt _ (by omega)]
    · rw [if_neg (fun hh => hi hh.2), List.getElem_append_right (by omega), List.getElem_replicate]
  · have hk : j - a.length < b.length := by omega
    rw [List.getElem_append_right (by simpa using Nat.le_of_not_lt h), List.getElem_map]
    simp only [List.length_map]
    have hl : b[j - a.length].length = r := hb _ (List.getElem_mem hk)
    refine List.ext_getElem (by simp [hl]) fun i h3 h4 => ?_
    have hi2 : i < l + r := by simpa using h3
    simp only [List.getElem_map, List.getElem_range, smZ, if_neg h]
    by_cases hi : l ≤ i
    · rw [if_pos ⟨hj, hi⟩, List.getElem_append_right (by simpa using hi), getD_of_lt _ hk, getD_of_lt _ (by omega)]
      simp
    · rw [if_neg (fun hh => hi hh.2), List.getElem_append_left (by simp; omega), List.getElem_replicate]

end Go.Proofs.Ytchijefibiaphaa
