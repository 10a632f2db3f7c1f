/-
  Rows copied into the rows of a table; impl.sumTable by its contract.
-/
import Derived.Test.YtpdkfidmmjlmnaaRw
import Derived.Test.YtpdkfidmmjlmnaaQe
import Derived.Test.YtpdkfidmmjlmnaaP1
import Derived.Deep.RegionHeld3
namespace Go.Proofs.Ytpdkfidmmjlmnaa
open Go.RowKit

/-- copy of a row that reads as x into a row of a table that a call has made, from place q on. -/
theorem copy_into {w0 w : World} {r c : Nat} {Z : Nat → Nat → Int} (h : Mat w0 w r c Z) {j q : Nat} (hj : j < r) (dl dc : Nat) (sa : Option Addr) (sc : Nat) (x : List Int) (hx : L1 0 w (.slice sa x.length sc) x) (hq : q + x.length ≤ c) (hd : x.length ≤ dl) :
    ∃ W, (∀ ty, (Builtin.copy_ #[22, 22] ty #[.slice (some ⟨w0.heap.size + 1 + j, q, none⟩) dl dc, .slice sa x.length sc]).run Try.prog w = .ok (goInt x.length) W) ∧ W.heap.size = w.heap.size ∧
      Mat w0 W r c (fun j2 i2 => if j2 = j ∧ q ≤ i2 ∧ i2 < q + x.length then x.getD (i2 - q) 0 else Z j2 i2) := by
  rcases hx with ⟨rfl, ad, cap, hv⟩ | ⟨b, o, cap, hv, _, hpos, hcl⟩
  · refine ⟨w, fun ty => ?_, rfl, h.congr (fun j2 _ i2 _ => by rw [if_neg (by rintro ⟨_, h1, h2⟩; simp at h2; omega)])⟩
    clear hv
    obtain ⟨i, hi, _⟩ := info_parts Try.infoI
    cases sa with
    | none => simp [Builtin.copy_, run_underlying Try.underlying22, Builtin.lenOf, Builtin.firstCells, sizeOf, typeInfo, hi, storeCells]
    | some a => simp [Builtin.copy_, run_underlying Try.underlying22, Builtin.lenOf, Builtin.firstCells, sizeOf, typeInfo, hi, storeCells, loadCells, loadCellsFrom]
  · injection hv with e1 e2 e3
    subst e1 e3
    obtain ⟨cur, hcur, hcs, hget⟩ := h.rows j hj
    have hlen : (x.map (Value.int .i64)).length = x.length := List.length_map ..
    refine ⟨w.setRow (w0.heap.size + 1 + j) (cur.toList.take q ++ x.map (Value.int .i64) ++ cur.toList.drop (q + x.length)).toArray, fun ty => ?_, by simp, ?_⟩
    · have hh := run_copy_row (P := Try.prog) w 22 22 ty 2 (w0.heap.size + 1 + j) q dl dc ⟨b, o, none⟩ x.length sc cur 2 (x.map (Value.int .i64)) Try.underlying22 Try.infoI1 hcur
        (by rw [hlen]; simp only [Nat.min_def]; split <;> omega) (fun k u hk => by
        have hk' : k < x.length := by rw [← hlen]; exact (List.getElem?_eq_some_iff.1 hk).1
        obtain ⟨u2, hu2, hr2⟩ := hcl k hk'
        rw [Addr.add_mid, hu2, hr2]
        simp [hk'] at hk
        rw [← hk]) (by rw [hlen]; omega) (fun u hu => by
        obtain ⟨y, _, rfl⟩ := List.mem_map.1 hu
        rfl)
      rw [hlen] at hh
      exact hh
    · refine ⟨below_setRow h.below (by omega) _, by simp [h.size], h.top.of_block (setRow_other _ _ _ _ (by omega)), fun j2 hj2 => ?_⟩
      by_cases e : j2 = j
      · subst e
        have hcl2 : cur.toList.length = c := by simpa using hcs
        refine ⟨_, setRow_heap _ _ _ _ _ _ hcur, by simp [hcs]; omega, fun i hi => ?_⟩
        show _ = some (Value.int .i64 (if j2 = j2 ∧ q ≤ i ∧ i < q + x.length then x.getD (i - q) 0 else Z j2 i))
        have hgi : cur[i]? = some (Value.int .i64 (Z j2 i)) := hget i hi
        rw [List.getElem?_toArray, List.append_assoc]
        by_cases h1 : i < q
        · rw [List.getElem?_append_left (by rw [List.length_take]; omega), List.getElem?_take_of_lt h1, if_neg (by omega)]
          rw [← Array.getElem?_toList] at hgi
          exact hgi
        · rw [List.getElem?_append_right (by rw [List.length_take]; omega), List.length_take, Nat.min_eq_left (by omega)]
          by_cases h2 : i < q + x.length
          · rw [List.getElem?_append_left (by rw [hlen]; omega), if_pos ⟨rfl, by omega, h2⟩]
            have h3 : i - q < x.length := by omega
            simp [h3, List.getD]
          · rw [List.getElem?_append_right (by rw [hlen]; omega), hlen, if_neg (by omega), List.getElem?_drop, show q + x.length + (i - q - x.length) = i by omega]
            rw [← Array.getElem?_toList] at hgi
            exact hgi
      · exact ((h.rows j2 hj2).of_block (setRow_other _ _ _ _ (by omega))).congr (fun i _ => by rw [if_neg (fun hh => e hh.1)])

/-- Two tables side by side and behind one another. -/
def sumT (a : List (List Int)) (l : Nat) (b : List (List Int)) (r : Nat) : List (List Int) := a.map (fun x => x ++ List.replicate r 0) ++ b.map (fun x => List.replicate l 0 ++ x)
def smZ (a : List (List Int)) (l : Nat) (b : List (List Int)) (k1 k2 : Nat) (j i : Nat) : Int :=
  if j < a.length then (if j < k1 ∧ i < l then (a.getD j []).getD i 0 else 0) else (if j < a.length + k2 ∧ l ≤ i then (b.getD (j - a.length) []).getD (i - l) 0 else 0)
theorem smZ_0 (a : List (List Int)) (l : Nat) (b : List (List Int)) : smZ a l b 0 0 = fun _ _ => 0 := by
  funext j i
  unfold smZ
  by_cases h : j < a.length
  · rw [if_pos h, if_neg (by omega)]
  · rw [if_neg h, if_neg (by omega)]
theorem sumT_length (a : List (List Int)) (l : Nat) (b : List (List Int)) (r : Nat) : (sumT a l b r).length = a.length + b.length := by simp [sumT]
theorem tableOf_sumT {a : List (List Int)} {l : Nat} {b : List (List Int)} {r : Nat} (ha : ∀ x ∈ a, x.length = l) (hb : ∀ x ∈ b, x.length = r) : tableOf (a.length + b.length) (l + r) (smZ a l b a.length b.length) = sumT a l b r := by
  unfold sumT
  refine List.ext_getElem (by simp [tableOf]) fun j h1 h2 => ?_
  have hj : j < a.length + b.length := by simpa [tableOf] using h1
  simp only [tableOf, List.getElem_map, List.getElem_range]
  by_cases h : j < a.length
  · rw [List.getElem_append_left (by simpa using h), List.getElem_map]
    have hl := ha _ (List.getElem_mem h)
    refine List.ext_getElem (by simp [hl]) fun i h3 h4 => ?_
    simp only [List.getElem_map, List.getElem_range, smZ, if_pos h]
    by_cases hi : i < l
    · rw [if_pos ⟨h, hi⟩, List.getElem_append_left (by omega), getD_of_lt _ h, getD_of_lt _ (by omega)]
    · rw [if_neg (fun hh => hi hh.2), List.getElem_append_right (by omega), List.getElem_replicate]
  · have hk : j - a.length < b.length := by omega
    rw [List.getElem_append_right (by simpa using Nat.le_of_not_lt h), List.getElem_map]
    simp only [List.length_map]
    have hl : b[j - a.length].length = r := hb _ (List.getElem_mem hk)
    refine List.ext_getElem (by simp [hl]) fun i h3 h4 => ?_
    have hi2 : i < l + r := by simpa using h3
    simp only [List.getElem_map, List.getElem_range, smZ, if_neg h]
    by_cases hi : l ≤ i
    · rw [if_pos ⟨hj, hi⟩, List.getElem_append_right (by simpa using hi), getD_of_lt _ hk, getD_of_lt _ (by omega)]
      simp
    · rw [if_neg (fun hh => hi hh.2), List.getElem_append_left (by simp; omega), List.getElem_replicate]

set_option maxHeartbeats 3200000 in
set_option maxRecDepth 100000 in
theorem sumTable_any (va vb : Value) (a b : List (List Int)) (l r : Nat) (w : World) (hva : L2 0 w va a) (hvb : L2 0 w vb b) (hal : a.length ≤ 524288) (hbl : b.length ≤ 524288) (hl : l ≤ 524288) (hr : r ≤ 524288) (ha : ∀ x ∈ a, x.length = l) (hb : ∀ x ∈ b, x.length = r) :
    Calls Try.prog 118 #[va, .int .i64 (l : Int), vb, .int .i64 (r : Int)] w (MatR (a.length + b.length) (l + r) (smZ a l b a.length b.length) w) := by
  obtain ⟨aa, ca, rfl⟩ := Sl.shape hva
  obtain ⟨ab, cb, rfl⟩ := Sl.shape hvb
  have HVA := Lib.hid (fun W (h : Below w.heap.size w W) => hva.below h)
  have HVB := Lib.hid (fun W (h : Below w.heap.size w W) => hvb.below h)
  have HA := Lib.hid ha
  have HB := Lib.hid hb
  have hw1 : IntKind.i64.wrap ((a.length : Int) + (b.length : Int)) = ((a.length + b.length : Nat) : Int) := by rw [show (a.length : Int) + (b.length : Int) = ((a.length + b.length : Nat) : Int) by omega]; exact IntWalk.i64_in _ (by omega)
  have hw2 : IntKind.i64.wrap ((l : Int) + (r : Int)) = ((l + r : Nat) : Int) := by rw [show (l : Int) + (r : Int) = ((l + r : Nat) : Int) by omega]; exact IntWalk.i64_in _ (by omega)
  obtain ⟨R, hR⟩ : ∃ R, R = a.length + b.length := ⟨_, rfl⟩
  obtain ⟨c, hc⟩ : ∃ c, c = l + r := ⟨_, rfl⟩
  rw [← hR] at hw1
  rw [← hc] at hw2
  rw [← hR, ← hc]
  have hRa : a.length ≤ R := by omega
  have hcl : l ≤ c := by omega
  have HRE : Hid (R = a.length + b.length) := Lib.hid hR
  have HCE : Hid (c = l + r) := Lib.hid hc
  have hR2 : R ≤ 1048576 := by omega
  have hc2 : c ≤ 1048576 := by omega
  clear hva hvb ha hb hR hc
  go_enter Try.func118, Try.ntmps118
  go_wp2_with fail
  refine (zeroTable_any R c w hR2 hc2).mono ?_
  rintro ee w1 ⟨rfl, hm⟩
  have HM0 : Hid (Mat w w1 R c (smZ a l b 0 0)) := Lib.hid (by rw [smZ_0]; exact hm)
  clear hm hw1 hw2
  go_wp2
  go_loopw [10, 11, 25] (fun _ _ i wr => ∃ (k : Nat), k ≤ a.length ∧ i = .int .i64 k ∧ Hid (Mat w wr R c (smZ a l b k 0))) (fun _ _ i _ => a.length - (intOf i).toNat)
  case atStart => exact ⟨0, Nat.zero_le _, rfl, HM0⟩
  case round =>
    clear HM0
    obtain ⟨k, hk, rfl, HM⟩ := hrel
    obtain ⟨wx, hwx⟩ : ∃ wx : World, wx = wr := ⟨_, rfl⟩
    subst hwx
    by_cases hlt : k < a.length
    · have hlk : (k : Int) < (a.length : Int) := by omega
      have hlR : (k : Int) < (R : Int) := by omega
      have hkR : k < R := by omega
      refine Sl.cases (HVA.out _ HM.out.below) (fun _ _ hx _ => absurd hlt (by simp [hx])) (fun bk ok c2' hvv _ _ hcl => ?_)
      injection hvv with e1 e2 e3
      clear e2
      subst e1 e3
      obtain ⟨ur, hur, hrr⟩ := hcl k hlt
      obtain ⟨y, hy⟩ : ∃ y, y = a[k] := ⟨_, rfl⟩
      rw [← hy] at hrr
      have hyl : y.length = l := by rw [hy]; exact HA.out _ (List.getElem_mem hlt)
      have hyg : a.getD k [] = y := by rw [getD_of_lt _ hlt, hy]
      obtain ⟨ar, cr, hus⟩ := Sl.shape hrr
      rw [hyl] at hus
      subst hus
      have htop := HM.out.top.cell hkR
      obtain ⟨W, hrun, hsz, hmat⟩ := copy_into HM.out (q := 0) hkR c c ar cr y (by rw [hyl]; exact hrr) (by omega) (by omega)
      have HM2 : Hid (Mat w W R c (smZ a l b (k + 1) 0)) := Lib.hid (hmat.congr (fun j hj i hi => by
        unfold smZ
        by_cases e : j = k
        · subst e
          by_cases h2 : i < l
          · rw [if_pos ⟨rfl, by omega, by omega⟩, if_pos hlt, if_pos ⟨by omega, h2⟩, hyg, Nat.sub_zero]
          · rw [if_neg (by omega), if_pos hlt, if_pos hlt, if_neg (by omega), if_neg (by omega)]
        · rw [if_neg (by omega)]
          by_cases h3 : j < a.length
          · rw [if_pos h3, if_pos h3]
            by_cases h4 : j < k ∧ i < l
            · rw [if_pos h4, if_pos (by omega)]
            · rw [if_neg h4, if_neg (by omega)]
          · rw [if_neg h3, if_neg h3]))
      have HRUN := Lib.hid (by rw [hyl] at hrun; exact hrun)
      clear hcl hrr hy hyg hmat hrun hsz HM hyl
      go_wp2
      rw [HRUN.out]
      go_wp2
      go_roundw
      case rel => first | exact ⟨k + 1, by omega, by go_num, HM2⟩ | ((repeat apply Exists.intro); exact ⟨⟨k + 1, by omega, by go_num, HM2⟩, rfl⟩)
      case measure => simp [intOf]; omega
    · have hlk : ¬ (k : Int) < (a.length : Int) := by omega
      have HM1 : Hid (Mat w wx R c (smZ a l b a.length 0)) := Lib.hid (by have h0 := HM.out; rwa [show k = a.length by omega] at h0)
      clear HM
      obtain ⟨wo, hwo⟩ : ∃ wo : World, wo = wx := ⟨_, rfl⟩
      subst hwo
      go_wp2
      go_loopw [12, 13, 39] (fun _ _ i wr => ∃ (k : Nat), k ≤ b.length ∧ i = .int .i64 k ∧ Hid (Mat w wr R c (smZ a l b a.length k))) (fun _ _ i _ => b.length - (intOf i).toNat)
      case atStart => exact ⟨0, Nat.zero_le _, rfl, HM1⟩
      case round =>
        clear HM1
        obtain ⟨k2, hk2, rfl, HM⟩ := hrel
        obtain ⟨wy, hwy⟩ : ∃ wy : World, wy = wr := ⟨_, rfl⟩
        subst hwy
        by_cases hlt2 : k2 < b.length
        · have hlk2 : (k2 : Int) < (b.length : Int) := by omega
          obtain ⟨m, hm⟩ : ∃ m, m = a.length + k2 := ⟨_, rfl⟩
          have hmR : m < R := by have := HRE.out; omega
          have hlR : (m : Int) < (R : Int) := by omega
          have hw3 : IntKind.i64.wrap ((a.length : Int) + (k2 : Int)) = (m : Int) := by rw [show (a.length : Int) + (k2 : Int) = (m : Int) by omega]; exact IntWalk.i64_in _ (by omega)
          refine Sl.cases (HVB.out _ HM.out.below) (fun _ _ hx _ => absurd hlt2 (by simp [hx])) (fun bk ok c2' hvv _ _ hcl => ?_)
          injection hvv with e1 e2 e3
          clear e2
          subst e1 e3
          obtain ⟨ur, hur, hrr⟩ := hcl k2 hlt2
          obtain ⟨y, hy⟩ : ∃ y, y = b[k2] := ⟨_, rfl⟩
          rw [← hy] at hrr
          have hyl : y.length = r := by rw [hy]; exact HB.out _ (List.getElem_mem hlt2)
          have hyg : b.getD k2 [] = y := by rw [getD_of_lt _ hlt2, hy]
          obtain ⟨ar, cr, hus⟩ := Sl.shape hrr
          rw [hyl] at hus
          subst hus
          have htop := HM.out.top.cell hmR
          have hce := HCE.out
          by_cases hcl2 : l < c
          · skip
            obtain ⟨W, hrun, hsz, hmat⟩ := copy_into HM.out (q := l) hmR (c - l) (c - l) ar cr y (by rw [hyl]; exact hrr) (by omega) (by omega)
            have HM2 : Hid (Mat w W R c (smZ a l b a.length (k2 + 1))) := Lib.hid (hmat.congr (fun j hj i hi => by
              unfold smZ
              by_cases e : j = m
              · subst e
                rw [if_neg (show ¬ j < a.length by omega), if_neg (show ¬ j < a.length by omega)]
                by_cases h2 : l ≤ i
                · rw [if_pos ⟨rfl, h2, by omega⟩, if_pos ⟨by omega, h2⟩, show j - a.length = k2 by omega, hyg]
                · rw [if_neg (by omega), if_neg (by omega), if_neg (by omega)]
              · rw [if_neg (by omega)]
                by_cases h3 : j < a.length
                · rw [if_pos h3, if_pos h3]
                · rw [if_neg h3, if_neg h3]
                  by_cases h4 : j < a.length + k2 ∧ l ≤ i
                  · rw [if_pos h4, if_pos (by omega)]
                  · rw [if_neg h4, if_neg (by omega)]))
            have HRUN := Lib.hid (by rw [hyl] at hrun; exact hrun)
            have hl0 : (0 : Int) ≤ (l : Int) := by omega
            have hlc : (l : Int) ≤ (c : Int) := by omega
            clear hcl hrr hy hyg hmat hrun hsz HM hm hce hyl
            go_wp2
            rw [HRUN.out]
            go_wp2
            go_roundw
            case rel => first | exact ⟨k2 + 1, by omega, by go_num, HM2⟩ | ((repeat apply Exists.intro); exact ⟨⟨k2 + 1, by omega, by go_num, HM2⟩, rfl⟩)
            case measure => simp [intOf]; omega
          · skip
            obtain ⟨W, hrun, hsz, hmat⟩ := copy_into HM.out (q := 0) hmR (c - l) (c - l) ar cr y (by rw [hyl]; exact hrr) (by omega) (by omega)
            have HM2 : Hid (Mat w W R c (smZ a l b a.length (k2 + 1))) := Lib.hid (hmat.congr (fun j hj i hi => by
              unfold smZ
              by_cases e : j = m
              · subst e
                rw [if_neg (show ¬ j < a.length by omega), if_neg (show ¬ j < a.length by omega)]
                by_cases h2 : l ≤ i
                · exact absurd h2 (by omega)
                · rw [if_neg (by omega), if_neg (by omega), if_neg (by omega)]
              · rw [if_neg (by omega)]
                by_cases h3 : j < a.length
                · rw [if_pos h3, if_pos h3]
                · rw [if_neg h3, if_neg h3]
                  by_cases h4 : j < a.length + k2 ∧ l ≤ i
                  · rw [if_pos h4, if_pos (by omega)]
                  · rw [if_neg h4, if_neg (by omega)]))
            have HRUN := Lib.hid (by rw [hyl] at hrun; exact hrun)
            have hl0 : (0 : Int) ≤ (l : Int) := by omega
            have hlc : (l : Int) ≤ (c : Int) := by omega
            clear hcl hrr hy hyg hmat hrun hsz HM hm hce hyl
            go_wp2
            rw [HRUN.out]
            go_wp2
            go_roundw
            case rel => first | exact ⟨k2 + 1, by omega, by go_num, HM2⟩ | ((repeat apply Exists.intro); exact ⟨⟨k2 + 1, by omega, by go_num, HM2⟩, rfl⟩)
            case measure => simp [intOf]; omega
        · have hlk2 : ¬ (k2 : Int) < (b.length : Int) := by omega
          have HM3 : Hid (Mat w wy R c (smZ a l b a.length b.length)) := Lib.hid (by have h0 := HM.out; rwa [show k2 = b.length by omega] at h0)
          clear HM
          go_wp2
          go_ret
          exact ⟨rfl, HM3.out⟩
end Go.Proofs.Ytpdkfidmmjlmnaa
