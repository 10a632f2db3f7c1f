/-
  Shifts of complexes: what they are, and how one lies in memory; a copy of a row into a row.
-/
import Derived.Test.YtpdkfidmmjlmnaaDuW
import Derived.Test.YtpdkfidmmjlmnaaP4
import Derived.Test.YtpdkfidmmjlmnaaSca
import Derived.Test.YtpdkfidmmjlmnaaTdm
namespace Go.Proofs.Ytpdkfidmmjlmnaa
open Go.RowKit

/-- copy of a row that reads as x into a row that a call has made, from place q on. -/
theorem copy_row {w : World} {g c : Nat} {Z : Nat → Int} (h : w.rowIs g 2 c (fun j => .int .i64 (Z j))) {q : Nat} (dl dc : Nat) (sa : Option Addr) (sc : Nat) (x : List Int) (hx : L1 0 w (.slice sa x.length sc) x) (hq : q + x.length ≤ c) (hd : x.length ≤ dl) :
    ∃ W, (∀ ty, (Builtin.copy_ #[22, 22] ty #[.slice (some ⟨g, q, none⟩) dl dc, .slice sa x.length sc]).run Try.prog w = .ok (goInt x.length) W) ∧ W.heap.size = w.heap.size ∧ (∀ b, b ≠ g → W.heap[b]? = w.heap[b]?) ∧ (∀ B (w0 : World), B ≤ g → Below B w0 w → Below B w0 W) ∧
      W.rowIs g 2 c (fun j => .int .i64 (if q ≤ j ∧ j < q + x.length then x.getD (j - q) 0 else Z j)) := by
  rcases hx with ⟨rfl, ad, cap, hv⟩ | ⟨b, o, cap, hv, _, hpos, hcl⟩
  · refine ⟨w, fun ty => ?_, rfl, fun _ _ => rfl, fun _ _ _ hb => hb, h.congr (fun j _ => by rw [if_neg (by rintro ⟨h1, h2⟩; simp at h2; omega)])⟩
    clear hv
    obtain ⟨i, hi, _⟩ := info_parts Try.infoI
    cases sa with
    | none => simp [Builtin.copy_, run_underlying Try.underlying22, Builtin.lenOf, Builtin.firstCells, sizeOf, typeInfo, hi, storeCells]
    | some a => simp [Builtin.copy_, run_underlying Try.underlying22, Builtin.lenOf, Builtin.firstCells, sizeOf, typeInfo, hi, storeCells, loadCells, loadCellsFrom]
  · injection hv with e1 e2 e3
    subst e1 e3
    obtain ⟨cur, hcur, hcs, hget⟩ := h
    have hlen : (x.map (Value.int .i64)).length = x.length := List.length_map ..
    refine ⟨w.setRow g (cur.toList.take q ++ x.map (Value.int .i64) ++ cur.toList.drop (q + x.length)).toArray, fun ty => ?_, by simp, fun b hb => setRow_other _ _ _ _ hb, fun B w0 hl hb => below_setRow hb hl _, ?_⟩
    · have hh := run_copy_row (P := Try.prog) w 22 22 ty 2 g q dl dc ⟨b, o, none⟩ x.length sc cur 2 (x.map (Value.int .i64)) Try.underlying22 Try.infoI1 hcur
        (by rw [hlen]; simp only [Nat.min_def]; split <;> omega) (fun k u hk => by
        have hk' : k < x.length := by rw [← hlen]; exact (List.getElem?_eq_some_iff.1 hk).1
        obtain ⟨u2, hu2, hr2⟩ := hcl k hk'
        rw [Addr.add_mid, hu2, hr2]
        simp [hk'] at hk
        rw [← hk]) (by rw [hlen]; omega) (fun u hu => by
        obtain ⟨y, _, rfl⟩ := List.mem_map.1 hu
        rfl)
      rw [hlen] at hh
      exact hh
    · have hcl2 : cur.toList.length = c := by simpa using hcs
      refine ⟨_, setRow_heap _ _ _ _ _ _ hcur, by simp [hcs]; omega, fun i hi => ?_⟩
      show _ = some (Value.int .i64 (if q ≤ i ∧ i < q + x.length then x.getD (i - q) 0 else Z i))
      have hgi : cur[i]? = some (Value.int .i64 (Z i)) := hget i hi
      rw [List.getElem?_toArray, List.append_assoc]
      by_cases h1 : i < q
      · rw [List.getElem?_append_left (by rw [List.length_take]; omega), List.getElem?_take_of_lt h1, if_neg (by omega)]
        rw [← Array.getElem?_toList] at hgi
        exact hgi
      · rw [List.getElem?_append_right (by rw [List.length_take]; omega), List.length_take, Nat.min_eq_left (by omega)]
        by_cases h2 : i < q + x.length
        · rw [List.getElem?_append_left (by rw [hlen]; omega), if_pos ⟨by omega, h2⟩]
          have h3 : i - q < x.length := by omega
          simp [h3, List.getD]
        · rw [List.getElem?_append_right (by rw [hlen]; omega), hlen, if_neg (by omega), List.getElem?_drop, show q + x.length + (i - q - x.length) = i by omega]
          rw [← Array.getElem?_toList] at hgi
          exact hgi

def shd (ds : List Int) (K j : Nat) : Int := if j < K then 0 else ds.getD (j - K) 0
def shD (ds : List Int) (K : Nat) : List Int := (List.range (K + ds.length)).map (shd ds K)
def shg (p : Int) (K : Nat) : Int := if (K : Int) % 2 = 0 then 1 else p - 1
def sht (p : Int) (ds : List Int) (ms : List (List (List Int))) (K j : Nat) : List (List Int) :=
  if j < K then tableOf (shd ds K (j + 1)).toNat (shd ds K j).toNat (fun _ _ => 0) else tableOf (tabN ms (j - K)).length (ds.getD (j - K) 0).toNat (scZ p (shg p K) (tabN ms (j - K)))
def shM (p : Int) (ds : List Int) (ms : List (List (List Int))) (K : Nat) : List (List (List Int)) := (List.range (K + ms.length)).map (sht p ds ms K)
theorem shD_length (ds : List Int) (K : Nat) : (shD ds K).length = K + ds.length := by simp [shD]
theorem shM_length (p : Int) (ds : List Int) (ms : List (List (List Int))) (K : Nat) : (shM p ds ms K).length = K + ms.length := by simp [shM]
open Classical in
/-- The code of a shift. -/
noncomputable def shCode (p k : Int) (ds : List Int) (ms : List (List (List Int))) : Int :=
  if ¬ IsCx p ds ms then 1 else if ¬ (0 ≤ k ∧ k ≤ 5) then 2 else if 5 < (ds.length : Int) - 1 + k then 3 else 0
structure ShOk (p k : Int) (ds : List Int) (ms : List (List (List Int))) : Prop where
  c : IsCx p ds ms
  r : 0 ≤ k ∧ k ≤ 5
  fit : (ds.length : Int) - 1 + k ≤ 5
theorem shCode_zero {p k : Int} {ds : List Int} {ms : List (List (List Int))} (h : shCode p k ds ms = 0) : ShOk p k ds ms := by
  unfold shCode at h
  by_cases h1 : IsCx p ds ms
  · rw [if_neg (fun x => x h1)] at h
    by_cases h2 : 0 ≤ k ∧ k ≤ 5
    · rw [if_neg (fun x => x h2)] at h
      by_cases h3 : 5 < (ds.length : Int) - 1 + k
      · rw [if_pos h3] at h; cases h
      · exact ⟨h1, h2, by omega⟩
    · rw [if_pos h2] at h; cases h
  · rw [if_pos h1] at h; cases h
theorem ShOk.code {p k : Int} {ds : List Int} {ms : List (List (List Int))} (h : ShOk p k ds ms) : shCode p k ds ms = 0 := by
  unfold shCode
  rw [if_neg (fun x => x h.c), if_neg (fun x => x h.r), if_neg (by have := h.fit; omega)]
def shOut (p k : Int) (ds : List Int) (ms : List (List (List Int))) : Co := (p, shD ds k.toNat, shM p ds ms k.toNat)
theorem shd_8 {p : Int} {ds : List Int} {ms : List (List (List Int))} (h : IsCx p ds ms) (K j : Nat) : 0 ≤ shd ds K j ∧ shd ds K j ≤ 8 := by
  unfold shd
  by_cases e : j < K
  · rw [if_pos e]; omega
  · rw [if_neg e]; exact h.1.dim _
theorem sh_tab {p : Int} {ds : List Int} {ms : List (List (List Int))} (h : IsCx p ds ms) (q : Nat) : (tabN ms q).length ≤ 8 ∧ ∀ y ∈ tabN ms q, y.length = (ds.getD q 0).toNat ∧ ∀ z ∈ y, 0 ≤ z ∧ z ≤ p - 1 := by
  unfold tabN
  by_cases hk : q < ms.length
  · have ht := h.tab hk
    have h1 := h.1.dim (q + 1)
    have h2 := h.1.dim q
    refine ⟨by have := ht.1; omega, fun x hx => ⟨?_, (ht.2 x hx).2⟩⟩
    have := (ht.2 x hx).1
    omega
  · rw [List.getD_eq_getElem?_getD, List.getElem?_eq_none (by omega)]
    exact ⟨by simp, fun x hx => by simp at hx⟩
theorem tableOf_bd {r c : Nat} {Z : Nat → Nat → Int} (hr : r ≤ 1048576) (hc : c ≤ 1048576) : Bd2 1048576 (tableOf r c Z) := by
  refine ⟨by simpa [tableOf] using hr, fun x hx => ?_⟩
  obtain ⟨j, _, rfl⟩ := List.mem_map.1 hx
  show ((List.range c).map _).length ≤ _
  simpa using hc
theorem sh_bd {p k : Int} {ds : List Int} {ms : List (List (List Int))} (h : ShOk p k ds ms) : CoB (shOut p k ds ms) := by
  have h1 := h.c.1.len1
  have h2 := h.c.1.mlen
  have h3 := h.r
  refine ⟨by show (shD ds k.toNat).length ≤ _; rw [shD_length]; omega, by show (shM p ds ms k.toNat).length ≤ _; rw [shM_length]; omega, fun t ht => ?_⟩
  obtain ⟨j, hj, rfl⟩ := List.mem_map.1 (show t ∈ shM p ds ms k.toNat from ht)
  have a1 := shd_8 h.c k.toNat j
  have a2 := shd_8 h.c k.toNat (j + 1)
  have a3 := (sh_tab h.c (j - k.toNat)).1
  have a4 := h.c.1.dim (j - k.toNat)
  unfold sht
  by_cases e : j < k.toNat
  · rw [if_pos e]; exact tableOf_bd (by omega) (by omega)
  · rw [if_neg e]; exact tableOf_bd (by omega) (by omega)
theorem sh_rc {w W : World} {p : Int} {ds : List Int} {ms : List (List (List Int))} {bd bm n m K : Nat} {f : Nat → Value} {b : Nat → Nat} (hm : m = K + ms.length) (hn : n = K + ds.length) (hb : n ≤ 1048576) (hb2 : m ≤ 1048576)
    (hdim : W.rowIs bd 2 n (fun j => .int .i64 (shd ds K j))) (hfill : Fill3 W bm m m f b (shM p ds ms K)) (l1 : w.heap.size ≤ bd) (l2 : w.heap.size ≤ bm) (l3 : bd < b 0) :
    RcW w.heap.size W.heap.size W (.slice (some ⟨bd, 0, none⟩) n n) (.slice (some ⟨bm, 0, none⟩) m m) (shD ds K) (shM p ds ms K) := by
  obtain ⟨q3, J, s3, n3, d3, z3⟩ := hfill.parts (by rw [shM_length]; exact hm) hb2
  obtain ⟨q1, I, s1, n1, b1, z1⟩ := row_rc (xs := shD ds K) hdim (by rw [shD_length]; exact hn.symm) (fun i hi => by simp [shD]) hb l1
  refine ⟨⟨q1, q3.wider l2 (Nat.le_refl _)⟩, I, J, s1, s3.wider l2 (Nat.le_refl _), n1, n3.wider ?_ (Nat.le_refl _), d3, fun x hx y hy => Or.inl ?_, z1, z3⟩
  · omega
  · have h1 := b1 x hx
    have h2 := (n3 y hy).1
    rw [h1]
    omega
end Go.Proofs.Ytpdkfidmmjlmnaa
