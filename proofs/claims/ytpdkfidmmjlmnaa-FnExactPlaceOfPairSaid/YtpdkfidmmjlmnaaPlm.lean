/-
  The place of a pair in its degree, told by dimensions: plain mathematics.
-/
import Derived.Test.YtpdkfidmmjlmnaaTst
import Derived.Test.YtpdkfidmmjlmnaaEnd
namespace Go.Proofs.Ytpdkfidmmjlmnaa
open Go.RowKit

theorem idxOf_blocks {α : Type} [BEq α] [LawfulBEq α] (F : Nat → List α) {x : α} {i : Nat} (hx : x ∈ F i) (hno : ∀ k, k < i → x ∉ F k) : ∀ n, i < n → ((List.range n).flatMap F).idxOf x = ((List.range i).flatMap F).length + (F i).idxOf x := by
  intro n
  induction n with
  | zero => intro h; exact absurd h (Nat.not_lt_zero _)
  | succ n ih =>
    intro h
    rw [List.range_succ, List.flatMap_append, List.idxOf_append]
    by_cases e : i < n
    · rw [if_pos (List.mem_flatMap.2 ⟨i, List.mem_range.2 e, hx⟩)]
      exact ih e
    · have e2 : i = n := by omega
      subst e2
      rw [if_neg]
      · simp; omega
      · intro hm
        obtain ⟨k, hk, hk2⟩ := List.mem_flatMap.1 hm
        exact hno k (List.mem_range.1 hk) hk2
theorem bsL_iff {ds : List Int} {n : Nat} {i a : Int} : (i, a) ∈ bsL ds n ↔ 0 ≤ i ∧ i < (n : Int) ∧ 0 ≤ a ∧ a < ((ds.getD i.toNat 0).toNat : Int) := by
  constructor
  · intro h
    obtain ⟨k, c, e, hk, hc⟩ := bsL_mem h
    injection e with e1 e2
    subst e1 e2
    rw [Int.toNat_natCast]
    omega
  · intro h
    unfold bsL
    refine List.mem_flatMap.2 ⟨i.toNat, List.mem_range.2 (by omega), List.mem_map.2 ⟨a.toNat, List.mem_range.2 (by omega), ?_⟩⟩
    rw [Int.toNat_of_nonneg h.1, Int.toNat_of_nonneg h.2.2.1]
theorem tsA_full (X Y : List (Int × Int)) : tsA X Y X.length = X.flatMap fun u => Y.map fun v => (u, v) := by
  unfold tsA
  rw [List.take_length]
theorem tsA_mem {X Y : List (Int × Int)} {q : PV} : q ∈ tsA X Y X.length ↔ q.1 ∈ X ∧ q.2 ∈ Y := by
  rw [tsA_full]
  constructor
  · intro h
    obtain ⟨u, hu, hq⟩ := List.mem_flatMap.1 h
    obtain ⟨v, hv, rfl⟩ := List.mem_map.1 hq
    exact ⟨hu, hv⟩
  · intro h
    exact List.mem_flatMap.2 ⟨q.1, h.1, List.mem_map.2 ⟨q.2, h.2, rfl⟩⟩
/-- The basis vectors of one degree. -/
theorem bsL_filter (ds : List Int) (d : Int) (n : Nat) : (bsL ds n).filter (fun v => v.1 == d) = if 0 ≤ d ∧ d < (n : Int) then (List.range (ds.getD d.toNat 0).toNat).map (fun (c : Nat) => (d, (c : Int))) else [] := by
  induction n with
  | zero => simp [bsL]; omega
  | succ n ih =>
    rw [bsL_succ, List.filter_append, ih]
    by_cases e : d = (n : Int)
    · subst e
      rw [if_neg (by omega), if_pos (by omega), List.nil_append, Int.toNat_natCast]
      rw [List.filter_eq_self.2]
      intro v hv
      obtain ⟨c, _, rfl⟩ := List.mem_map.1 hv
      simp
    · have e2 : ((List.range (ds.getD n 0).toNat).map (fun (a : Nat) => ((n : Int), (a : Int)))).filter (fun v => v.1 == d) = [] := by
        rw [List.filter_eq_nil_iff]
        intro v hv
        obtain ⟨c, _, rfl⟩ := List.mem_map.1 hv
        simp
        omega
      rw [e2, List.append_nil]
      by_cases e3 : 0 ≤ d ∧ d < (n : Int)
      · rw [if_pos e3, if_pos (by omega)]
      · rw [if_neg e3, if_neg (by omega)]
theorem prF_tsA (X Y : List (Int × Int)) (n : Int) : prF (tsA X Y X.length) n = X.flatMap fun u => (Y.filter (fun v => v.1 == n - u.1)).map fun v => (u, v) := by
  rw [tsA_full]
  unfold prF
  rw [List.filter_flatMap]
  congr 1
  funext u
  rw [List.filter_map]
  congr 1
  refine List.filter_congr fun v _ => ?_
  show (u.1 + v.1 == n) = (v.1 == n - u.1)
  by_cases h : v.1 = n - u.1
  · rw [beq_iff_eq.2 h, beq_iff_eq.2 (by omega)]
  · rw [beq_eq_false_iff_ne.2 h, beq_eq_false_iff_ne.2 (by omega)]
/-- The pairs of the degree n with the first basis vector u, told by dimensions. -/
def blk (ds2 : List Int) (n : Int) (u : Int × Int) : List PV := (List.range (dimZ ds2 (n - u.1)).toNat).map fun (c : Nat) => (u, (n - u.1, (c : Int)))
def blkD (ds ds2 : List Int) (n : Int) (k : Nat) : List PV := (List.range (ds.getD k 0).toNat).flatMap fun (a : Nat) => blk ds2 n ((k : Int), (a : Int))
theorem prF_blk (ds ds2 : List Int) (n : Int) : prF (tsA (bsL ds ds.length) (bsL ds2 ds2.length) (bsL ds ds.length).length) n = (List.range ds.length).flatMap (blkD ds ds2 n) := by
  rw [prF_tsA]
  have e : (fun u : Int × Int => ((bsL ds2 ds2.length).filter (fun v => v.1 == n - u.1)).map fun v => (u, v)) = blk ds2 n := by
    funext u
    rw [bsL_filter]
    unfold blk
    by_cases h : 0 ≤ n - u.1 ∧ n - u.1 < (ds2.length : Int)
    · rw [if_pos h, List.map_map]
      have hd : dimZ ds2 (n - u.1) = ds2.getD (n - u.1).toNat 0 := by
        unfold dimZ
        rw [if_pos ⟨h.1, by omega⟩]
      rw [hd]
      rfl
    · rw [if_neg h]
      have hd : dimZ ds2 (n - u.1) = 0 := by
        unfold dimZ
        rw [if_neg (by omega)]
      rw [hd]
      rfl
  rw [e]
  unfold bsL blkD
  rw [List.flatMap_assoc]
  congr 1
  funext k
  rw [List.flatMap_map]
theorem blk_length (ds2 : List Int) (n : Int) (u : Int × Int) : (blk ds2 n u).length = (dimZ ds2 (n - u.1)).toNat := by simp [blk]
theorem flat_const {α : Type} (F : Nat → List α) (c : Nat) (h : ∀ k, (F k).length = c) (n : Nat) : ((List.range n).flatMap F).length = n * c := by
  induction n with
  | zero => simp
  | succ n ih => rw [List.range_succ, List.flatMap_append, List.length_append, ih, List.flatMap_cons, List.flatMap_nil, List.append_nil, h n, Nat.succ_mul]
theorem blkD_length (ds ds2 : List Int) (n : Int) (k : Nat) : (blkD ds ds2 n k).length = (ds.getD k 0).toNat * (dimZ ds2 (n - (k : Int))).toNat :=
  flat_const (fun (a : Nat) => blk ds2 n ((k : Int), (a : Int))) _ (fun a => blk_length ds2 n ((k : Int), (a : Int))) _
/-- The pairs of the degree n with a smaller first degree than i. -/
def plS (ds ds2 : List Int) (n : Int) : Nat → Nat
  | 0 => 0
  | k + 1 => plS ds ds2 n k + (ds.getD k 0).toNat * (dimZ ds2 (n - (k : Int))).toNat
theorem plS_flat (ds ds2 : List Int) (n : Int) (i : Nat) : ((List.range i).flatMap (blkD ds ds2 n)).length = plS ds ds2 n i := by
  induction i with
  | zero => simp [plS]
  | succ i ih => rw [List.range_succ, List.flatMap_append, List.length_append, ih, List.flatMap_cons, List.flatMap_nil, List.append_nil, blkD_length, plS]
theorem blk_mem {ds2 : List Int} {n : Int} {u : Int × Int} {q : PV} (h : q ∈ blk ds2 n u) : q.1 = u := by
  obtain ⟨c, _, rfl⟩ := List.mem_map.1 h
  rfl
theorem blkD_mem {ds ds2 : List Int} {n : Int} {k : Nat} {q : PV} (h : q ∈ blkD ds ds2 n k) : q.1.1 = (k : Int) := by
  obtain ⟨a, _, hq⟩ := List.mem_flatMap.1 h
  rw [blk_mem hq]
theorem plc_at {ds ds2 : List Int} {i a j b : Nat} (hi : i < ds.length) (ha : a < (ds.getD i 0).toNat) (hb : b < (dimZ ds2 (j : Int)).toNat) :
    plc (tsA (bsL ds ds.length) (bsL ds2 ds2.length) (bsL ds ds.length).length) (((i : Int), (a : Int)), ((j : Int), (b : Int))) = plS ds ds2 ((i : Int) + (j : Int)) i + (a * (dimZ ds2 (j : Int)).toNat + b) := by
  have ej : (i : Int) + (j : Int) - (i : Int) = (j : Int) := by omega
  have m1 : (((i : Int), (a : Int)), ((j : Int), (b : Int))) ∈ blk ds2 ((i : Int) + (j : Int)) ((i : Int), (a : Int)) := by
    unfold blk
    simp only [ej]
    exact List.mem_map.2 ⟨b, List.mem_range.2 hb, rfl⟩
  have m2 : (((i : Int), (a : Int)), ((j : Int), (b : Int))) ∈ blkD ds ds2 ((i : Int) + (j : Int)) i := List.mem_flatMap.2 ⟨a, List.mem_range.2 ha, m1⟩
  unfold plc
  rw [show dg (((i : Int), (a : Int)), ((j : Int), (b : Int))) = (i : Int) + (j : Int) from rfl, prF_blk]
  rw [idxOf_blocks (blkD ds ds2 ((i : Int) + (j : Int))) m2 (fun k hk hm => by have := blkD_mem hm; simp only at this; omega) _ hi, plS_flat]
  congr 1
  unfold blkD
  rw [idxOf_blocks (fun (a : Nat) => blk ds2 ((i : Int) + (j : Int)) ((i : Int), (a : Int))) m1 (fun k hk hm => by have := blk_mem hm; injection this with _ e; omega) _ ha]
  rw [flat_const _ (dimZ ds2 (j : Int)).toNat (fun k => by rw [blk_length]; simp only [ej]) a]
  congr 1
  unfold blk
  simp only [ej]
  have e3 : ∀ n, b < n → ((List.range n).map fun (c : Nat) => ((((i : Int), (a : Int)), ((j : Int), (c : Int))) : PV)).idxOf (((i : Int), (a : Int)), ((j : Int), (b : Int))) = b := by
    intro n hn
    have hm : (List.range n).map (fun (c : Nat) => ((((i : Int), (a : Int)), ((j : Int), (c : Int))) : PV)) = (List.range n).flatMap (fun (c : Nat) => [((((i : Int), (a : Int)), ((j : Int), (c : Int))) : PV)]) := by
      rw [List.map_eq_flatMap]
    rw [hm, idxOf_blocks (fun (c : Nat) => [((((i : Int), (a : Int)), ((j : Int), (c : Int))) : PV)]) (i := b) (by simp) (fun k hk hm2 => by simp at hm2; omega) n hn, flat_const _ 1 (fun _ => rfl)]
    simp
  exact e3 _ hb
end Go.Proofs.Ytpdkfidmmjlmnaa
