/-
  ZeroFamily of both sides by contracts.
-/
import Derived.Test.YtiokagnolbddlaaRw
import Derived.Test.YtiokagnolbddlaaGt
import Derived.Test.YtiokagnolbddlaaEnd
import Derived.Test.YtiokagnolbddlaaEnb
namespace Go.Proofs.Ytiokagnolbddlaa
open Go.RowKit

def zeroT (r c : Nat) : List (List Int) := tableOf r c fun _ _ => 0
/-- The family of zeros. -/
def zeroAt (ds ds2 : List Int) (s : Int) (n : Nat) : List (List Int) := zeroT (ds.getD n 0).toNat (dimZ ds2 ((n : Int) + s)).toNat
def zeroF (ds ds2 : List Int) (s : Int) (m : Nat) : List (List (List Int)) := (List.range m).map (zeroAt ds ds2 s)
theorem zeroF_length (ds ds2 : List Int) (s : Int) (m : Nat) : (zeroF ds ds2 s m).length = m := by simp [zeroF]
theorem zeroF_at (ds ds2 : List Int) (s : Int) {m k : Nat} (h : k < m) : (zeroF ds ds2 s m)[k]'(by rw [zeroF_length]; exact h) = zeroAt ds ds2 s k := by simp [zeroF]
theorem zeroF_succ (ds ds2 : List Int) (s : Int) (m : Nat) : zeroF ds ds2 s (m + 1) = zeroF ds ds2 s m ++ [zeroAt ds ds2 s m] := by simp [zeroF, List.range_succ]
theorem zeroT_rows (r c : Nat) : zeroT r c = List.replicate r (List.replicate c 0) := by
  simp [zeroT, tableOf, List.map_const']
theorem dimZ_8 {p : Int} {ds : List Int} {ms : List (List (List Int))} (h : IsCx p ds ms) (n : Int) : 0 ≤ dimZ ds n ∧ dimZ ds n ≤ 8 := by
  unfold dimZ
  by_cases hr : 0 ≤ n ∧ n ≤ (ds.length : Int) - 1
  · rw [if_pos hr]
    exact h.1.dim _
  · rw [if_neg hr]
    omega
theorem zeroF_bd {p p2 : Int} {ds : List Int} {ms : List (List (List Int))} {ds2 : List Int} {ms2 : List (List (List Int))} (h : IsCx p ds ms) (h2 : IsCx p2 ds2 ms2) (s : Int) : Bd3 1048576 (zeroF ds ds2 s ds.length) := by
  have h1 := h.1.len1
  refine ⟨by rw [zeroF_length]; omega, fun t ht => ?_⟩
  obtain ⟨n, hn, rfl⟩ := List.mem_map.1 ht
  have hd8 := h.1.dim n
  have hd9 := dimZ_8 h2 ((n : Int) + s)
  unfold zeroAt
  rw [zeroT_rows]
  refine ⟨by rw [List.length_replicate]; omega, fun r hr => ?_⟩
  rw [(List.mem_replicate.1 hr).2]
  simp only [Bd1, List.length_replicate]
  omega
open Classical in
noncomputable def zfCode (p p2 s : Int) (ds : List Int) (ms : List (List (List Int))) (ds2 : List Int) (ms2 : List (List (List Int))) : Int := if endCode p p2 ds ms ds2 ms2 = 0 then (if 0 ≤ s ∧ s ≤ 1 then 0 else 2) else endCode p p2 ds ms ds2 ms2
theorem zfCode_zero {p p2 s : Int} {ds : List Int} {ms : List (List (List Int))} {ds2 : List Int} {ms2 : List (List (List Int))} (h : zfCode p p2 s ds ms ds2 ms2 = 0) : EndOk p p2 ds ms ds2 ms2 ∧ 0 ≤ s ∧ s ≤ 1 := by
  unfold zfCode at h
  by_cases h0 : endCode p p2 ds ms ds2 ms2 = 0
  · rw [if_pos h0] at h
    by_cases h1 : 0 ≤ s ∧ s ≤ 1
    · exact ⟨endCode_zero h0, h1⟩
    · rw [if_neg h1] at h
      cases h
  · rw [if_neg h0] at h
    exact absurd h h0
def Fam3R (out : List (List (List Int))) (w : World) (e : Ending) (w' : World) : Prop := ∃ u, e = .returned u ∧ Rw3 w.heap.size w'.heap.size w' u out ∧ Below w.heap.size w w'
def Gt3R (out : List (List (List Int))) (w : World) (e : Ending) (w' : World) : Prop := ∃ u, e = .returned u ∧ Gt w.heap.size w' u out ∧ Below w.heap.size w w'

theorem rowIs_zero (w : World) (c : Nat) : Gb w.heap.size (w.alloc (.cells (madeCells #[.int .i64 0] c) 2)) (.slice (some ⟨w.heap.size, 0, none⟩) c c) (List.replicate c 0) ∨ maxLen < c := by
  by_cases hc : c ≤ maxLen
  · exact Or.inl (gb_row (World.rowIs_made w (.int .i64 0) c 2) (by simp) (fun i hi => by simp) hc (Nat.le_refl _))
  · exact Or.inr (by omega)
theorem gb_zero (w : World) (c : Nat) (hc : c ≤ 1048576) : Gb w.heap.size (w.alloc (.cells (madeCells #[.int .i64 0] c) 2)) (.slice (some ⟨w.heap.size, 0, none⟩) c c) (List.replicate c 0) := by
  rcases rowIs_zero w c with h | h
  · exact h
  · unfold maxLen at h
    omega

end Go.Proofs.Ytiokagnolbddlaa
