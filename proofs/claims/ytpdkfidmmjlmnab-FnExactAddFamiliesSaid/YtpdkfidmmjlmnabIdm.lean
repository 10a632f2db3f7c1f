/-
  IdentityMap of both sides by contracts; impl.identityTable, spec.l04Unit.
-/
import Derived.Test.YtpdkfidmmjlmnabRw
import Derived.Test.YtpdkfidmmjlmnabGt
import Derived.Test.YtpdkfidmmjlmnabQc
namespace Go.Proofs.Ytpdkfidmmjlmnab
open Go.RowKit

def idT (n : Nat) : List (List Int) := tableOf n n fun j i => if i = j then 1 else 0
/-- What IdentityMap answers. -/
def idF (ds : List Int) : List (List (List Int)) := ds.map fun d => idT d.toNat
def IdFam (ds : List Int) (out : List (List (List Int))) : Prop := out = idF ds
theorem idF_length (ds : List Int) : (idF ds).length = ds.length := by simp [idF]
theorem idF_at (ds : List Int) {k : Nat} (h : k < ds.length) : (idF ds)[k]'(by rw [idF_length]; exact h) = idT (ds.getD k 0).toNat := by
  simp only [idF, List.getElem_map]
  rw [getD_of_lt _ h]
theorem idF_take (ds : List Int) {k : Nat} (h : k < ds.length) : idF (ds.take (k + 1)) = idF (ds.take k) ++ [idT (ds.getD k 0).toNat] := by
  simp only [idF]
  rw [List.take_succ_eq_append_getElem h, List.map_append, getD_of_lt _ h]
  rfl
open Classical in
noncomputable def isCode (p : Int) (ds : List Int) (ms : List (List (List Int))) : Int := if IsCx p ds ms then 0 else 1
theorem isCode_zero {p : Int} {ds : List Int} {ms : List (List (List Int))} (h : isCode p ds ms = 0) : IsCx p ds ms := Classical.byContradiction fun hn => by
  rw [isCode, if_neg hn] at h
  cases h
theorem idFam_bd {ds : List Int} {p : Int} {ms : List (List (List Int))} (h : IsCx p ds ms) {a : List (List (List Int))} (ha : IdFam ds a) : Bd3 1048576 a := by
  have h1 := h.1.len1
  rw [ha]
  refine ⟨by rw [idF_length]; omega, fun t ht => ?_⟩
  obtain ⟨d, hd, rfl⟩ := List.mem_map.1 ht
  have hd8 := h.1.dims d hd
  refine ⟨by simp [idT, tableOf]; omega, fun r hr => ?_⟩
  obtain ⟨j, _, rfl⟩ := List.mem_map.1 hr
  simp only [Bd1, List.length_map, List.length_range]
  omega

set_option maxHeartbeats 1600000 in
theorem identityTable_any (n : Nat) (w : World) (hn : n ≤ 1048576) : Calls Try.prog 184 #[.int .i64 n] w (MatR n n (fun j i => if i = j then 1 else 0) w) := by
  go_enter Try.func184, Try.ntmps184
  go_wp2_with fail
  refine (zeroTable_any n n _ hn hn).mono ?_
  rintro e w1 ⟨rfl, hm⟩
  have HM : Hid (Mat w w1 n n (fun j i => if j < 0 ∧ i = j then 1 else 0)) := Lib.hid (hm.congr (fun j _ i _ => by simp))
  clear hm
  go_wp2
  go_loopw [10] (fun i wr => ∃ (k : Nat), k ≤ n ∧ i = .int .i64 k ∧ Hid (Mat w wr n n (fun j i => if j < k ∧ i = j then 1 else 0))) (fun i _ => n - (intOf i).toNat)
  case atStart => exact ⟨0, Nat.zero_le _, rfl, HM⟩
  case round =>
    clear HM
    obtain ⟨k, hk, rfl, HM⟩ := hrel
    by_cases hlt : k < n
    · have htop := HM.out.top.cell hlt
      have hcel := (HM.out.rows k hlt).cell hlt
      have hfz := (HM.out.rows k hlt).frozen k
      have HS : Hid (Mat w (wr.setCell ⟨w.heap.size + 1 + k, k, none⟩ (.int .i64 1)) n n (fun j i => if j < k + 1 ∧ i = j then 1 else 0)) := Lib.hid ((HM.out.set hlt 1).congr (fun j _ i _ => by
        by_cases e : j = k ∧ i = k
        · rw [if_pos e, if_pos (by omega)]
        · rw [if_neg e]
          by_cases e2 : j < k ∧ i = j
          · rw [if_pos e2, if_pos (by omega)]
          · rw [if_neg e2, if_neg (by omega)]))
      clear HM
      go_wp2
      go_roundw
      case rel => exact ⟨k + 1, by omega, by go_num, HS⟩
      case measure => simp [intOf]; omega
    · have HS : Hid (Mat w wr n n (fun j i => if i = j then 1 else 0)) := Lib.hid (HM.out.congr (fun j hj i _ => by
        by_cases e : i = j
        · rw [if_pos ⟨by omega, e⟩, if_pos e]
        · rw [if_neg (fun h => e h.2), if_neg e]))
      clear HM
      go_wp2
      go_ret
      exact ⟨rfl, HS.out⟩

/-- Row i of the identity. -/
def unitRow (n i : Nat) : List Int := (List.range n).map fun j => if j = i then 1 else 0
theorem unitRow_length (n i : Nat) : (unitRow n i).length = n := by simp [unitRow]
theorem idT_rows (n : Nat) : (List.range n).map (unitRow n) = idT n := rfl
end Go.Proofs.Ytpdkfidmmjlmnab
