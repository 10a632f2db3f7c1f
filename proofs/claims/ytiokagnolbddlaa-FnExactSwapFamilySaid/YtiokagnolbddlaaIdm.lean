/-
  IdentityMap of both sides by contracts; impl.identityTable, spec.l04Unit.
-/
import Derived.Test.YtiokagnolbddlaaRw
import Derived.Test.YtiokagnolbddlaaGt
import Derived.Test.YtiokagnolbddlaaQc
namespace Go.Proofs.Ytiokagnolbddlaa
open Go.RowKit

def idT (n : Nat) : List (List Int) := tableOf n n fun j i => if i = j then 1 else 0
/-- What IdentityMap answers. -/
def idF (ds : List Int) : List (List (List Int)) := ds.map fun d => idT d.toNat
def IdFam (ds : List Int) (out : List (List (List Int))) : Prop := out = idF ds
theorem idF_length (ds : List Int) : (idF ds).length = ds.length := by simp [idF]
theorem idF_at (ds : List Int) {k : Nat} (h : k < ds.length) : (idF ds)[k]'(by rw [idF_length]; exact h) = idT (ds.getD k 0).toNat := by
  simp only [idF, List.getElem_map]
  rw [getD_of_lt _ h]
theorem idF_take (ds : List Int) {k : Nat} (h : k < ds.length) : idF (ds.take (k + 1)) = idF (ds.take k) ++ [idT (ds.getD k 0).toNat] := by
  simp only [idF]
  rw [List.take_succ_eq_append_getElem h, List.map_append, getD_of_lt _ h]
  rfl
open Classical in
noncomputable def isCode (p : Int) (ds : List Int) (ms : List (List (List Int))) : Int := if IsCx p ds ms then 0 else 1
theorem isCode_zero {p : Int} {ds : List Int} {ms : List (List (List Int))} (h : isCode p ds ms = 0) : IsCx p ds ms := Classical.byContradiction fun hn => by
  rw [isCode, if_neg hn] at h
  cases h
theorem idFam_bd {ds : List Int} {p : Int} {ms : List (List (List Int))} (h : IsCx p ds ms) {a : List (List (List Int))} (ha : IdFam ds a) : Bd3 1048576 a := by
  have h1 := h.1.len1
  rw [ha]
  refine ⟨by rw [idF_length]; omega, fun t ht => ?_⟩
  obtain ⟨d, hd, rfl⟩ := List.mem_map.1 ht
  have hd8 := h.1.dims d hd
  refine ⟨by simp [idT, tableOf]; omega, fun r hr => ?_⟩
  obtain ⟨j, _, rfl⟩ := List.mem_map.1 hr
  simp only [Bd1, List.length_map, List.length_range]
  omega

/-- Row i of the identity. -/
def unitRow (n i : Nat) : List Int := (List.range n).map fun j => if j = i then 1 else 0
theorem unitRow_length (n i : Nat) : (unitRow n i).length = n := by simp [unitRow]
theorem idT_rows (n : Nat) : (List.range n).map (unitRow n) = idT n := rfl
set_option maxHeartbeats 800000 in
theorem l04Unit_any (n i : Nat) (w : World) (hn : n ≤ 1048576) (hi : i < n) : Calls Try.prog 169 #[.int .i64 n, .int .i64 i] w (GbR (unitRow n i) w) := by
  have hmk := run_make_row' (P := Try.prog) 22 2 (.int .i64 0) 8 Try.underlying22 Try.infoI rfl .i64 .i64 n (by omega) (by omega)
  have hc : (madeCells #[Value.int .i64 0] n)[i]? = some (.int .i64 0) := by simp [madeCells, hi, Nat.mod_one]
  go_enter Try.func169, Try.ntmps169
  go_wp2
  go_ret
  refine ⟨_, rfl, gb_row (unit_row w hi) (unitRow_length n i) (fun j hj => ?_) (by unfold maxLen; omega) (Nat.le_refl _), below_alloc1 _ _⟩
  simp only [unitRow, List.getElem_map, List.getElem_range, unitV]

end Go.Proofs.Ytiokagnolbddlaa
