/-
  The bottom in plain words; impl.bottomSpace by its contract.
-/
import Derived.Test.YtpdkfidmmjlmnaaDmg
namespace Go.Proofs.Ytpdkfidmmjlmnaa
open Go.RowKit

/-- Approximate cycles of the degree above, none beyond the degrees. -/
def UpP (p : Int) (ds : List Int) (ms : List (List (List Int))) (ls : List (List Int)) (k : Nat) (q q0 : Int) (R : List Lin.V) : Prop := (k < ds.length → SpF p (dimN ds (k : Int)) (ZcD p ds ms ls k q q0) R) ∧ (¬ k < ds.length → R = [])
def dimgs (p : Int) (ds : List Int) (ms : List (List (List Int))) (k : Nat) (R : List Lin.V) : List Lin.V := R.map (dimg p (dimN ds (k : Int)) (cycT ds ms k))
/-- The bottom. -/
def BotS (p : Int) (ds : List Int) (ms : List (List (List Int))) (ls : List (List Int)) (k : Nat) (r q : Int) (v : Lin.V) : Prop :=
  ∃ A R, SpF p (dimN ds (k : Int)) (ZcD p ds ms ls k (q - 1) (q - r)) A ∧ UpP p ds ms ls (k + 1) (q + r - 1) q R ∧ Lin.Sp p (A ++ dimgs p ds ms (k + 1) R) v
theorem UpP.unique {p : Int} {ds : List Int} {ms : List (List (List Int))} {ls : List (List Int)} {k : Nat} {q q0 : Int} {R R' : List Lin.V} (hp : 1 < p) (h : UpP p ds ms ls k q q0 R) (h' : UpP p ds ms ls k q q0 R') : R = R' := by
  by_cases hk : k < ds.length
  · exact (h.1 hk).unique' hp (h'.1 hk)
  · rw [h.2 hk, h'.2 hk]
theorem dimgs_md {p : Int} (hp : 0 < p) (ds : List Int) (ms : List (List (List Int))) (k : Nat) (R : List Lin.V) : ∀ u ∈ dimgs p ds ms k R, Lin.Md p u := fun u hu => by
  obtain ⟨y, _, rfl⟩ := List.mem_map.1 hu
  exact dimg_md hp _ _ _
theorem dimgs_wd {p : Int} {ds : List Int} {ms : List (List (List Int))} {ls : List (List Int)} (hcx : IsCx p ds ms) {k : Nat} {q q0 : Int} {R : List Lin.V} (h : UpP p ds ms ls (k + 1) q q0 R) : ∀ u ∈ dimgs p ds ms (k + 1) R, Lin.Wd (dimN ds (k : Int)) u := fun u hu => by
  obtain ⟨y, hy, rfl⟩ := List.mem_map.1 hu
  by_cases hk : k + 1 < ds.length
  · have hok := cyc_ok hcx hk
    have e : cycM ds (k + 1) = dimN ds (k : Int) := by simp [cycM]
    rw [e] at hok
    exact dimg_wd hok.1 hok.2.1 y
  · rw [h.2 hk] at hy
    cases hy
theorem UpP.short {p : Int} {ds : List Int} {ms : List (List (List Int))} {ls : List (List Int)} (hcx : IsCx p ds ms) {k : Nat} {q q0 : Int} {R : List Lin.V} (h : UpP p ds ms ls k q q0 R) : R.length ≤ 8 := by
  by_cases hk : k < ds.length
  · have := (h.1 hk).short
    have := (dimN_le8 hcx k).1
    omega
  · rw [h.2 hk]; simp
theorem botS_of {p : Int} {ds : List Int} {ms : List (List (List Int))} {ls : List (List Int)} (hcx : IsCx p ds ms) {k : Nat} {r q : Int} {A R E : List Lin.V} (hA : SpF p (dimN ds (k : Int)) (ZcD p ds ms ls k (q - 1) (q - r)) A) (hR : UpP p ds ms ls (k + 1) (q + r - 1) q R) (hE : Lin.Red p E) (he : Lin.Eqv p E (A ++ dimgs p ds ms (k + 1) R)) : SpF p (dimN ds (k : Int)) (BotS p ds ms ls k r q) E := by
  have hp := hcx.1.prime.lo1
  refine ⟨hE, fun u hu => Lin.Sp.wd (fun x hx => ?_) ((he u).1 (Lin.Sp.mem hu (hE.md u hu))), fun v => ?_⟩
  · rcases List.mem_append.1 hx with h | h
    · exact hA.2.1 x h
    · exact dimgs_wd hcx hR x h
  · rw [he v]
    exact ⟨fun h => ⟨A, R, hA, hR, h⟩, fun ⟨A', R', hA', hR', h⟩ => by rw [hA.unique' hp hA', hR.unique hp hR']; exact h⟩

end Go.Proofs.Ytpdkfidmmjlmnaa
