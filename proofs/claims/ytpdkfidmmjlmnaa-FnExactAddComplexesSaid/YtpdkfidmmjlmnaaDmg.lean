/-
  Differentials of vectors: impl.differentialsOf by its contract.
-/
import Derived.Test.YtpdkfidmmjlmnaaLim
import Derived.Test.YtpdkfidmmjlmnaaMeM
namespace Go.Proofs.Ytpdkfidmmjlmnaa
open Go.RowKit

/-- The differential of a vector, by the table. -/
def dimg (p : Int) (d : Nat) (t : List (List Int)) (u : Lin.V) : Lin.V := img p d (rowsV (t.map ofL)) u
theorem dimg_apT {p : Int} {d c : Nat} {t : List (List Int)} {u : Lin.V} (hp : IsP p) (htl : t.length = d) (htr : ∀ r ∈ t, RowOk p (c : Int) r) (hu : Lin.Md p u) : ApOk p c (toL d u) t ∧ apT p c (toL d u) t = toL c (dimg p d t u) := by
  have hrows : (t.map ofL).map (toL c) = t := rows_toL' (fun r hr => by have := (htr r hr).1; omega)
  have ok : ApOk p c (toL d u) t := ⟨hp, by rw [toL_length, htl]; exact Nat.le_refl _, fun x hx => by
    obtain ⟨i, _, rfl⟩ := List.mem_map.1 hx
    have := hu i
    omega, htr⟩
  refine ⟨ok, ?_⟩
  have h := apT_img (p := p) (n := c) (a := d) (E := t.map ofL) (s := u) (by rw [hrows]; exact ok) (by rw [List.length_map, htl])
  rw [hrows] at h
  exact h
theorem dimg_md {p : Int} (hp : 0 < p) (d : Nat) (t : List (List Int)) (u : Lin.V) : Lin.Md p (dimg p d t u) := img_md hp _ _ _
theorem dimg_wd {p : Int} {d c : Nat} {t : List (List Int)} (htl : t.length = d) (htr : ∀ r ∈ t, RowOk p (c : Int) r) (u : Lin.V) : Lin.Wd c (dimg p d t u) := fun j hj => by
  simp only [dimg, img]
  rw [Lin.dot_nil (fun i hi => by
    simp only [Lin.col]
    rw [rowsV_at (by rw [List.length_map, htl]; exact hi), List.getElem_map]
    have hr := htr _ (List.getElem_mem (show i < t.length by omega))
    have : ofL t[i] j = 0 := ofL_wd (n := c) (by have := hr.1; omega) j hj
    rw [this, Int.zero_mul])]
  rfl
theorem at_l1 {w : World} {b d : Nat} {u : Lin.V} (h : At w b 0 u) (hd : d ≤ 40) : L1 0 w (.slice (some ⟨b, 0, none⟩) d 40) (toL d u) := by
  by_cases h0 : d = 0
  · subst h0
    exact Or.inl ⟨rfl, _, _, rfl⟩
  · refine Or.inr ⟨b, 0, 40, by rw [toL_length], Nat.zero_le _, by rw [toL_length]; omega, fun k hk => ?_⟩
    have hk' : k < d := by rw [toL_length] at hk; exact hk
    exact ⟨_, h.cell (by omega), by rw [toL_get]; rfl⟩
theorem hidxVs (b : Nat) {k n : Nat} (cap : Nat) (hk : k < n) (w : World) : (Instr.indexAt 86 (.slice (some ⟨b, 0, none⟩) n cap) (.int .i64 k)).run Try.prog w = .ok (.pointer (some ⟨b, k * 40, none⟩)) w := by
  have h2 : (0 : Int) ≤ (k : Int) := by omega
  have h3 : (k : Int) < (n : Int) := by omega
  go_simp
section
variable {P : Program} {ops : Array Oper} {S : World → Prop}
theorem yieldsIf_slice {o : Oper} {a : Act} {x y : Operand} {u i v : Value} {t : TypeId} (hg : o.guard = none) (ho : o.op = .slice t x none (some y) none) (hx : a.eval x = u) (hy : a.eval y = i) (hrun : ∀ w, (Instr.sliceAt t u none (some i) none).run P w = .ok v w) : YieldsIf P ops S o v a :=
  Or.inl ⟨by unfold Region.wanted; rw [hg], fun w _ => by
    unfold execOp
    simp only [ho, Option.map_none, Option.map_some, hx, hy, Sem.run_bind, hrun w, Result.andThen_ok]
    rfl⟩
end

end Go.Proofs.Ytpdkfidmmjlmnaa
