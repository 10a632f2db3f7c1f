/-
  Pairs of basis vectors as keys of a map.
-/
import Derived.Test.YtpdkfidmmjlmnaaBas
import Derived.Test.YtpdkfidmmjlmnaaQd
namespace Go.Proofs.Ytpdkfidmmjlmnaa
open Go.RowKit

theorem mapM_pre {α β γ : Type} (f : α → β) (g : β → Option γ) : ∀ l : List α, l.mapM (fun x => g (f x)) = (l.map f).mapM g := by
  intro l
  induction l with
  | nil => rfl
  | cons x l ih => rw [List.mapM_cons, List.map_cons, List.mapM_cons, ih]
def fieldsOf (P : Program) (t : TypeId) : Array Field := match P.underlying t with | some (.struct fs) => fs | _ => #[]
theorem Try.underlyingBf : Try.prog.underlying 113 = some (.struct (fieldsOf Try.prog 113)) := by kernel_rfl
theorem Try.fieldsBf : (fieldsOf Try.prog 113).toList.map (fun f => (f.type, f.offset)) = [(2, 0), (2, 1)] := by kernel_rfl
theorem Try.namesBf : (fieldsOf Try.prog 113).all (fun f => f.name != "_") = true := by kernel_rfl
theorem Try.cellsBf : Try.prog.cellsOf 113 = 2 := by kernel_rfl
theorem Try.underlyingPr : Try.prog.underlying 115 = some (.array 2 113) := by kernel_rfl
theorem Try.cellsPr : Try.prog.cellsOf 115 = 4 := by kernel_rfl
theorem Try.keyTypePr : Try.prog.keyType 115 = true := by kernel_rfl
theorem Try.keyedPr : Maps.Keyed Try.prog 115 := Maps.Keyed.of_law (deep_law (P := Try.prog) (m := 3) (by omega) (by kernel_rfl) (by kernel_rfl) (by kernel_rfl))
theorem Try.typesPr : ∃ m, Try.prog.types.size = m + 3 := ⟨Try.prog.types.size - 3, by
  have : 3 ≤ Try.prog.types.size := of_decide_eq_true (by kernel_rfl)
  omega⟩
theorem keyLits_int {d : Nat} {x : Int} (h : (Lit.int .i64 x).wf = true) : Try.prog.keyLits (d + 1) 2 [.int .i64 x] = some [.int .i64 x] := by
  unfold Program.keyLits
  simp only [Try.underlying2]
  rw [if_pos ⟨trivial, h⟩]
theorem keyLits_bv {d : Nat} {x y : Int} (hx : (Lit.int .i64 x).wf = true) (hy : (Lit.int .i64 y).wf = true) : Try.prog.keyLits (d + 2) 113 [.int .i64 x, .int .i64 y] = some [.int .i64 x, .int .i64 y] := by
  unfold Program.keyLits
  simp only [Try.underlyingBf]
  rw [if_pos ⟨by rw [Try.cellsBf]; rfl, Try.namesBf⟩]
  have e := mapM_pre (fun f : Field => (f.type, f.offset)) (fun q => Try.prog.keyLits (d + 1) q.1 ((([.int .i64 x, .int .i64 y] : List Value).drop q.2).take (Try.prog.cellsOf q.1))) (fieldsOf Try.prog 113).toList
  rw [Try.fieldsBf] at e
  rw [e]
  have c1 : Try.prog.cellsOf 2 = 1 := by kernel_rfl
  simp only [List.mapM_cons, List.mapM_nil, c1, List.drop_zero, List.drop_succ_cons, List.take_succ_cons, List.take_zero, keyLits_int hx, keyLits_int hy]
  rfl
/-- A pair of basis vectors, its key's datum. -/
def pv (i a j c : Int) : Value := .agg #[.int .i64 i, .int .i64 a, .int .i64 j, .int .i64 c]
def keyP (i a j c : Int) : Lit := .string (keyBytes [.int .i64 i, .int .i64 a, .int .i64 j, .int .i64 c])
theorem keyOf_pv {i a j c : Int} (hi : (Lit.int .i64 i).wf = true) (ha : (Lit.int .i64 a).wf = true) (hj : (Lit.int .i64 j).wf = true) (hc : (Lit.int .i64 c).wf = true) : keyOf Try.prog 115 (pv i a j c) = some (keyP i a j c) := by
  obtain ⟨m, hm⟩ := Try.typesPr
  unfold keyOf pv
  simp only [Try.underlyingPr]
  rw [if_pos (by simp [Try.keyTypePr, Value.formed, Try.cellsPr]), hm]
  unfold Program.keyLits
  simp only [Try.underlyingPr, Value.cells]
  rw [if_pos (by rw [Try.cellsPr]; rfl)]
  have e2 : List.range 2 = [0, 1] := rfl
  simp only [e2, List.mapM_cons, List.mapM_nil, Try.cellsBf, Nat.zero_mul, Nat.one_mul, List.drop_zero, List.drop_succ_cons, List.take_succ_cons, List.take_zero, keyLits_bv hi ha, keyLits_bv hj hc]
  rfl
theorem keyP_inj {i a j c i' a' j' c' : Int} (hi : (Lit.int .i64 i).wf = true) (ha : (Lit.int .i64 a).wf = true) (hj : (Lit.int .i64 j).wf = true) (hc : (Lit.int .i64 c).wf = true) (hi' : (Lit.int .i64 i').wf = true) (ha' : (Lit.int .i64 a').wf = true) (hj' : (Lit.int .i64 j').wf = true) (hc' : (Lit.int .i64 c').wf = true)
    (h : keyP i a j c = keyP i' a' j' c') : i = i' ∧ a = a' ∧ j = j' ∧ c = c' := by
  have h1 := keyOf_pv hi ha hj hc
  have h2 := keyOf_pv hi' ha' hj' hc'
  rw [← h] at h2
  have h3 := Try.keyedPr.inj h1 h2
  unfold pv at h3
  injection h3 with h3
  have h4 := congrArg Array.toList h3
  simpa using h4
end Go.Proofs.Ytpdkfidmmjlmnaa
