/-
  Slices of vectors that the call has gathered; impl.unitLines by its contract.
-/
import Derived.Test.YtlbalcckjokeiaaVm
import Derived.Great.BuildSlice
namespace Go.Proofs.Ytlbalcckjokeiaa
open Go.RowKit

/-- The cells of a list of vectors, one behind the other. -/
def cellsOf (L : List Lin.V) : List Value := L.flatMap vl
theorem cellsOf_length (L : List Lin.V) : (cellsOf L).length = L.length * 40 := by
  induction L with
  | nil => rfl
  | cons v L ih => rw [cellsOf, List.flatMap_cons, List.length_append, vl_length]; unfold cellsOf at ih; rw [ih, List.length_cons]; omega
theorem cellsOf_at {L : List Lin.V} : ∀ {k : Nat} (h : k < L.length) {j : Nat}, j < 40 → (cellsOf L)[k * 40 + j]? = some (.int .i64 (L[k] j)) := by
  induction L with
  | nil => intro k h; simp at h
  | cons v L ih =>
    intro k h j hj
    rw [cellsOf, List.flatMap_cons]
    cases k with
    | zero =>
      rw [List.getElem?_append_left (by rw [vl_length]; omega)]
      simp only [Nat.zero_mul, Nat.zero_add, List.getElem_cons_zero]
      exact vl_get v hj
    | succ k =>
      rw [List.getElem?_append_right (by rw [vl_length]; omega), vl_length, show (k + 1) * 40 + j - 40 = k * 40 + j by omega]
      simp only [List.getElem_cons_succ]
      exact ih (by simpa using h) hj
theorem cellsOf_append (L M : List Lin.V) : cellsOf (L ++ M) = cellsOf L ++ cellsOf M := by simp [cellsOf]
theorem cellsOf_one (v : Lin.V) : cellsOf [v] = vl v := by simp [cellsOf]
/-- A slice of vectors that the call has made, in blocks from base on. -/
def Ow (base : Nat) (w : World) (s : Value) (L : List Lin.V) : Prop := w.ownsRow base 107 40 s L.length (cellsOf L)
theorem Ow.nil (base : Nat) (w : World) : Ow base w (.slice none 0 0) [] := ⟨rfl, Or.inl ⟨rfl, rfl⟩⟩
theorem Ow.below {base : Nat} {w w' : World} {s : Value} {L : List Lin.V} (h : Ow base w s L) (hb : Below w.heap.size w w') : Ow base w' s L := owns_below h hb
theorem Ow.vs {base : Nat} {w : World} {s : Value} {L : List Lin.V} (h : Ow base w s L) : Vs base w s L := by
  obtain ⟨_, h2⟩ := h
  rcases h2 with ⟨hs, h0⟩ | ⟨g, cap, cur, hs, hg, hb, hn, _, hcur, ht⟩
  · exact Or.inl ⟨List.eq_nil_of_length_eq_zero h0, none, 0, by rw [hs]⟩
  · by_cases h0 : L.length = 0
    · exact Or.inl ⟨List.eq_nil_of_length_eq_zero h0, _, cap, by rw [hs, h0]⟩
    · refine Or.inr ⟨g, 0, cap, hs, hg, by omega, fun k hk j u hu => ?_⟩
      have hj : j < 40 := by have := (List.getElem?_eq_some_iff.1 hu).1; rwa [vl_length] at this
      rw [vl_get _ hj] at hu
      rw [cell_of_row _ _ _ _ _ _ hb, Nat.zero_add]
      have h1 := cellsOf_at hk hj
      rw [← ht, List.getElem?_take] at h1
      have h2 : k * 40 + j < L.length * 40 := by
        have : (k + 1) * 40 ≤ L.length * 40 := Nat.mul_le_mul_right 40 hk
        omega
      rw [if_pos h2] at h1
      rw [← hu, ← h1]
      simp
theorem Ow.shape {base : Nat} {w : World} {s : Value} {L : List Lin.V} (h : Ow base w s L) : ∃ ad cap, s = .slice ad L.length cap := h.vs.shape

theorem Try.infoVz : (Try.prog.info? 107).map (fun i => (i.zero, i.size, i.bytes)) = some (some (.agg zl.toArray), 40, 320) := by kernel_rfl
theorem Try.underlyingSV : Try.prog.underlying 69 = some (.slice 107) := by kernel_rfl

section
variable {ops : Array Oper} {rest : List Oper} {o : Oper} {a : Act} {w : World} {Q : Exit → Act → World → Prop}
/-- A slice of one vector, as append is handed it. -/
structure OneV (w W : World) (v : Lin.V) : Prop where
  below : Below w.heap.size w W
  size : W.heap.size = w.heap.size + 1
  at' : At W w.heap.size 0 v
  block : W.heap[w.heap.size]? = some (.cells (vl v).toArray 107)
set_option maxRecDepth 100000 in
theorem builtOne (v : Lin.V) : Try.prog.builtSlice 107 1 [(0, .agg (vl v).toArray)] = some (vl v).toArray := by kernel_rfl
theorem wpList_oneV (hg : o.guard = none) (dst : Option Tmp) (hdst : o.dst = dst) (x : Operand) (ho : o.op = .buildSlice 69 1 #[(0, x)]) (v : Lin.V) (hx : a.eval x = .agg (vl v).toArray)
    (h : ∀ W, OneV w W v → wpList Try.prog ops Q rest (a.put dst (.slice (some ⟨w.heap.size, 0, none⟩) 1 1)) W) : wpList Try.prog ops Q (o :: rest) a w :=
  Great.wpList_buildSliceTo hg 69 107 1 #[(0, x)] ho w.heap.size rfl dst hdst Try.underlyingSV (vl v).toArray (by
    have : (#[(0, x)].map fun (i, x) => (i, a.eval x)).toList = [(0, Value.agg (vl v).toArray)] := by simp [hx]
    rw [this]
    exact builtOne v) (h _ ⟨below_alloc1 _ _, by simp, at_alloc _ _ _, heap_alloc_new _ _⟩)
theorem wpList_appendV (hg : o.guard = none) (dst : Option Tmp) (hdst : o.dst = dst) (s x : Operand) (ho : o.op = .call { callee := .builtin .append, args := #[s, x], argTypes := #[69, 69] })
    (base : Nat) (sv : Value) (L : List Lin.V) (hs : a.eval s = sv) (hown : Ow base w sv L) (b : Nat) (c : Nat) (v : Lin.V) (hx : a.eval x = .slice (some ⟨b, 0, none⟩) 1 c) (hv : At w b 0 v) (hl : L.length ≤ 1048576) (hbase : base ≤ w.heap.size)
    (h : ∀ s' w', Ow base w' s' (L ++ [v]) → w.grownBy w' sv.ownBlock → wpList Try.prog ops Q rest (a.put dst s') w') : wpList Try.prog ops Q (o :: rest) a w := by
  obtain ⟨i0, hi, hz0, hz1, hz2⟩ := info_parts Try.infoVz
  subst hdst
  refine wpList_append_own w hg s x 69 ho base 107 i0 (.agg zl.toArray) 40 320 Try.underlyingSV hi hz0 hz1 hz2 (by simp [Value.cells, zl_length]) (by omega) sv L.length (cellsOf L) hs hown ⟨b, 0, none⟩ 1 c (vl v) hx (by rw [vl_length])
    (fun j u hu => by rw [Addr.add_mid]; exact hv j u hu) (vl_one v) (by unfold maxLen; omega) (by omega) hbase (fun s' w' h1 h2 _ => h s' w' ?_ h2)
  unfold Ow
  rw [cellsOf_append, cellsOf_one, List.length_append]
  exact h1
set_option maxRecDepth 100000 in
theorem buildZ_run (ρ : Operand → Value) (o : Oper) (w : World) : (execOp ρ { o with op := .build 107 #[] }).run Try.prog w = .ok (.value (.agg (vl Lin.zv).toArray)) w := by kernel_rfl
theorem wpList_buildZ (hg : o.guard = none) (dst : Option Tmp) (hdst : o.dst = dst) (ho : o.op = .build 107 #[]) (h : wpList Try.prog ops Q rest (a.put dst (.agg (vl Lin.zv).toArray)) w) : wpList Try.prog ops Q (o :: rest) a w := by
  refine Great.wpList_runTo hg dst hdst _ _ ?_ h
  have := buildZ_run a.eval o w
  rw [← ho] at this
  exact this
end
theorem heq_run (v : Lin.V) (w : World) : (binOp .eql 107 (.agg (vl v).toArray) (.agg (vl Lin.zv).toArray)).run Try.prog w = .ok (.bool (decide (toL 40 v = toL 40 Lin.zv))) w :=
  run_eql_ints w (toL 40 v) (toL 40 Lin.zv) Try.underlyingV Try.underlying2 Try.infoI1 (toL_length _ _) (toL_length _ _)
theorem heq_yes (w : World) : (binOp .eql 107 (.agg (vl Lin.zv).toArray) (.agg (vl Lin.zv).toArray)).run Try.prog w = .ok (.bool true) w := by rw [heq_run, decide_eq_true rfl]
theorem heq_no {v : Lin.V} (hw : Lin.Wd 40 v) (hne : v ≠ Lin.zv) (w : World) : (binOp .eql 107 (.agg (vl v).toArray) (.agg (vl Lin.zv).toArray)).run Try.prog w = .ok (.bool false) w := by
  rw [heq_run, decide_eq_false (fun e => hne (toL_inj hw (Lin.zv_wd 40) e))]
end Go.Proofs.Ytlbalcckjokeiaa
