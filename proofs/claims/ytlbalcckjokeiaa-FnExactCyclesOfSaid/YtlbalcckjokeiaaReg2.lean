/-
  More steps of a region that draws its order: arithmetic, a slice of one new value, append, assign.
-/
import Derived.Test.YtlbalcckjokeiaaReg
import Derived.Test.YtlbalcckjokeiaaTo
import Derived.Great.BuildSlice
import Derived.Laws.AppendOwn
namespace Go.Proofs.Ytlbalcckjokeiaa
open Go.RowKit

section
variable {P : Program} {md : Region.Mode} {ops : Array Oper} {Q : Exit → Act → World → Prop} {S : World → Prop}
theorem yieldsIf_bin {o : Oper} {a : Act} {x y : Operand} {v u i : Value} {b : BinOp} {t t' : TypeId} (hg : o.guard = none) (ho : o.op = .binOp b t x y t') (hx : a.eval x = u) (hy : a.eval y = i) (hge : ∀ w, (eqGuard b t x y u i).run P w = .ok () w) (hrun : ∀ w, (binOp b t u i).run P w = .ok v w) : YieldsIf P ops S o v a :=
  Or.inl ⟨by unfold Region.wanted; rw [hg], fun w _ => by
    unfold execOp
    simp only [ho, hx, hy, Sem.run_bind, hge w, hrun w, Result.andThen_ok]
    rfl⟩
theorem yieldsIf_run {o : Oper} {a : Act} {v : Value} (hg : o.guard = none) (hrun : ∀ w, S w → (execOp a.eval o).run P w = .ok (.value v) w) : YieldsIf P ops S o v a :=
  Or.inl ⟨by unfold Region.wanted; rw [hg], hrun⟩
theorem yieldsIf_assign {o : Oper} {a : Act} {x : Operand} {v : Value} (hg : o.guard = none) (ho : o.op = .assign x) (hx : a.eval x = v) : YieldsIf P ops S o v a :=
  Or.inl ⟨by unfold Region.wanted; rw [hg], fun w _ => by
    unfold execOp
    simp only [ho, hx]
    rfl⟩
end
section
variable {md : Region.Mode} {ops : Array Oper} {Q : Exit → Act → World → Prop} {S : World → Prop}
/-- A slice of one new number. -/
theorem held_buildI {i : Nat} {oi : Oper} {fuel : Nat} {listed : Array Bool} {a : Act} {w : World} (d : Option Tmp) (hr : Region.ready md ops listed = [i]) (hi : ops[i]? = some oi) (hg : oi.guard = none) (hd : oi.dst = d)
    (x : Operand) (n : Int) (ho : oi.op = .buildSlice 31 1 #[(0, x)]) (hx : a.eval x = .int .i64 n)
    (h : S (w.alloc (.cells #[.int .i64 n] 2)) ∧ wpAnyH Try.prog md ops Q S fuel (listed.setIfInBounds i true) (a.put d (.slice (some ⟨w.heap.size, 0, none⟩) 1 1)) (w.alloc (.cells #[.int .i64 n] 2))) : wpAnyH Try.prog md ops Q S (fuel + 1) listed a w := by
  obtain ⟨ie, hie, hz, h1, _⟩ := info_parts Try.infoI
  subst hd
  refine held_call hr hi hg (wp_buildSlice 31 2 1 #[(0, x)] ho #[.int .i64 n] ie _ Try.underlying31 hie hz (by rw [h1]; decide) (by rw [h1]; decide) ?_ h)
  simp only [h1, List.map_toArray, List.map_cons, List.map_nil, hx]
  first | kernel_rfl | simp [Instr.fill]
/-- A slice of one new row. -/
theorem held_buildS {i : Nat} {oi : Oper} {fuel : Nat} {listed : Array Bool} {a : Act} {w : World} (d : Option Tmp) (hr : Region.ready md ops listed = [i]) (hi : ops[i]? = some oi) (hg : oi.guard = none) (hd : oi.dst = d)
    (x : Operand) (ad : Option Addr) (n c : Nat) (ho : oi.op = .buildSlice 22 1 #[(0, x)]) (hx : a.eval x = .slice ad n c)
    (h : S (w.alloc (.cells #[.slice ad n c] 31)) ∧ wpAnyH Try.prog md ops Q S fuel (listed.setIfInBounds i true) (a.put d (.slice (some ⟨w.heap.size, 0, none⟩) 1 1)) (w.alloc (.cells #[.slice ad n c] 31))) : wpAnyH Try.prog md ops Q S (fuel + 1) listed a w := by
  obtain ⟨ie, hie, hz, h1, _⟩ := info_parts Try.infoS
  subst hd
  refine held_call hr hi hg (wp_buildSlice 22 31 1 #[(0, x)] ho #[.slice ad n c] ie _ Try.underlying22 hie hz (by rw [h1]; decide) (by rw [h1]; decide) ?_ h)
  simp only [h1, List.map_toArray, List.map_cons, List.map_nil, hx]
  first | kernel_rfl | simp [Instr.fill]
/-- append of one number. -/
theorem held_appendI {i : Nat} {oi : Oper} {fuel : Nat} {listed : Array Bool} {a : Act} {w : World} (d : Option Tmp) (hr : Region.ready md ops listed = [i]) (hi : ops[i]? = some oi) (hg : oi.guard = none) (hd : oi.dst = d)
    (s x : Operand) (ho : oi.op = .call { callee := .builtin .append, args := #[s, x], argTypes := #[31, 31] }) (base : Nat) (v : Value) (n : Nat) (xs : List Value) (hs : a.eval s = v) (hown : w.ownsRow base 2 1 v n xs)
    (b : Nat) (y : Int) (hx : a.eval x = .slice (some ⟨b, 0, none⟩) 1 1) (hc : w.cell? ⟨b, 0, none⟩ = some (.int .i64 y)) (hn : n ≤ 2097152) (hb : base ≤ w.heap.size)
    (h : ∀ v' w', w'.ownsRow base 2 1 v' (n + 1) (xs ++ [.int .i64 y]) → w.grownBy w' v.ownBlock → S w' ∧ wpAnyH Try.prog md ops Q S fuel (listed.setIfInBounds i true) (a.put d v') w') : wpAnyH Try.prog md ops Q S (fuel + 1) listed a w := by
  obtain ⟨ie, hie, hz, h1, h2⟩ := info_parts Try.infoI
  subst hd
  refine held_call hr hi hg (wp_append_own w s x 31 ho base 2 ie _ 1 8 Try.underlying31 hie hz h1 h2 rfl (by decide) v n xs hs hown ⟨b, 0, none⟩ 1 1 [.int .i64 y] hx rfl ?_ ?_ (by unfold maxLen; omega) (by omega) hb (fun v' w' h2 h3 _ => h v' w' h2 h3))
  · intro j u hj
    match j, hj with
    | 0, hj =>
      simp at hj
      subst hj
      exact hc
  · intro u hu
    simp at hu
    subst hu
    rfl
/-- append of one row. -/
theorem held_appendS {i : Nat} {oi : Oper} {fuel : Nat} {listed : Array Bool} {a : Act} {w : World} (d : Option Tmp) (hr : Region.ready md ops listed = [i]) (hi : ops[i]? = some oi) (hg : oi.guard = none) (hd : oi.dst = d)
    (s x : Operand) (ho : oi.op = .call { callee := .builtin .append, args := #[s, x], argTypes := #[22, 22] }) (base : Nat) (v : Value) (n : Nat) (xs : List Value) (hs : a.eval s = v) (hown : w.ownsRow base 31 1 v n xs)
    (b : Nat) (ad : Option Addr) (m c : Nat) (hx : a.eval x = .slice (some ⟨b, 0, none⟩) 1 1) (hc : w.cell? ⟨b, 0, none⟩ = some (.slice ad m c)) (hn : n ≤ 2097152) (hb : base ≤ w.heap.size)
    (h : ∀ v' w', w'.ownsRow base 31 1 v' (n + 1) (xs ++ [.slice ad m c]) → w.grownBy w' v.ownBlock → S w' ∧ wpAnyH Try.prog md ops Q S fuel (listed.setIfInBounds i true) (a.put d v') w') : wpAnyH Try.prog md ops Q S (fuel + 1) listed a w := by
  obtain ⟨ie, hie, hz, h1, h2⟩ := info_parts Try.infoS
  subst hd
  refine held_call hr hi hg (wp_append_own w s x 22 ho base 31 ie _ 1 24 Try.underlying22 hie hz h1 h2 rfl (by decide) v n xs hs hown ⟨b, 0, none⟩ 1 1 [.slice ad m c] hx rfl ?_ ?_ (by unfold maxLen; omega) (by omega) hb (fun v' w' h2 h3 _ => h v' w' h2 h3))
  · intro j u hj
    match j, hj with
    | 0, hj =>
      simp at hj
      subst hj
      exact hc
  · intro u hu
    simp at hu
    subst hu
    rfl
end
theorem hmulI {a b : Int} (h0 : -1000 ≤ a * b) (h1 : a * b ≤ 1000) (w : World) : (binOp .mul 2 (.int .i64 a) (.int .i64 b)).run Try.prog w = .ok (.int .i64 (a * b)) w := by
  have hw : IntKind.i64.wrap (a * b) = a * b := IntWalk.i64_in _ (by omega)
  go_simp
theorem hsubI {a b : Int} (h0 : -1000 ≤ a - b) (h1 : a - b ≤ 1000) (w : World) : (binOp .sub 2 (.int .i64 a) (.int .i64 b)).run Try.prog w = .ok (.int .i64 (a - b)) w := by
  have hw : IntKind.i64.wrap (a - b) = a - b := IntWalk.i64_in _ (by omega)
  go_simp
theorem cell_alloc1 (w : World) (v : Value) (t : TypeId) : (w.alloc (.cells #[v] t)).cell? ⟨w.heap.size, 0, none⟩ = some v := by
  unfold World.cell?
  rw [heap_alloc_new w (.cells #[v] t)]
  rfl
theorem hidxI (b o : Nat) {k n : Nat} (cap : Nat) (hk : k < n) (w : World) : (Instr.indexAt 31 (.slice (some ⟨b, o, none⟩) n cap) (.int .i64 k)).run Try.prog w = .ok (.pointer (some ⟨b, o + k, none⟩)) w := by
  have h2 : (0 : Int) ≤ (k : Int) := by omega
  have h3 : (k : Int) < (n : Int) := by omega
  go_simp
theorem hidxS (b o : Nat) {k n : Nat} (cap : Nat) (hk : k < n) (w : World) : (Instr.indexAt 22 (.slice (some ⟨b, o, none⟩) n cap) (.int .i64 k)).run Try.prog w = .ok (.pointer (some ⟨b, o + k, none⟩)) w := by
  have h2 : (0 : Int) ≤ (k : Int) := by omega
  have h3 : (k : Int) < (n : Int) := by omega
  go_simp
theorem hloadS (w : World) {b o : Nat} {x : Value} (h : w.cell? ⟨b, o, none⟩ = some x) : (Instr.loadAt 31 (.pointer (some ⟨b, o, none⟩))).run Try.prog w = .ok x w := by go_simp
end Go.Proofs.Ytlbalcckjokeiaa
