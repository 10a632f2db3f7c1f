/-
  A region that draws its order, whose last operation waits for all others and may write what they read: what holds of the world is asked ahead of the last one alone. Nothing of the program is named here.
-/
import Derived.OrdersHeld
import Derived.Deep.MidRow
import Derived.Deep.RegionHeld3
import Derived.WalkKit
namespace Go.Proofs.Ytlbalcckjokeiaa
open Go.RowKit

section
variable {P : Program} {ops : Array Oper} {Q : Exit → Act → World → Prop} {md : Region.Mode} {S : World → Prop} {n : Nat}

/-- The last operation, taken out: it waits as it did and does nothing. -/
def calmOp (o : Oper) : Oper := { o with op := .move (.const (.bool false)), dst := none }
/-- What is owed where all others have come up: the last one. -/
def lastQ (P : Program) (ops : Array Oper) (n : Nat) (Q : Exit → Act → World → Prop) : Exit → Act → World → Prop
  | .normal, a, w => wpOp P ops Q n (fun a' w' => Q .normal a' w') a w
  | e, a, w => Q e a w
structure LastOk (md : Region.Mode) (ops : Array Oper) (n : Nat) (on : Oper) : Prop where
  at' : ops[n]? = some on
  size : n + 1 = ops.size
  guard : ∀ (j : Nat) (oj : Oper), ops[j]? = some oj → oj.guard = none
  ord : ∀ (j : Nat) (oj : Oper), ops[j]? = some oj → ∀ e : Edge, e ∈ oj.after → e.on < j
  last : ∀ j, j < n → ∃ e : Edge, e ∈ on.after ∧ Region.binds md e = true ∧ e.on = j

theorem calm_get {on : Oper} (h : LastOk md ops n on) (i : Nat) : (ops.setIfInBounds n (calmOp on))[i]? = if i = n then some (calmOp on) else ops[i]? := by
  have := h.size
  by_cases e : i = n
  · subst e
    rw [if_pos rfl, Array.getElem?_setIfInBounds_self_of_lt (by omega)]
  · rw [if_neg e, Array.getElem?_setIfInBounds_ne (fun h => e h.symm)]
theorem calm_ready {on : Oper} (h : LastOk md ops n on) (listed : Array Bool) : Region.ready md (ops.setIfInBounds n (calmOp on)) listed = Region.ready md ops listed := by
  unfold Region.ready
  rw [Array.size_setIfInBounds]
  refine List.filter_congr fun i _ => ?_
  rw [calm_get h]
  by_cases e : i = n
  · subst e
    rw [if_pos rfl, h.at']
    rfl
  · rw [if_neg e]
theorem getD_same {listed : Array Bool} {i : Nat} (h : i < listed.size) (x y : Bool) : listed.getD i x = listed.getD i y := by simp [h]
theorem least_unlisted {listed : Array Bool} : ∀ k, listed.getD k true = false → ∃ m, m ≤ k ∧ listed.getD m true = false ∧ ∀ j, j < m → listed.getD j true = true := by
  intro k
  induction k using Nat.strongRecOn with
  | ind k ih =>
    intro hk
    by_cases hx : ∃ j, j < k ∧ listed.getD j true = false
    · obtain ⟨j, hj, h0⟩ := hx
      obtain ⟨m, h1, h2⟩ := ih j hj h0
      exact ⟨m, by omega, h2⟩
    · exact ⟨k, Nat.le_refl _, hk, fun j hj => by
        cases hb : listed.getD j true with
        | true => rfl
        | false => exact absurd ⟨j, hj, hb⟩ hx⟩
theorem ready_some {on : Oper} (h : LastOk md ops n on) {listed : Array Bool} (hs : listed.size = ops.size) (hn : listed.getD n true = false) : Region.ready md ops listed ≠ [] := by
  obtain ⟨m, hm, h0, h1⟩ := least_unlisted n hn
  have hlt : m < ops.size := by have := h.size; omega
  intro e
  have : m ∈ Region.ready md ops listed := mem_ready.2 ⟨h0, ops[m], Array.getElem?_eq_getElem hlt, fun x hx _ => by
    have hx2 := h.ord m ops[m] (Array.getElem?_eq_getElem hlt) x hx
    rw [getD_same (by omega) false true]
    exact h1 _ hx2⟩
  rw [e] at this
  cases this
theorem last_ready {on : Oper} (h : LastOk md ops n on) {listed : Array Bool} (hs : listed.size = ops.size) (hr : n ∈ Region.ready md ops listed) : ∀ j, j < ops.size → (listed.setIfInBounds n true).getD j true = true := by
  intro j hj
  by_cases e : j = n
  · subst e
    simp [hs, hj]
  · obtain ⟨x, hx, hb, he⟩ := h.last j (by have := h.size; omega)
    obtain ⟨_, oj, hoj, hall⟩ := mem_ready.1 hr
    rw [h.at'] at hoj
    injection hoj with hoj
    subst hoj
    have h2 := hall x hx hb
    rw [he] at h2
    rw [getD_set_ne true (fun h => e h.symm), getD_same (by omega) true false]
    exact h2
theorem ready_none {listed : Array Bool} (hall : ∀ j, j < ops.size → listed.getD j true = true) : Region.ready md ops listed = [] := by
  refine List.eq_nil_iff_forall_not_mem.2 fun i hi => ?_
  obtain ⟨h0, oj, hoj, _⟩ := mem_ready.1 hi
  have := hall i (Array.getElem?_eq_some_iff.1 hoj).1
  rw [this] at h0
  cases h0
theorem wp_of_last {o : Oper} {a : Act} {w : World} {K K' : Act → World → Prop} (h : ∀ a w, K a w → K' a w) (hh : o.wp P a w K (lastQ P ops n Q)) : o.wp P a w K' Q := by
  unfold Oper.wp at *
  generalize (execOp a.eval o).run P w = r at *
  cases r with
  | ok x w' =>
    cases x <;> simp only [Oper.upon] at hh ⊢ <;>
      first
        | exact h _ _ hh
        | exact Calls.mono hh (fun e w'' he => by cases e <;> first | exact h _ _ he | exact he)
        | exact Rows.mono hh (fun _ _ he => h _ _ he)
  | halt x w' => cases x <;> simp only [Oper.upon] at hh ⊢ <;> exact hh
theorem held_normal {Q' : Exit → Act → World → Prop} {ops' : Array Oper} {listed : Array Bool} {a : Act} {w : World} (hr : Region.ready md ops' listed = []) : ∀ fuel, wpAnyH P md ops' Q' S fuel listed a w → Q' .normal a w
  | 0, h => h.2
  | _ + 1, h => h.1 hr

theorem any_of_calm {on : Oper} (h : LastOk md ops n on) : ∀ (fuel : Nat) (listed : Array Bool) (a : Act) (w : World), listed.size = ops.size → listed.getD n true = false →
    wpAnyH P md (ops.setIfInBounds n (calmOp on)) (lastQ P ops n Q) S fuel listed a w → wpAny P md ops Q fuel listed a w := by
  intro fuel
  induction fuel with
  | zero =>
    intro listed a w hs hn hh
    have h0 := hh.1
    rw [calm_ready h] at h0
    exact absurd h0 (ready_some h hs hn)
  | succ fuel ih =>
    intro listed a w hs hn hh
    have hne := ready_some h hs hn
    refine ⟨fun e => absurd e hne, fun i hi => ?_⟩
    have h1 := hh.2 i (by rw [calm_ready h]; exact hi)
    obtain ⟨hi0, oi, hoi, _⟩ := mem_ready.1 hi
    have hw : ∀ (o : Oper) (f : Nat → Option Bool), o.guard = none → Region.wanted o f = true := fun o f hg => by unfold Region.wanted; rw [hg]
    by_cases e : i = n
    · subst e
      have hall := last_ready h hs hi
      unfold wpOp at h1
      rw [calm_get h, if_pos rfl] at h1
      have hg : (calmOp on).guard = none := h.guard i on h.at'
      simp only [hw _ _ hg, if_true] at h1
      have h2 : S w ∧ wpAnyH P md (ops.setIfInBounds i (calmOp on)) (lastQ P ops i Q) S fuel (listed.setIfInBounds i true) a w := by
        rcases h1 with h1 | h1
        · exact h1
        · exact absurd h1.1.1 (by
            have : (execOp a.eval (calmOp on)).runT P w #[] = (.ok (.value (.bool false)) w, #[]) := rfl
            rw [this]
            exact Array.not_mem_empty _)
      have h3 := held_normal (by rw [calm_ready h]; exact ready_none hall) _ h2.2
      exact wpOp_mono (fun a' w' hq => wpAny_done (ready_none hall) hq _) h3
    · unfold wpOp at h1 ⊢
      rw [calm_get h, if_neg e, hoi] at h1
      rw [hoi]
      have hg := h.guard _ _ hoi
      simp only [hw _ _ hg, if_true] at h1 ⊢
      refine h1.imp (wp_of_last fun a' w' hk => ih _ _ _ (by simpa using hs) ?_ hk.2) (fun hx => ⟨hx.1, hx.2⟩)
      rw [getD_set_ne true e]
      exact hn

/-- The conditions as one Bool. -/
def lastB (md : Region.Mode) (ops : Array Oper) (n : Nat) : Bool :=
  decide (n + 1 = ops.size) && (List.range ops.size).all (fun j => match ops[j]? with | some o => o.guard.isNone && o.after.all (fun e => decide (e.on < j)) | none => true) &&
  (match ops[n]? with | some o => (List.range n).all (fun j => o.after.any fun e => Region.binds md e && decide (e.on = j)) | none => false)
theorem lastB_ok {on : Oper} (hn : ops[n]? = some on) (h : lastB md ops n = true) : LastOk md ops n on := by
  unfold lastB at h
  rw [hn] at h
  simp only [Bool.and_eq_true, decide_eq_true_eq, List.all_eq_true, List.mem_range] at h
  obtain ⟨⟨h1, h2⟩, h3⟩ := h
  have key : ∀ (j : Nat) (oj : Oper), ops[j]? = some oj → oj.guard = none ∧ ∀ e : Edge, e ∈ oj.after → e.on < j := fun j oj hj => by
    have := h2 j (Array.getElem?_eq_some_iff.1 hj).1
    rw [hj] at this
    simp only [Bool.and_eq_true] at this
    refine ⟨Option.isNone_iff_eq_none.1 this.1, fun e he => ?_⟩
    have h5 := Array.all_eq_true_iff_forall_mem.1 this.2 e he
    exact of_decide_eq_true h5
  refine ⟨hn, h1, fun j oj hj => (key j oj hj).1, fun j oj hj => (key j oj hj).2, fun j hj => ?_⟩
  obtain ⟨i, hi, h6⟩ := Array.any_eq_true.1 (h3 j hj)
  obtain ⟨e, he⟩ : ∃ e, e = on.after[i] := ⟨_, rfl⟩
  rw [← he] at h6
  have he : e ∈ on.after := he ▸ Array.getElem_mem hi
  rw [Bool.and_eq_true] at h6
  exact ⟨e, he, h6.1, of_decide_eq_true h6.2⟩
/-- The region: all but the last in whatever order under S, then the last. -/
theorem wp_region_last {id : Nat} {a : Act} {w : World} {on : Oper} (S : World → Prop) (n : Nat) (hm : P.follows .mixedOrders = true) (hn : ops[n]? = some on) (hB : lastB .any ops n = true)
    (h : wpAnyH P .any (ops.setIfInBounds n (calmOp on)) (lastQ P ops n Q) S ops.size (Array.replicate ops.size false) a w.drew) : (Code.region id ops true).wp P Q a w := by
  have hl := lastB_ok hn hB
  refine wp_region_any hm (any_of_calm (S := S) hl _ _ _ _ (by simp) ?_ h)
  have := hl.size
  have hlt : n < ops.size := by omega
  simp [hlt]

/-- One call alone may come up. -/
theorem held_call {i : Nat} {oi : Oper} {fuel : Nat} {listed : Array Bool} {a : Act} {w : World} (hr : Region.ready md ops listed = [i]) (hi : ops[i]? = some oi) (hg : oi.guard = none)
    (h : oi.wp P a w (fun a' w' => S w' ∧ wpAnyH P md ops Q S fuel (listed.setIfInBounds i true) a' w') Q) : wpAnyH P md ops Q S (fuel + 1) listed a w :=
  wpAnyH_all hr (by simp) (fun j hj => by
    obtain rfl := List.mem_singleton.1 hj
    unfold wpOp
    rw [hi]
    have hw : Region.wanted oi (yielded ops a.tmps) = true := by unfold Region.wanted; rw [hg]
    simp only [hw, if_true]
    exact Or.inl h)
theorem wp_enter {o : Oper} {a : Act} {w : World} {K : Act → World → Prop} {f : FuncId} {args : Array Value} (h : (execOp a.eval o).run P w = .ok (.enter f args) w) {R : Ending → World → Prop} (hc : Calls P f args w R) (hR : ∀ v w', R (.returned v) w' → K (a.put o.dst v) w') (h2 : ∀ c w', ¬ R (.panicked c) w') (h3 : ∀ w', ¬ R .outgrown w') : o.wp P a w K Q := by
  unfold Oper.wp
  rw [h]
  refine hc.mono fun e w' he => ?_
  cases e with
  | returned v => exact hR v w' he
  | panicked c => exact absurd he (h2 c w')
  | outgrown => exact absurd he (h3 w')
theorem held_take {i : Nat} {oi : Oper} {v : Value} {fuel : Nat} {listed : Array Bool} {a : Act} {w : World} (d : Option Tmp) (hi : ops[i]? = some oi) (hd : oi.dst = d)
    (hs : Region.noSelect ops = true) (hf : Region.free md ops listed i = true) (hr : (Region.ready md ops listed).contains i = true)
    (hQ : ∀ c a w, Q (.panic c) (a.put oi.dst v) w → Q (.panic c) a w) (hy : YieldsIf P ops S oi v a) (hS : S w)
    (h : wpAnyH P md ops Q S fuel (listed.setIfInBounds i true) (a.put d v) w) : wpAnyH P md ops Q S (fuel + 1) listed a w :=
  wpAnyH_take hi hs hf hr hQ hy hS (by rw [hd]; exact h)
theorem held_enter {i : Nat} {oi : Oper} {fuel : Nat} {listed : Array Bool} {a : Act} {w : World} (d : Option Tmp) {f : FuncId} {args : Array Value} (hr : Region.ready md ops listed = [i]) (hi : ops[i]? = some oi) (hg : oi.guard = none) (hd : oi.dst = d)
    (h : (execOp a.eval oi).run P w = .ok (.enter f args) w) {R : Ending → World → Prop} (hc : Calls P f args w R) (hR : ∀ v w', R (.returned v) w' → S w' ∧ wpAnyH P md ops Q S fuel (listed.setIfInBounds i true) (a.put d v) w') (h2 : ∀ c w', ¬ R (.panicked c) w') (h3 : ∀ w', ¬ R .outgrown w') : wpAnyH P md ops Q S (fuel + 1) listed a w :=
  held_call hr hi hg (wp_enter h hc (fun v w' hv => by rw [hd]; exact hR v w' hv) h2 h3)
/-- The end: the last operation itself. -/
theorem lastQ_of {on : Oper} {a : Act} {w : World} (hn : ops[n]? = some on) (hg : on.guard = none) (h : on.wp P a w (fun a' w' => Q .normal a' w') Q) : lastQ P ops n Q .normal a w := by
  show wpOp P ops Q n _ a w
  unfold wpOp
  rw [hn]
  have hw : Region.wanted on (yielded ops a.tmps) = true := by unfold Region.wanted; rw [hg]
  simp only [hw, if_true]
  exact Or.inl h
theorem lastQ_store {on : Oper} {a : Act} {w : World} (hn : ops[n]? = some on) (hg : on.guard = none) (hd : on.dst = none) (ty : TypeId) (x y : Operand) (ho : on.op = .store ty x y)
    (b o : Nat) (cells : Array Value) (hx : a.eval x = .pointer (some ⟨b, o, none⟩)) (hy : a.eval y = .agg cells)
    (ht : w.there b o cells.size) (hi : (P.info? ty).map (·.size) = some cells.size) (h1 : cells.all (·.oneCell') = true)
    (h : Q .normal a (w.setCells b o cells.toList)) : lastQ P ops n Q .normal a w :=
  lastQ_of hn hg (wp_store_mid ty x y ho b o cells hx hy ht hi h1 (by rw [hd]; exact h))
theorem held_none {i : Nat} {oi : Oper} {fuel : Nat} {listed : Array Bool} {a : Act} {w : World} {v : Value} (hi : ops[i]? = some oi) (hd : oi.dst = none)
    (hs : Region.noSelect ops = true) (hf : Region.free md ops listed i = true) (hr : (Region.ready md ops listed).contains i = true)
    (hQ : ∀ c a w, Q (.panic c) (a.put oi.dst v) w → Q (.panic c) a w) (hy : YieldsIf P ops S oi v a) (hS : S w)
    (h : wpAnyH P md ops Q S fuel (listed.setIfInBounds i true) a w) : wpAnyH P md ops Q S (fuel + 1) listed a w :=
  held_take none hi hd hs hf hr hQ hy hS h
theorem yieldsIf_move {o : Oper} {a : Act} {x : Operand} {v : Value} (hg : o.guard = none) (ho : o.op = .move x) (hx : a.eval x = v) : YieldsIf P ops S o v a :=
  Or.inl ⟨by unfold Region.wanted; rw [hg], fun w _ => by
    unfold execOp
    simp only [ho, hx]
    rfl⟩
theorem yieldsIf_cell {o : Oper} {a : Act} {x : Operand} {v : Value} {t : TypeId} {b off : Nat} (hg : o.guard = none) (ho : o.op = .load t x) (hx : a.eval x = .pointer (some ⟨b, off, none⟩)) (hrun : ∀ w, S w → (Instr.loadAt t (.pointer (some ⟨b, off, none⟩))).run P w = .ok v w) : YieldsIf P ops S o v a :=
  Or.inl ⟨by unfold Region.wanted; rw [hg], fun w hw => by
    unfold execOp
    simp only [ho, hx, Sem.run_bind, hrun w hw, Result.andThen_ok]
    rfl⟩
theorem yieldsIf_index {o : Oper} {a : Act} {x y : Operand} {v u i : Value} {t : TypeId} (hg : o.guard = none) (ho : o.op = .indexAddr t x y) (hx : a.eval x = u) (hy : a.eval y = i) (hrun : ∀ w, (Instr.indexAt t u i).run P w = .ok v w) : YieldsIf P ops S o v a :=
  Or.inl ⟨by unfold Region.wanted; rw [hg], fun w _ => by
    unfold execOp
    simp only [ho, hx, hy, Sem.run_bind, hrun w, Result.andThen_ok]
    rfl⟩
end
end Go.Proofs.Ytlbalcckjokeiaa
