/-
  A set of vectors in a map that the call has made; slices of vectors that the call has gathered; impl.unitLines by its contract.
-/
import Derived.Test.YtlbalcckjokeiaaVr
import Derived.WideKeyArr
import Derived.Maps.OwnOps
import Derived.Maps.OwnSet
import Derived.Carry
namespace Go.Proofs.Ytlbalcckjokeiaa
open Go.RowKit

theorem mapM_some {α β : Type} {f : α → Option β} {g : α → β} : ∀ l : List α, (∀ x ∈ l, f x = some (g x)) → l.mapM f = some (l.map g) := by
  intro l
  induction l with
  | nil => intro _; rfl
  | cons x l ih => intro h; rw [List.mapM_cons, h x (List.mem_cons_self ..), ih (fun y hy => h y (List.mem_cons_of_mem _ hy))]; rfl
theorem arrKey_of (P : Program) {k e : TypeId} (hu : P.underlying k = some (.array 40 e)) (he : P.underlying e = some (.int .i64)) (h1 : P.cellsOf e = 1) (h40 : P.cellsOf k = 40) : WideMaps.ArrKey P k e 40 :=
  ⟨hu, by unfold Program.plainKey; rw [he], h1, h40⟩
theorem Try.cellsV : Try.prog.cellsOf 107 = 40 := by kernel_rfl
theorem Try.cellsI' : Try.prog.cellsOf 2 = 1 := by kernel_rfl
theorem Try.arrKey : WideMaps.ArrKey Try.prog 107 2 40 := arrKey_of _ Try.underlyingV Try.underlying2 Try.cellsI' Try.cellsV
theorem Try.keyed : Maps.Keyed Try.prog 107 := Maps.Keyed.of_law Try.arrKey.law
/-- The key's datum. -/
def keyLit (v : Lin.V) : Lit := .string (keyBytes ((List.range 40).map fun i => .int .i64 (v i)))
theorem small_wf {x : Int} (h0 : 0 ≤ x) (h1 : x ≤ 7) : (Lit.int .i64 x).wf = true := WalkArith.wf_i64 (by omega)
theorem flatten_single {α : Type} (l : List α) : (l.map fun x => [x]).flatten = l := by
  induction l with
  | nil => rfl
  | cons x l ih => simp [ih]
theorem Try.typesSize : ∃ m, Try.prog.types.size = m + 1 := ⟨Try.prog.types.size - 1, by
  have : 0 < Try.prog.types.size := of_decide_eq_true (by kernel_rfl)
  omega⟩
theorem keyOf_vv (v : Lin.V) (h : ∀ i, 0 ≤ v i ∧ v i ≤ 7) : keyOf Try.prog 107 (vv v) = some (keyLit v) := by
  have hkt := Try.arrKey.keyType Try.typesSize
  obtain ⟨m, hm⟩ := Try.typesSize
  have hu := Try.underlyingV
  have he := Try.underlying2
  unfold keyOf vv
  simp only [hu]
  rw [if_pos (by simp [hkt, Value.formed, hu, Try.cellsV, vl_length]), hm]
  unfold Program.keyLits
  simp only [hu, Value.cells, List.toList_toArray]
  rw [if_pos (by rw [Try.cellsV, vl_length])]
  have hmm : (List.range 40).mapM (fun i => Try.prog.keyLits (m + 1) 2 (((vl v).drop (i * Try.prog.cellsOf 2)).take (Try.prog.cellsOf 2))) = some ((List.range 40).map fun i => [Lit.int .i64 (v i)]) := by
    refine mapM_some _ (fun i hi => ?_)
    have hi40 := List.mem_range.1 hi
    have hd : ((vl v).drop (i * 1)).take 1 = [.int .i64 (v i)] := by
      have h1 := vl_get v hi40
      obtain ⟨hlt, hge⟩ := List.getElem?_eq_some_iff.1 h1
      rw [Nat.mul_one, List.drop_eq_getElem_cons hlt, hge]
      rfl
    unfold Program.keyLits
    simp only [he, Try.cellsI', hd]
    rw [if_pos ⟨trivial, small_wf (h i).1 (h i).2⟩]
  rw [hmm]
  simp only [Option.map_some]
  rw [show ((List.range 40).map fun i => [Lit.int .i64 (v i)]) = ((List.range 40).map fun i => Lit.int .i64 (v i)).map (fun x => [x]) by rw [List.map_map]; rfl, flatten_single]
  rfl
theorem keyLit_inj {u v : Lin.V} (hu : ∀ i, 0 ≤ u i ∧ u i ≤ 7) (hv : ∀ i, 0 ≤ v i ∧ v i ≤ 7) (h : keyLit u = keyLit v) : vv u = vv v := by
  have h1 := keyOf_vv u hu
  have h2 := keyOf_vv v hv
  rw [← h] at h2
  exact Try.keyed.inj h1 h2
theorem vv_inj {u v : Lin.V} (hu : Lin.Wd 40 u) (hv : Lin.Wd 40 v) (h : vv u = vv v) : u = v := by
  unfold vv at h
  injection h with h
  have h2 : vl u = vl v := by have := congrArg Array.toList h; simpa using this
  refine toL_inj hu hv ?_
  unfold vl at h2
  exact (List.map_inj_right (fun a b e => by injection e)).1 h2

/-- The map in block b bears true at vectors of M alone. -/
def Seen (w : World) (b n : Nat) (M : List Lin.V) : Prop := ∃ D : DataW Unit, w.ownsMap Try.prog 107 (plainElem Try.prog 4) b n D ∧ Maps.IsMap D ∧
  ∀ v : Lin.V, (∀ i, 0 ≤ v i ∧ v i ≤ 7) → D.atKey (keyLit v) (.lit (.bool false)) = .lit (.bool true) → ∃ u ∈ M, vv u = vv v
theorem Seen.made (w : World) : Seen (w.alloc (.map #[] 0)) w.heap.size 0 [] := ⟨.map [], World.ownsMap_made _ _ _ _, ⟨[], rfl⟩, fun v _ h => by
  have : (DataW.map [] : DataW Unit).atKey (keyLit v) (.lit (.bool false)) = .lit (.bool false) := rfl
  rw [this] at h
  cases h⟩
theorem Seen.lt {w : World} {b n : Nat} {M : List Lin.V} (h : Seen w b n M) : b < w.heap.size := by obtain ⟨D, hd, _⟩ := h; exact hd.lt
theorem Seen.block {w w' : World} {b n : Nat} {M : List Lin.V} (h : Seen w b n M) (hb : w'.heap[b]? = w.heap[b]?) : Seen w' b n M := by
  obtain ⟨D, ⟨es, clock, h1, F, h2, h3⟩, r⟩ := h
  exact ⟨D, ⟨es, clock, hb.trans h1, F, h2, h3⟩, r⟩
theorem Seen.below {w w' : World} {b n : Nat} {M : List Lin.V} (h : Seen w b n M) (hb : Below w.heap.size w w') : Seen w' b n M := h.block (hb.block b h.lt)
theorem Seen.more {w : World} {b n n' : Nat} {M M' : List Lin.V} (h : Seen w b n M) (hn : n ≤ n') (hM : ∀ u ∈ M, u ∈ M') : Seen w b n' M' := by
  obtain ⟨D, h1, h2, h3⟩ := h
  exact ⟨D, h1.mono hn, h2, fun v hv h => by obtain ⟨u, hu, e⟩ := h3 v hv h; exact ⟨u, hM u hu, e⟩⟩

section
variable {ops : Array Oper} {rest : List Oper} {o : Oper} {a : Act} {w : World} {Q : Exit → Act → World → Prop}
theorem zeroB (w : World) : (zeroValue 4).run Try.prog w = .ok (.bool false) w := by kernel_rfl
theorem plainBool_inv {P : Program} {e : TypeId} (he : P.underlying e = some .bool) {v : Value} {z : DataW Unit × List MemPlace} (h : plainElem P e v = some z) : ∃ x, v = .bool x ∧ z.1 = .lit (.bool x) := by
  unfold plainElem at h
  rw [he] at h
  cases v <;> simp at h
  exact ⟨_, rfl, by rw [← h]⟩
theorem wpList_lookup_seen (hg : o.guard = none) (m x : Operand) (hop : o.op = .lookup 117 m x false) (b n : Nat) (M : List Lin.V) (hm : a.eval m = .map (some b)) (hs : Seen w b n M) (v : Lin.V) (hx : a.eval x = .agg (vl v).toArray) (hv : ∀ i, 0 ≤ v i ∧ v i ≤ 7)
    (h : ∀ r : Bool, (r = true → ∃ u ∈ M, vv u = vv v) → wpList Try.prog ops Q rest (a.put o.dst (.bool r)) w) : wpList Try.prog ops Q (o :: rest) a w := by
  obtain ⟨D, h1, _, h3⟩ := hs
  obtain ⟨u, ps, hrun, hu⟩ := h1.lookup Try.keyed Try.underlying117 (zeroB w) (plainElem_bool Try.underlying4 false) (keyOf_vv v hv)
  obtain ⟨r, rfl, hr⟩ := plainBool_inv Try.underlying4 hu
  refine wpList_plain hg fun K hK => ?_
  unfold Oper.wp
  have hx' : a.eval x = vv v := hx
  simp only [execOp, hop, hm, hx', Sem.run_bind, hrun, Result.andThen_ok]
  exact hK _ _ (h r (fun e => h3 v hv (by rw [← e]; exact hr)))
theorem wpList_update_seen (hg : o.guard = none) (hdst : o.dst = none) (m x : Operand) (hop : o.op = .mapUpdate 117 m x (.const (.bool true))) (b n : Nat) (M : List Lin.V) (hm : a.eval m = .map (some b)) (hs : Seen w b n M) (hn : n < maxLen) (v : Lin.V) (hx : a.eval x = .agg (vl v).toArray) (hv : ∀ i, 0 ≤ v i ∧ v i ≤ 7)
    (h : ∀ w', Seen w' b (n + 1) (M ++ [v]) → w.grownBy w' (some b) → wpList Try.prog ops Q rest a w') : wpList Try.prog ops Q (o :: rest) a w := by
  obtain ⟨D, h1, hD, h3⟩ := hs
  obtain ⟨w', hrun, h4, h5⟩ := h1.update Try.keyed Try.underlying117 hn (keyOf_vv v hv) (plainElem_bool Try.underlying4 true)
  refine wpList_plain hg fun K hK => ?_
  unfold Oper.wp
  have hx' : a.eval x = vv v := hx
  have hc : a.eval (.const (.bool true)) = .bool true := rfl
  simp only [execOp, hop, hm, hx', hc, Sem.run_bind, hrun, Result.andThen_ok]
  refine hK _ _ ?_
  rw [hdst]
  refine h w' ⟨_, h4, hD.put _ _, fun u hu hat => ?_⟩ h5
  by_cases e : keyLit u = keyLit v
  · exact ⟨v, by simp, (keyLit_inj hu hv e).symm⟩
  · rw [Maps.atKey_put_other e] at hat
    obtain ⟨x, hx, e2⟩ := h3 u hu hat
    exact ⟨x, by simp [hx], e2⟩
end
end Go.Proofs.Ytlbalcckjokeiaa
