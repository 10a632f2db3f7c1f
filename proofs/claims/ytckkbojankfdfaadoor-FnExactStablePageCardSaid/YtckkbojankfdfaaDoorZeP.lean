/-
  FnExactStablePage: for every couple value that comes in (whatever its numbers, sizes and sharing), the law's call returns true and leaves the argument as it was. The package-level variable errNotExact holds what the program's text lays. No other condition.
-/
import Derived.Test.YtckkbojankfdfaaDoorZe7
namespace Go.Proofs.YtckkbojankfdfaaDoor
open Go.ChangeShapes Go.WideShapes Go.ChangeAt Go.RowKit

set_option maxRecDepth 100000 in
theorem stl_reads (os : Os) {H : Type} (enc : TypeId × Value → H) : ∃ places, DataW.whole enc Tryd.prog ((dorWorld os).forCall (fun _ _ => 0) ⟨#[], #[.agg #[.int .i64 0, .int .i64 0, .int .i64 0, .slice none 0 0, .slice none 0 0, .slice none 0 0]], []⟩).memory Tryd.f5.params.toList Rows.fnExactStablePageSpec.vars false (#[.agg #[.int .i64 0, .int .i64 0, .int .i64 0, .slice none 0 0, .slice none 0 0, .slice none 0 0]] : Array Value).toList 8 = some ([.agg [.lit (.int .i64 0), .lit (.int .i64 0), .lit (.int .i64 0), .nil, .nil, .nil]], [tok enc (.iface 109 (.pointer (some ⟨dorLow, 0, none⟩)))], places) := ⟨[.cell 0 0], by kernel_rfl⟩
set_option maxRecDepth 100000 in
theorem stl_lifted (os : Os) (started : os.Started) (H : Type) (enc : TypeId × Value → H) (F : Stop.Interp) :
    ReturnsInHanded {} Tryd.checked os 5 .any ((OpenSpec.ofChange Rows.fnExactStablePageSpec).preRow enc Tryd.prog Tryd.f5 Rows.fnExactStablePageRow.domain false Rows.fnExactStablePageRow.laid) (((OpenSpec.ofChange Rows.fnExactStablePageSpec).at F).post enc Tryd.prog Tryd.f5 false true false false) := by
  obtain ⟨places, hx⟩ := stl_reads os enc
  refine returnsInHanded_of_row (C := Tryd.checked) (s := OpenSpec.ofChange Rows.fnExactStablePageSpec) Tryd.own started (by kernel_rfl) Tryd.func5
    (witness_row_at (enc := enc) (C := Tryd.checked) false (dorWorld os) #[.agg #[.int .i64 0, .int .i64 0, .int .i64 0, .slice none 0 0, .slice none 0 0, .slice none 0 0]] rfl (by kernel_rfl) (by kernel_rfl) (by kernel_rfl)
      (OpenSpec.preRow_of_cond 8 hx (by kernel_rfl) (fun k hk => by cases hk) (by kernel_rfl) (dor_met os _))) ?_
  intro W base args ds gs before hval0 hW _ _ _ hL _ _
  have hval : ∀ (j : Nat) t v, Tryd.f5.params[j]? = some t → args[j]? = some v → Value.okWide Tryd.prog W .any base t v := hval0
  have hW' := hW
  obtain ⟨p, q, hA0, hV, rfl, hfz, hnd⟩ := hW
  have hA : DataW.TrodAll enc Tryd.prog W 0 (fun _ => true) true Tryd.f5.params.toList args.toList ds p := hA0
  rw [Tryd.params5] at hA hval
  obtain ⟨v0, d0, rfl, rfl, h0⟩ := trodAll_one hA
  obtain ⟨aE, hvE⟩ := dor_open hL
  have hV2 : DataW.TrodVars enc Tryd.prog W (fun _ => true) ["loop.example/g01273/impl.errNotExact"] gs q := hV
  obtain ⟨rfl, rfl⟩ := hV2.unique (dor_vars enc hvE trivial _)
  clear hV
  have k0 := h0
  have lt0 : ∀ x ∈ p, x.block < W.heap.size := by obtain ⟨m, hm⟩ := k0; exact DataW.trod_lt m _ _ _ hm
  obtain ⟨q0p, q0d, q0e, iv0, jv0, kv0, il0, jl0, kl0, rfl, hx0, hml0⟩ := couple_of_trod (hval 0 24 v0 rfl rfl) h0
  clear hA0 hval0
  refine (lawStl_any q0p q0d q0e iv0 jv0 kv0 il0 jl0 kl0 W hx0 hml0 (dor_cell hvE)).mono fun e W' ⟨he, bel⟩ => ?_
  subst he
  exact ⟨_, rfl, _, _, _, [], _, [.cell 0 0], hW', trodAll_mk1 (shut_bool Tryd.underlying4 _), trodAll_mk1 (Below.trod Tryd.laidOut (by kernel_rfl) (of_decide_eq_true (by kernel_rfl)) k0 bel lt0), dor_vars enc (dor_below bel hvE) trivial _, bel.frame _, fun h => by cases h⟩

set_option maxRecDepth 100000 in
theorem stl_unf : Tryd.checked.prog.unfollowed 5 = true := by kernel_rfl
theorem stl_rec : Tryd.checked.prog.recurses 5 = true := by
  unfold Program.recurses
  rw [stl_unf, Bool.true_or]
set_option maxRecDepth 100000 in
set_option maxHeartbeats 40000000 in
theorem stl_facts : joinedFacts Tryd.checked.prog 5 Tryd.f5 Rows.fnExactStablePageSpec Rows.fnExactStablePageRow = true := by
  unfold joinedFacts
  simp only [Tryd.mayEnter, Tryd.liftsFinal, Tryd.make, stl_rec, stl_unf, Bool.and_eq_true]
  and_intros
  all_goals first | exact trivial | (as_aux_lemma => kernel_rfl)

theorem stl_named : Tryd.checked.prog.funcNamed Rows.fnExactStablePageRow.func = some 5 := by kernel_rfl
theorem stl_inst : Tryd.f5.isInstance Tryd.checked.prog Rows.fnExactStablePageRow.origin Rows.fnExactStablePageRow.targs := of_decide_eq_true (by kernel_rfl)
theorem stl_wrap : Tryd.f5.isWrapper Tryd.checked.prog Rows.fnExactStablePageRow.wrapper Rows.fnExactStablePageRow.mainSum := by
  unfold Func.isWrapper
  first | (rw [if_pos (by decide +kernel)]; kernel_rfl) | (rw [if_neg (by decide +kernel)]; exact ⟨rfl, rfl⟩)

set_option maxHeartbeats 2000000 in
set_option maxRecDepth 100000 in
theorem stl_over : Rows.FnExactStablePageSaid :=
  OpenClaim.holds_of_cond 5 Tryd.f5 rfl rfl rfl rfl rfl rfl rfl ⟨rfl, rfl, rfl, rfl, rfl⟩ rfl rfl rfl rfl rfl stl_named Tryd.func5 stl_facts
    stl_inst stl_wrap (fun os started H enc _ F => by rw [OpenClaim.pre_eq_preRow]; exact stl_lifted os started H enc F)

set_option maxRecDepth 100000 in
theorem stl_plain (f : FuncId) (fn : Func) (hf : Tryd.pinned.checked.prog.funcNamed "loop.example/g01273/laws.FnExactStablePage" = some f) (hfn : Tryd.pinned.checked.prog.funcs[f]? = some fn) :
    true = Tryd.pinned.checked.prog.looks [] ∧ ∀ (j : Nat) t, fn.params[j]? = some t → Tryd.pinned.checked.prog.wantsStandIn t = false := by
  obtain rfl : f = 5 := Option.some.inj (stl_named.symm.trans hf) |>.symm
  obtain rfl : fn = Tryd.f5 := (Option.some.inj (Tryd.func5.symm.trans hfn)).symm
  refine ⟨by kernel_rfl, fun j t ht => ?_⟩
  rw [Tryd.params5] at ht
  have hm := Array.mem_of_getElem? ht
  simp only [List.mem_toArray, List.mem_cons, List.not_mem_nil, or_false] at hm
  obtain rfl := hm
  first | exact (show Tryd.prog.wantsStandIn 24 = false by kernel_rfl)

theorem stl_card : Rows.FnExactStablePageCardSaid :=
  Claim7.holds_tied_plain_at .later [] _ _ _ _ stl_over (fun _ h => by cases h) (by kernel_rfl) (fun _ h => by cases h) fnExactStablePage_row_tie rfl ⟨rfl, rfl⟩ (by kernel_rfl) rfl stl_plain (by kernel_rfl)
#print axioms stl_card
end Go.Proofs.YtckkbojankfdfaaDoor
