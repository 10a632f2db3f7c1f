/-
  FnExactConeOf: for every two complex values and every list of tables that come in (whatever their numbers, sizes and sharing), the law's call returns true and leaves the arguments as they were. The package-level variable errNoChainMap holds what the program's text lays. No other condition.
-/
import Derived.Test.YtpdkfidmmjlmnabDoorZi6
namespace Go.Proofs.YtpdkfidmmjlmnabDoor
open Go.ChangeShapes Go.WideShapes Go.ChangeAt Go.RowKit

set_option maxRecDepth 100000 in
theorem col_reads (os : Os) {H : Type} (enc : TypeId × Value → H) : ∃ places, DataW.whole enc Tryd.prog ((dorWorld os).forCall (fun _ _ => 0) ⟨#[], #[.agg #[.int .i64 0, .slice none 0 0, .slice none 0 0], .agg #[.int .i64 0, .slice none 0 0, .slice none 0 0], .slice none 0 0], []⟩).memory Tryd.f3.params.toList Rows.fnExactConeOfSpec.vars false (#[.agg #[.int .i64 0, .slice none 0 0, .slice none 0 0], .agg #[.int .i64 0, .slice none 0 0, .slice none 0 0], .slice none 0 0] : Array Value).toList 8 = some ([.agg [.lit (.int .i64 0), .nil, .nil], .agg [.lit (.int .i64 0), .nil, .nil], .nil], [tok enc (.iface 99 (.pointer (some ⟨dorLow, 0, none⟩)))], places) := ⟨[.cell 0 0], by kernel_rfl⟩
set_option maxRecDepth 100000 in
theorem col_lifted (os : Os) (started : os.Started) (H : Type) (enc : TypeId × Value → H) (F : Stop.Interp) :
    ReturnsInHanded {} Tryd.checked os 3 .any ((OpenSpec.ofChange Rows.fnExactConeOfSpec).preRow enc Tryd.prog Tryd.f3 Rows.fnExactConeOfRow.domain false Rows.fnExactConeOfRow.laid) (((OpenSpec.ofChange Rows.fnExactConeOfSpec).at F).post enc Tryd.prog Tryd.f3 false true false false) := by
  obtain ⟨places, hx⟩ := col_reads os enc
  refine returnsInHanded_of_row (C := Tryd.checked) (s := OpenSpec.ofChange Rows.fnExactConeOfSpec) Tryd.own started (by kernel_rfl) Tryd.func3
    (witness_row_at (enc := enc) (C := Tryd.checked) false (dorWorld os) #[.agg #[.int .i64 0, .slice none 0 0, .slice none 0 0], .agg #[.int .i64 0, .slice none 0 0, .slice none 0 0], .slice none 0 0] rfl (by kernel_rfl) (by kernel_rfl) (by kernel_rfl)
      (OpenSpec.preRow_of_cond 8 hx (by kernel_rfl) (fun k hk => by cases hk) (by kernel_rfl) (dor_met os _))) ?_
  intro W base args ds gs before hval0 hW _ _ _ hL _ _
  have hval : ∀ (j : Nat) t v, Tryd.f3.params[j]? = some t → args[j]? = some v → Value.okWide Tryd.prog W .any base t v := hval0
  have hW' := hW
  obtain ⟨p, q, hA0, hV, rfl, hfz, hnd⟩ := hW
  have hA : DataW.TrodAll enc Tryd.prog W 0 (fun _ => true) true Tryd.f3.params.toList args.toList ds p := hA0
  rw [Tryd.params3] at hA hval
  obtain ⟨v0, v1, v2, d0, d1, d2, p0, p1, p2, rfl, rfl, rfl, h0, h1, h2⟩ := trodAll_three hA
  obtain ⟨aE, hvE⟩ := dor_open hL
  have hV2 : DataW.TrodVars enc Tryd.prog W (fun _ => true) ["loop.example/g01273/impl.errNoChainMap"] gs q := hV
  obtain ⟨rfl, rfl⟩ := hV2.unique (dor_vars enc hvE trivial _)
  clear hV
  have k0 := h0
  have lt0 : ∀ x ∈ p0, x.block < W.heap.size := by obtain ⟨m, hm⟩ := k0; exact DataW.trod_lt m _ _ _ hm
  obtain ⟨q0, dv0, mv0, xs0, ys0, rfl, hx0, hdl0, hml0⟩ := complex_of_trod (hval 0 25 v0 rfl rfl) h0
  have k1 := h1
  have lt1 : ∀ x ∈ p1, x.block < W.heap.size := by obtain ⟨m, hm⟩ := k1; exact DataW.trod_lt m _ _ _ hm
  obtain ⟨q1, dv1, mv1, xs1, ys1, rfl, hx1, hdl1, hml1⟩ := complex_of_trod (hval 1 25 v1 rfl rfl) h1
  have k2 := h2
  have lt2 : ∀ x ∈ p2, x.block < W.heap.size := by obtain ⟨m, hm⟩ := k2; exact DataW.trod_lt m _ _ _ hm
  obtain ⟨av2, lv2, cv2, rfl⟩ := okWide_slice Tryd.underlying23 (hval 2 23 v2 rfl rfl)
  obtain ⟨zs2, hx2, hml2⟩ : ∃ zs, L3 0 W (.slice av2 lv2 cv2) zs ∧ Bd3 9223372036854775807 zs := by
    obtain ⟨fuel, hf⟩ := h2
    exact l3_of_trod hf
  clear hA0 hval0
  refine (lawCol_any q0 dv0 mv0 xs0 ys0 q1 dv1 mv1 xs1 ys1 _ zs2 W hx0 hdl0 hml0 hx1 hdl1 hml1 hx2 hml2 (dor_cell hvE)).mono fun e W' ⟨he, bel⟩ => ?_
  subst he
  exact ⟨_, rfl, _, _, _, [], _, [.cell 0 0], hW', trodAll_mk1 (shut_bool Tryd.underlying4 _), trodAll_mk3 (Below.trod Tryd.laidOut (by kernel_rfl) (of_decide_eq_true (by kernel_rfl)) k0 bel lt0) (Below.trod Tryd.laidOut (by kernel_rfl) (of_decide_eq_true (by kernel_rfl)) k1 bel lt1) (Below.trod Tryd.laidOut (by kernel_rfl) (of_decide_eq_true (by kernel_rfl)) k2 bel lt2), dor_vars enc (dor_below bel hvE) trivial _, bel.frame _, fun h => by cases h⟩

set_option maxRecDepth 100000 in
theorem col_unf : Tryd.checked.prog.unfollowed 3 = true := by kernel_rfl
theorem col_rec : Tryd.checked.prog.recurses 3 = true := by
  unfold Program.recurses
  rw [col_unf, Bool.true_or]
set_option maxRecDepth 100000 in
set_option maxHeartbeats 40000000 in
theorem col_facts : joinedFacts Tryd.checked.prog 3 Tryd.f3 Rows.fnExactConeOfSpec Rows.fnExactConeOfRow = true := by
  unfold joinedFacts
  simp only [Tryd.mayEnter, Tryd.liftsFinal, Tryd.make, col_rec, col_unf, Bool.and_eq_true]
  and_intros
  all_goals first | exact trivial | (as_aux_lemma => kernel_rfl)

theorem col_named : Tryd.checked.prog.funcNamed Rows.fnExactConeOfRow.func = some 3 := by kernel_rfl
theorem col_inst : Tryd.f3.isInstance Tryd.checked.prog Rows.fnExactConeOfRow.origin Rows.fnExactConeOfRow.targs := of_decide_eq_true (by kernel_rfl)
theorem col_wrap : Tryd.f3.isWrapper Tryd.checked.prog Rows.fnExactConeOfRow.wrapper Rows.fnExactConeOfRow.mainSum := by
  unfold Func.isWrapper
  first | (rw [if_pos (by decide +kernel)]; kernel_rfl) | (rw [if_neg (by decide +kernel)]; exact ⟨rfl, rfl⟩)

set_option maxHeartbeats 2000000 in
set_option maxRecDepth 100000 in
theorem col_over : Rows.FnExactConeOfSaid :=
  OpenClaim.holds_of_cond 3 Tryd.f3 rfl rfl rfl rfl rfl rfl rfl ⟨rfl, rfl, rfl, rfl, rfl⟩ rfl rfl rfl rfl rfl col_named Tryd.func3 col_facts
    col_inst col_wrap (fun os started H enc _ F => by rw [OpenClaim.pre_eq_preRow]; exact col_lifted os started H enc F)

set_option maxRecDepth 100000 in
theorem col_plain (f : FuncId) (fn : Func) (hf : Tryd.pinned.checked.prog.funcNamed "loop.example/g01273/laws.FnExactConeOf" = some f) (hfn : Tryd.pinned.checked.prog.funcs[f]? = some fn) :
    true = Tryd.pinned.checked.prog.looks [] ∧ ∀ (j : Nat) t, fn.params[j]? = some t → Tryd.pinned.checked.prog.wantsStandIn t = false := by
  obtain rfl : f = 3 := Option.some.inj (col_named.symm.trans hf) |>.symm
  obtain rfl : fn = Tryd.f3 := (Option.some.inj (Tryd.func3.symm.trans hfn)).symm
  refine ⟨by kernel_rfl, fun j t ht => ?_⟩
  rw [Tryd.params3] at ht
  have hm := Array.mem_of_getElem? ht
  simp only [List.mem_toArray, List.mem_cons, List.not_mem_nil, or_false] at hm
  rcases hm with rfl | rfl | rfl <;> first | exact (show Tryd.prog.wantsStandIn 25 = false by kernel_rfl) | exact (show Tryd.prog.wantsStandIn 23 = false by kernel_rfl)

theorem col_card : Rows.FnExactConeOfCardSaid :=
  Claim7.holds_tied_plain_at .later [] _ _ _ _ col_over (fun _ h => by cases h) (by kernel_rfl) (fun _ h => by cases h) fnExactConeOf_row_tie rfl ⟨rfl, rfl⟩ (by kernel_rfl) rfl col_plain (by kernel_rfl)
#print axioms col_card
end Go.Proofs.YtpdkfidmmjlmnabDoor
