/-
  FnExactIsHomotopy: for every two complex values and every three lists of tables that come in, the law's call returns true and leaves the arguments as they were. The package-level variable errNoChainMap holds what the program's text lays. No other condition.
-/
import Derived.Test.YtpchbceohnabnabDoorZm6
namespace Go.Proofs.YtpchbceohnabnabDoor
open Go.ChangeShapes Go.WideShapes Go.ChangeAt Go.RowKit

set_option maxRecDepth 100000 in
theorem hml_reads (os : Os) {H : Type} (enc : TypeId × Value → H) : ∃ places, DataW.whole enc Tryd.prog ((dorWorld os).forCall (fun _ _ => 0) ⟨#[], #[.agg #[.int .i64 0, .slice none 0 0, .slice none 0 0], .agg #[.int .i64 0, .slice none 0 0, .slice none 0 0], .slice none 0 0, .slice none 0 0, .slice none 0 0], []⟩).memory Tryd.f7.params.toList Rows.fnExactIsHomotopySpec.vars false (#[.agg #[.int .i64 0, .slice none 0 0, .slice none 0 0], .agg #[.int .i64 0, .slice none 0 0, .slice none 0 0], .slice none 0 0, .slice none 0 0, .slice none 0 0] : Array Value).toList 8 = some ([.agg [.lit (.int .i64 0), .nil, .nil], .agg [.lit (.int .i64 0), .nil, .nil], .nil, .nil, .nil], [tok enc (.iface 135 (.pointer (some ⟨dorLow, 0, none⟩)))], places) := ⟨[.cell 0 0], by kernel_rfl⟩
set_option maxRecDepth 100000 in
theorem hml_lifted (os : Os) (started : os.Started) (H : Type) (enc : TypeId × Value → H) (F : Stop.Interp) :
    ReturnsInHanded {} Tryd.checked os 7 .any ((OpenSpec.ofChange Rows.fnExactIsHomotopySpec).preRow enc Tryd.prog Tryd.f7 Rows.fnExactIsHomotopyRow.domain false Rows.fnExactIsHomotopyRow.laid) (((OpenSpec.ofChange Rows.fnExactIsHomotopySpec).at F).post enc Tryd.prog Tryd.f7 false true false false) := by
  obtain ⟨places, hx⟩ := hml_reads os enc
  refine returnsInHanded_of_row (C := Tryd.checked) (s := OpenSpec.ofChange Rows.fnExactIsHomotopySpec) Tryd.own started (by kernel_rfl) Tryd.func7
    (witness_row_at (enc := enc) (C := Tryd.checked) false (dorWorld os) #[.agg #[.int .i64 0, .slice none 0 0, .slice none 0 0], .agg #[.int .i64 0, .slice none 0 0, .slice none 0 0], .slice none 0 0, .slice none 0 0, .slice none 0 0] rfl (by kernel_rfl) (by kernel_rfl) (by kernel_rfl)
      (OpenSpec.preRow_of_cond 8 hx (by kernel_rfl) (fun k hk => by cases hk) (by kernel_rfl) (dor_met os _))) ?_
  intro W base args ds gs before hval0 hW _ _ _ hL _ _
  have hval : ∀ (j : Nat) t v, Tryd.f7.params[j]? = some t → args[j]? = some v → Value.okWide Tryd.prog W .any base t v := hval0
  have hW' := hW
  obtain ⟨p, q, hA0, hV, rfl, hfz, hnd⟩ := hW
  have hA : DataW.TrodAll enc Tryd.prog W 0 (fun _ => true) true Tryd.f7.params.toList args.toList ds p := hA0
  rw [Tryd.params7] at hA hval
  obtain ⟨v0, v1, v2, v3, v4, d0, d1, d2, d3, d4, p0, p1, p2, p3, p4, rfl, rfl, rfl, h0, h1, h2, h3, h4⟩ := trodAll_five hA
  obtain ⟨aE, hvE⟩ := dor_open hL
  have hV2 : DataW.TrodVars enc Tryd.prog W (fun _ => true) ["loop.example/g01273/impl.errNoChainMap"] gs q := hV
  obtain ⟨rfl, rfl⟩ := hV2.unique (dor_vars enc hvE trivial _)
  clear hV
  have k0 := h0
  have lt0 : ∀ x ∈ p0, x.block < W.heap.size := by obtain ⟨m, hm⟩ := k0; exact DataW.trod_lt m _ _ _ hm
  obtain ⟨q0, dv0, mv0, xs0, ys0, rfl, hx0, hdl0, hml0⟩ := complex_of_trod (hval 0 25 v0 rfl rfl) h0
  have k1 := h1
  have lt1 : ∀ x ∈ p1, x.block < W.heap.size := by obtain ⟨m, hm⟩ := k1; exact DataW.trod_lt m _ _ _ hm
  obtain ⟨q1, dv1, mv1, xs1, ys1, rfl, hx1, hdl1, hml1⟩ := complex_of_trod (hval 1 25 v1 rfl rfl) h1
  have k2 := h2
  have lt2 : ∀ x ∈ p2, x.block < W.heap.size := by obtain ⟨m, hm⟩ := k2; exact DataW.trod_lt m _ _ _ hm
  obtain ⟨av2, lv2, cv2, rfl⟩ := okWide_slice Tryd.underlying23 (hval 2 23 v2 rfl rfl)
  obtain ⟨zs2, hx2, hml2⟩ : ∃ zs, L3 0 W (.slice av2 lv2 cv2) zs ∧ Bd3 9223372036854775807 zs := by
    obtain ⟨fuel, hf⟩ := h2
    exact l3_of_trod hf
  have k3 := h3
  have lt3 : ∀ x ∈ p3, x.block < W.heap.size := by obtain ⟨m, hm⟩ := k3; exact DataW.trod_lt m _ _ _ hm
  obtain ⟨av3, lv3, cv3, rfl⟩ := okWide_slice Tryd.underlying23 (hval 3 23 v3 rfl rfl)
  obtain ⟨zs3, hx3, hml3⟩ : ∃ zs, L3 0 W (.slice av3 lv3 cv3) zs ∧ Bd3 9223372036854775807 zs := by
    obtain ⟨fuel, hf⟩ := h3
    exact l3_of_trod hf
  have k4 := h4
  have lt4 : ∀ x ∈ p4, x.block < W.heap.size := by obtain ⟨m, hm⟩ := k4; exact DataW.trod_lt m _ _ _ hm
  obtain ⟨av4, lv4, cv4, rfl⟩ := okWide_slice Tryd.underlying23 (hval 4 23 v4 rfl rfl)
  obtain ⟨zs4, hx4, hml4⟩ : ∃ zs, L3 0 W (.slice av4 lv4 cv4) zs ∧ Bd3 9223372036854775807 zs := by
    obtain ⟨fuel, hf⟩ := h4
    exact l3_of_trod hf
  clear hA0 hval0
  refine (lawHml_any q0 dv0 mv0 xs0 ys0 q1 dv1 mv1 xs1 ys1 _ zs2 _ zs3 _ zs4 W hx0 hdl0 hml0 hx1 hdl1 hml1 hx2 hml2 hx3 hml3 hx4 hml4 (dor_cell hvE)).mono fun e W' ⟨he, bel⟩ => ?_
  subst he
  exact ⟨_, rfl, _, _, _, [], _, [.cell 0 0], hW', trodAll_mk1 (shut_bool Tryd.underlying4 _), trodAll_mk5 (Below.trod Tryd.laidOut (by kernel_rfl) (of_decide_eq_true (by kernel_rfl)) k0 bel lt0) (Below.trod Tryd.laidOut (by kernel_rfl) (of_decide_eq_true (by kernel_rfl)) k1 bel lt1) (Below.trod Tryd.laidOut (by kernel_rfl) (of_decide_eq_true (by kernel_rfl)) k2 bel lt2) (Below.trod Tryd.laidOut (by kernel_rfl) (of_decide_eq_true (by kernel_rfl)) k3 bel lt3) (Below.trod Tryd.laidOut (by kernel_rfl) (of_decide_eq_true (by kernel_rfl)) k4 bel lt4), dor_vars enc (dor_below bel hvE) trivial _, bel.frame _, fun h => by cases h⟩

set_option maxRecDepth 100000 in
theorem hml_unf : Tryd.checked.prog.unfollowed 7 = true := by kernel_rfl
theorem hml_rec : Tryd.checked.prog.recurses 7 = true := by
  unfold Program.recurses
  rw [hml_unf, Bool.true_or]
set_option maxRecDepth 100000 in
set_option maxHeartbeats 40000000 in
theorem hml_facts : joinedFacts Tryd.checked.prog 7 Tryd.f7 Rows.fnExactIsHomotopySpec Rows.fnExactIsHomotopyRow = true := by
  unfold joinedFacts
  simp only [Tryd.mayEnter, Tryd.liftsFinal, Tryd.make, hml_rec, hml_unf, Bool.and_eq_true]
  and_intros
  all_goals first | exact trivial | (as_aux_lemma => kernel_rfl)

theorem hml_named : Tryd.checked.prog.funcNamed Rows.fnExactIsHomotopyRow.func = some 7 := by kernel_rfl
theorem hml_inst : Tryd.f7.isInstance Tryd.checked.prog Rows.fnExactIsHomotopyRow.origin Rows.fnExactIsHomotopyRow.targs := of_decide_eq_true (by kernel_rfl)
theorem hml_wrap : Tryd.f7.isWrapper Tryd.checked.prog Rows.fnExactIsHomotopyRow.wrapper Rows.fnExactIsHomotopyRow.mainSum := by
  unfold Func.isWrapper
  first | (rw [if_pos (by decide +kernel)]; kernel_rfl) | (rw [if_neg (by decide +kernel)]; exact ⟨rfl, rfl⟩)

set_option maxHeartbeats 2000000 in
set_option maxRecDepth 100000 in
theorem hml_over : Rows.FnExactIsHomotopySaid :=
  OpenClaim.holds_of_cond 7 Tryd.f7 rfl rfl rfl rfl rfl rfl rfl ⟨rfl, rfl, rfl, rfl, rfl⟩ rfl rfl rfl rfl rfl hml_named Tryd.func7 hml_facts
    hml_inst hml_wrap (fun os started H enc _ F => by rw [OpenClaim.pre_eq_preRow]; exact hml_lifted os started H enc F)

set_option maxRecDepth 100000 in
theorem hml_plain (f : FuncId) (fn : Func) (hf : Tryd.pinned.checked.prog.funcNamed "loop.example/g01273/laws.FnExactIsHomotopy" = some f) (hfn : Tryd.pinned.checked.prog.funcs[f]? = some fn) :
    true = Tryd.pinned.checked.prog.looks [] ∧ ∀ (j : Nat) t, fn.params[j]? = some t → Tryd.pinned.checked.prog.wantsStandIn t = false := by
  obtain rfl : f = 7 := Option.some.inj (hml_named.symm.trans hf) |>.symm
  obtain rfl : fn = Tryd.f7 := (Option.some.inj (Tryd.func7.symm.trans hfn)).symm
  refine ⟨by kernel_rfl, fun j t ht => ?_⟩
  rw [Tryd.params7] at ht
  have hm := Array.mem_of_getElem? ht
  simp only [List.mem_toArray, List.mem_cons, List.not_mem_nil, or_false] at hm
  rcases hm with rfl | rfl | rfl | rfl | rfl <;> first | exact (show Tryd.prog.wantsStandIn 25 = false by kernel_rfl) | exact (show Tryd.prog.wantsStandIn 23 = false by kernel_rfl)

theorem hml_card : Rows.FnExactIsHomotopyCardSaid :=
  Claim7.holds_tied_plain_at .later [] _ _ _ _ hml_over (fun _ h => by cases h) (by kernel_rfl) (fun _ h => by cases h) fnExactIsHomotopy_row_tie rfl ⟨rfl, rfl⟩ (by kernel_rfl) rfl hml_plain (by kernel_rfl)
#print axioms hml_card
end Go.Proofs.YtpchbceohnabnabDoor
