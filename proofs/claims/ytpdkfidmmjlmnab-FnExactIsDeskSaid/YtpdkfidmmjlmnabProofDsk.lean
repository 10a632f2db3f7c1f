/-
  FnExactIsDesk: for every desk value that comes in (whatever its numbers, sizes and sharing), the law's call returns true and leaves the argument as it was. No condition.
-/
import Derived.Test.YtpdkfidmmjlmnabLawDsk
import Derived.Test.YtpdkfidmmjlmnabQh
namespace Go.Proofs.Ytpdkfidmmjlmnab
open Go.ChangeShapes Go.WideShapes Go.ChangeAt Go.RowKit Go.Deep

theorem arr7 {α : Type} {xs : Array α} (h : xs.size = 7) : ∃ a b c d e f g, xs = #[a, b, c, d, e, f, g] := by
  obtain ⟨l⟩ := xs
  match l, h with
  | [a, b, c, d, e, f, g], _ => exact ⟨a, b, c, d, e, f, g, rfl⟩
theorem dsk_cells : Try.prog.cellsOf 84 = 7 := by kernel_rfl

section
variable {H : Type} {enc : TypeId × Value → H} {w : World} {base : Nat} {held : Bool}
set_option maxRecDepth 100000 in
theorem filtered_of_cells {fuel : Nat} {c0 c1 c2 c3 : Value} {x : DataW H × List MemPlace} (h : DataW.trod enc Try.prog w base (fun _ => true) held fuel 28 [c0, c1, c2, c3] = some x) :
    ∃ (q : Int) (ds : List Int) (ms : List (List (List Int))) (ls : List (List Int)), c0 = .int .i64 q ∧ Fi 0 w c1 c2 c3 ds ms ls ∧ ds.length ≤ 9223372036854775807 ∧ Bd3 9223372036854775807 ms ∧ Bd2 9223372036854775807 ls := by
  obtain ⟨y0, y1, m, _, _, h0, h1⟩ := trod_struct2 Try.underlying28 h
  have h0' : DataW.trod enc Try.prog w base (fun _ => true) held m 25 [c0, c1, c2] = some y0 := h0
  have h1' : DataW.trod enc Try.prog w base (fun _ => true) held m 26 [c3] = some y1 := h1
  obtain ⟨q, ds, ms, rfl, hcx, hd, hm⟩ := complex_of_cells h0'
  obtain ⟨ls, hl1, hl2⟩ := l2_of_trod h1'
  exact ⟨q, ds, ms, ls, rfl, ⟨hcx, hl1⟩, hd, hm, hl2⟩
set_option maxRecDepth 100000 in
theorem dsk_of_trod {r : Reach} {b0 : Nat} {v : Value} {d : DataW H} {p : List MemPlace} (hv : Value.okWide Try.prog w r b0 84 v) (h : DataW.Trod enc Try.prog w base (fun _ => true) held 84 v d p) :
    ∃ (p : Int) (dv mv lv : Value) (q : Int) (ev nv : Value) (ds : List Int) (ms : List (List (List Int))) (ls : List (List Int)) (es : List Int) (ns : List (List (List Int))), v = .agg #[.int .i64 p, dv, mv, lv, .int .i64 q, ev, nv] ∧ Dk 0 w dv mv lv ev nv ds ms ls es ns ∧ DkB 9223372036854775807 ds ms ls es ns := by
  obtain ⟨cs, rfl, hsz⟩ := okWide_struct Try.underlying84 hv
  obtain ⟨c0, c1, c2, c3, c4, c5, c6, rfl⟩ := arr7 (hsz.trans dsk_cells)
  obtain ⟨fuel, hf⟩ := h
  obtain ⟨y0, y1, m, _, _, h0, h1⟩ := trod_struct2 Try.underlying84 hf
  have h0' : DataW.trod enc Try.prog w base (fun _ => true) held m 28 [c0, c1, c2, c3] = some y0 := h0
  have h1' : DataW.trod enc Try.prog w base (fun _ => true) held m 25 [c4, c5, c6] = some y1 := h1
  obtain ⟨p, ds, ms, ls, rfl, hfi, hd, hm, hl⟩ := filtered_of_cells h0'
  obtain ⟨q, es, ns, rfl, hcx, he, hn⟩ := complex_of_cells h1'
  exact ⟨p, c1, c2, c3, q, c5, c6, ds, ms, ls, es, ns, rfl, ⟨hfi, hcx⟩, ⟨hd, hm, hl, he, hn⟩⟩
end

set_option maxRecDepth 100000 in
theorem dsk_lifted (os : Os) (started : os.Started) (H : Type) (enc : TypeId × Value → H) :
    ReturnsInHanded {} Try.checked os 20 .any (Rows.fnExactIsDeskSpec.pre6 enc Try.prog Try.f20 Rows.fnExactIsDeskRow.domain false) (Rows.fnExactIsDeskSpec.post enc Try.prog Try.f20 false true false false) := by
  refine returnsInHanded_of_change (C := Try.checked) Try.own started (by kernel_rfl) Try.func20
    (ChangeSpec.witness6 (enc := enc) (C := Try.checked) false ⟨#[], #[.agg #[.int .i64 0, .slice none 0 0, .slice none 0 0, .slice none 0 0, .int .i64 0, .slice none 0 0, .slice none 0 0]], []⟩ 8 (by kernel_rfl) (by kernel_rfl) (by kernel_rfl) (by kernel_rfl)) ?_
  intro W base args ds gs before hval0 hW hcnd _
  have hval : ∀ (j : Nat) t v, Try.f20.params[j]? = some t → args[j]? = some v → Value.okWide Try.prog W .any base t v := hval0
  have hW' := hW
  obtain ⟨p, q, hA0, hV, rfl, hfz, hnd⟩ := hW
  have hA : DataW.TrodAll enc Try.prog W 0 (fun _ => true) true Try.f20.params.toList args.toList ds p := hA0
  rw [Try.params20] at hA hval
  obtain ⟨v0, d0, rfl, rfl, h0⟩ := trodAll_one hA
  obtain ⟨rfl, rfl⟩ := trodVars_none hV
  have k0 := h0
  have lt0 : ∀ x ∈ p, x.block < W.heap.size := by obtain ⟨m, hm⟩ := k0; exact DataW.trod_lt m _ _ _ hm
  obtain ⟨p0, dv, mv, lv, q0, ev, nv, xs, ys, zs, us, vs, rfl, hfi, hB⟩ := dsk_of_trod (hval 0 84 v0 rfl rfl) h0
  clear hA0 hval0
  refine (lawDesk_any p0 dv mv lv q0 ev nv xs ys zs us vs W hfi hB).mono fun e W' ⟨he, bel⟩ => ?_
  subst he
  exact ⟨_, rfl, _, _, _, [], _, [], hW', trodAll_mk1 (shut_bool Try.underlying4 _), trodAll_mk1 (Below.trod Try.laidOut (by kernel_rfl) (of_decide_eq_true (by kernel_rfl)) k0 bel lt0), rfl, bel.frame _, fun h => by cases h⟩

set_option maxRecDepth 100000 in
theorem dsk_unf : Try.checked.prog.unfollowed 20 = false := by kernel_rfl
theorem dsk_rec : Try.checked.prog.recurses 20 = false := Try.recurses dsk_unf
set_option maxRecDepth 100000 in
set_option maxHeartbeats 40000000 in
theorem dsk_facts : joinedFacts Try.checked.prog 20 Try.f20 Rows.fnExactIsDeskSpec Rows.fnExactIsDeskRow = true := by
  unfold joinedFacts
  simp only [Try.mayEnter, Try.liftsFinal, Try.make, dsk_rec, dsk_unf, Bool.and_eq_true]
  and_intros
  all_goals first | exact trivial | (as_aux_lemma => kernel_rfl)

theorem dsk_named : Try.checked.prog.funcNamed Rows.fnExactIsDeskRow.func = some 20 := by kernel_rfl
theorem dsk_inst : Try.f20.isInstance Try.checked.prog Rows.fnExactIsDeskRow.origin Rows.fnExactIsDeskRow.targs := of_decide_eq_true (by kernel_rfl)
theorem dsk_wrap : Try.f20.isWrapper Try.checked.prog Rows.fnExactIsDeskRow.wrapper Rows.fnExactIsDeskRow.mainSum := by
  unfold Func.isWrapper
  first | (rw [if_pos (by decide +kernel)]; kernel_rfl) | (rw [if_neg (by decide +kernel)]; exact ⟨rfl, rfl⟩)

set_option maxHeartbeats 2000000 in
theorem dsk_over : Rows.fnExactIsDeskRow.holds Try.pinned (OpenSpec.ofChange Rows.fnExactIsDeskSpec) :=
  OpenClaim.holds_of_wide 20 Try.f20 rfl rfl rfl rfl rfl rfl rfl ⟨rfl, rfl, rfl, rfl, rfl⟩ rfl rfl rfl rfl rfl dsk_named Try.func20 dsk_facts
    dsk_inst dsk_wrap (fun os started H enc _ => dsk_lifted os started H enc)

theorem dsk_proved : Rows.FnExactIsDeskSaid := dsk_over
#print axioms dsk_proved
end Go.Proofs.Ytpdkfidmmjlmnab
