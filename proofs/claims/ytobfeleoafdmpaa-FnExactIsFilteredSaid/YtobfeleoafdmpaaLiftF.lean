/-
  How a filtered complex that came in reads: from the reader's words to the plain lists of this seat's walks.
-/
import Derived.Test.YtobfeleoafdmpaaLift
import Derived.Test.YtobfeleoafdmpaaFil
namespace Go.Proofs.Ytobfeleoafdmpaa
open Go.ChangeShapes Go.WideShapes Go.ChangeAt Go.RowKit Go.Deep

theorem Try.cellsF : Try.prog.cellsOf 28 = 4 := by kernel_rfl

section
variable {H : Type} {enc : TypeId × Value → H} {w : World} {base : Nat} {held : Bool}
set_option maxRecDepth 100000 in
theorem complex_of_cells {fuel : Nat} {c0 c1 c2 : Value} {x : DataW H × List MemPlace} (h : DataW.trod enc Try.prog w base (fun _ => true) held fuel 25 [c0, c1, c2] = some x) :
    ∃ (q : Int) (ds : List Int) (ms : List (List (List Int))), c0 = .int .i64 q ∧ Cx 0 w c1 c2 ds ms ∧ ds.length ≤ 9223372036854775807 ∧ Bd3 9223372036854775807 ms := by
  obtain ⟨y0, y1, y2, m, _, _, h0, h1, h2⟩ := trod_struct3 Try.underlying25 h
  have h0' : DataW.trod enc Try.prog w base (fun _ => true) held m 2 [c0] = some y0 := h0
  have h1' : DataW.trod enc Try.prog w base (fun _ => true) held m 22 [c1] = some y1 := h1
  have h2' : DataW.trod enc Try.prog w base (fun _ => true) held m 23 [c2] = some y2 := h2
  obtain ⟨q, e0, _, _⟩ := DataW.trod_int Try.underlying2 h0'
  obtain ⟨ds, hd1, hd2⟩ := l1_of_trod h1'
  obtain ⟨ms, hm1, hm2⟩ := l3_of_trod h2'
  obtain rfl : c0 = .int .i64 q := by simpa using e0
  unfold Bd1 at hd2
  exact ⟨q, ds, ms, rfl, ⟨hd1, hm1⟩, hd2, hm2⟩

set_option maxRecDepth 100000 in
theorem filtered_of_trod {r : Reach} {b0 : Nat} {v : Value} {d : DataW H} {p : List MemPlace} (hv : Value.okWide Try.prog w r b0 28 v) (h : DataW.Trod enc Try.prog w base (fun _ => true) held 28 v d p) :
    ∃ (q : Int) (dv mv lv : Value) (ds : List Int) (ms : List (List (List Int))) (ls : List (List Int)), v = .agg #[.int .i64 q, dv, mv, lv] ∧ Fi 0 w dv mv lv ds ms ls ∧ ds.length ≤ 9223372036854775807 ∧ Bd3 9223372036854775807 ms ∧ Bd2 9223372036854775807 ls := by
  obtain ⟨cs, rfl, hsz⟩ := okWide_struct Try.underlying28 hv
  obtain ⟨c0, c1, c2, c3, rfl⟩ := Go.Joins.array4 (hsz.trans Try.cellsF)
  obtain ⟨fuel, hf⟩ := h
  obtain ⟨y0, y1, m, _, _, h0, h1⟩ := trod_struct2 Try.underlying28 hf
  have h0' : DataW.trod enc Try.prog w base (fun _ => true) held m 25 [c0, c1, c2] = some y0 := h0
  have h1' : DataW.trod enc Try.prog w base (fun _ => true) held m 26 [c3] = some y1 := h1
  obtain ⟨q, ds, ms, rfl, hcx, hd, hm⟩ := complex_of_cells h0'
  obtain ⟨ls, hl1, hl2⟩ := l2_of_trod h1'
  exact ⟨q, c1, c2, c3, ds, ms, ls, rfl, ⟨hcx, hl1⟩, hd, hm, hl2⟩
end
end Go.Proofs.Ytobfeleoafdmpaa
