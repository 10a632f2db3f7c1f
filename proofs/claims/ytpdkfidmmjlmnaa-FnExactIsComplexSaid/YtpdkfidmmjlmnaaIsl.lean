/-
  IsComplex of both sides in the form of the later laws.
-/
import Derived.Test.YtpdkfidmmjlmnaaQc
import Derived.Test.YtpdkfidmmjlmnaaVal
namespace Go.Proofs.Ytpdkfidmmjlmnaa
open Go.RowKit

theorem isComplexV_any (p : Int) (dv mv : Value) (ds : List Int) (ms : List (List (List Int))) (w : World) (h : Cx 0 w dv mv ds ms) (hd : ds.length ≤ 1048576) (hm : Bd3 1048576 ms) :
    Calls Try.prog 26 #[.agg #[.int .i64 p, dv, mv]] w (VrB (fun b => b = true ↔ IsCx p ds ms) w) :=
  (isComplex_any p dv mv ds ms w h hd hm).mono (by rintro e w' ⟨b, rfl, hb, hh⟩; exact ⟨b, rfl, hb, hh⟩)

set_option maxHeartbeats 800000 in
theorem spIsComplex_any (p : Int) (dv mv : Value) (ds : List Int) (ms : List (List (List Int))) (w : World) (h : Cx 0 w dv mv ds ms) (hd : ds.length ≤ 1048576) (hm : Bd3 1048576 ms) :
    Calls Try.prog 24 #[.agg #[.int .i64 p, dv, mv]] w (BB (IsCx p ds ms) w) := by
  have HM := Lib.hid hm
  have hx0 := Bx.start (p := p) 28 h
  have HX0 := Lib.hid hx0
  have H : Hid (∀ W, Cx 0 W dv mv ds ms → Calls Try.prog 82 #[.agg #[.int .i64 p, dv, mv]] W (BB (IsCx p ds ms) W)) := Lib.hid (fun W hW => l01Is_any p dv mv ds ms W hW hd HM.out)
  clear h hm hx0
  go_enter Try.func24, Try.ntmps24
  go_wp2_with fail
  refine (H.out _ HX0.out.cx).mono ?_
  rintro e w2 ⟨bb, rfl, hb2, hbb⟩
  have HBB := Lib.hid hbb
  have HB2 := Lib.hid (HX0.out.next hb2).below
  clear hbb hb2
  go_wp2
  go_ret
  exact ⟨bb, rfl, HB2.out, HBB.out⟩

theorem spIsComplexV_any (p : Int) (dv mv : Value) (ds : List Int) (ms : List (List (List Int))) (w : World) (h : Cx 0 w dv mv ds ms) (hd : ds.length ≤ 1048576) (hm : Bd3 1048576 ms) :
    Calls Try.prog 24 #[.agg #[.int .i64 p, dv, mv]] w (VrB (fun b => b = true ↔ IsCx p ds ms) w) :=
  (spIsComplex_any p dv mv ds ms w h hd hm).mono (by rintro e w' ⟨b, rfl, hb, hh⟩; exact ⟨b, rfl, hb, hh⟩)
theorem isl_uniq {P : Prop} {a b : Bool} (ha : a = true ↔ P) (hb : b = true ↔ P) : a = b := by
  cases a <;> cases b <;> simp_all
end Go.Proofs.Ytpdkfidmmjlmnaa
