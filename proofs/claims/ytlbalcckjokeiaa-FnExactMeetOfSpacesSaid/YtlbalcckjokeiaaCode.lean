/-
  spec.l01Code and impl.checkDegree by their contracts.
-/
import Derived.Test.YtlbalcckjokeiaaSpIs
namespace Go.Proofs.Ytlbalcckjokeiaa
open Go.RowKit

/-- The code of a complex and a degree. -/
def CodeOf (p : Int) (ds : List Int) (ms : List (List (List Int))) (n c : Int) : Prop :=
  (¬ IsCx p ds ms → c = 1) ∧ (IsCx p ds ms → ¬ (0 ≤ n ∧ n ≤ (ds.length : Int) - 1) → c = 2) ∧ (IsCx p ds ms → 0 ≤ n ∧ n ≤ (ds.length : Int) - 1 → c = 0)
def CodeR (p : Int) (ds : List Int) (ms : List (List (List Int))) (n : Int) (w : World) (e : Ending) (w' : World) : Prop := ∃ c : Int, e = .returned (.int .i64 c) ∧ Below w.heap.size w w' ∧ CodeOf p ds ms n c

set_option maxHeartbeats 1600000 in
theorem checkDegree_any (p n : Int) (dv mv : Value) (ds : List Int) (ms : List (List (List Int))) (w : World) (h : Cx 0 w dv mv ds ms) (hd : ds.length ≤ 1048576) (hm : Bd3 1048576 ms) :
    Calls Try.prog 85 #[.agg #[.int .i64 p, dv, mv], .int .i64 n] w (CodeR p ds ms n w) := by
  have HM := Lib.hid hm
  have hx0 := Bx.start (p := p) 37 h
  obtain ⟨ad, cap, rfl⟩ := Sl.shape h.dims
  have HX0 := Lib.hid hx0
  clear h hm hx0
  go_enter Try.func85, Try.ntmps85
  go_wp2_with fail
  refine (isComplex_any p _ mv ds ms _ HX0.out.cx hd HM.out).mono ?_
  rintro e w1 ⟨bb, rfl, hb1, hbb⟩
  have HX1 := Lib.hid (HX0.out.next hb1)
  have HBB := Lib.hid hbb
  clear hb1 hbb
  have c0 := HX1.out.c0
  have c1 := HX1.out.c1
  have c2 := HX1.out.c2
  cases bb with
  | false =>
    go_wp2
    go_ret
    exact ⟨1, rfl, HX1.out.below, fun _ => rfl, fun hh => absurd (HBB.out.2 hh) (by simp), fun hh => absurd (HBB.out.2 hh) (by simp)⟩
  | true =>
    have HCX : Hid (IsCx p ds ms) := Lib.hid (HBB.out.1 (by simp))
    go_wp2_with fail
    refine (topOf_any p _ mv ds.length ad cap _ rfl hd).mono ?_
    rintro e w2 ⟨rfl, hb2⟩
    have HX2 := Lib.hid (HX1.out.next hb2)
    clear hb2
    go_wp2_with fail
    by_cases hr : 0 ≤ n ∧ n ≤ (ds.length : Int) - 1
    · have HR := Lib.hid hr
      clear hr
      refine (in_yes HR.out _).mono ?_
      rintro e w' ⟨rfl, rfl⟩
      go_wp2
      go_ret
      exact ⟨0, rfl, HX2.out.below, fun hh => absurd HCX.out hh, fun _ hh => absurd HR.out hh, fun _ _ => rfl⟩
    · have HR := Lib.hid hr
      clear hr
      refine (in_no HR.out _).mono ?_
      rintro e w' ⟨rfl, rfl⟩
      go_wp2
      go_ret
      exact ⟨2, rfl, HX2.out.below, fun hh => absurd HCX.out hh, fun _ _ => rfl, fun _ hh => absurd hh HR.out⟩

set_option maxHeartbeats 1600000 in
theorem l01Code_any (p n : Int) (dv mv : Value) (ds : List Int) (ms : List (List (List Int))) (w : World) (h : Cx 0 w dv mv ds ms) (hd : ds.length ≤ 1048576) (hm : Bd3 1048576 ms) :
    Calls Try.prog 70 #[.agg #[.int .i64 p, dv, mv], .int .i64 n] w (CodeR p ds ms n w) := by
  have HM := Lib.hid hm
  have hx0 := Bx.start (p := p) 37 h
  obtain ⟨ad, cap, rfl⟩ := Sl.shape h.dims
  have HX0 := Lib.hid hx0
  clear h hm hx0
  go_enter Try.func70, Try.ntmps70
  go_wp2_with fail
  refine (l01Is_any p _ mv ds ms _ HX0.out.cx hd HM.out).mono ?_
  rintro e w1 ⟨bb, rfl, hb1, hbb⟩
  have HX1 := Lib.hid (HX0.out.next hb1)
  have HBB := Lib.hid hbb
  clear hb1 hbb
  have c0 := HX1.out.c0
  have c1 := HX1.out.c1
  have c2 := HX1.out.c2
  cases bb with
  | false =>
    go_wp2
    go_ret
    exact ⟨1, rfl, HX1.out.below, fun _ => rfl, fun hh => absurd (HBB.out.2 hh) (by simp), fun hh => absurd (HBB.out.2 hh) (by simp)⟩
  | true =>
    have HCX : Hid (IsCx p ds ms) := Lib.hid (HBB.out.1 (by simp))
    go_wp2_with fail
    by_cases hr : 0 ≤ n ∧ n ≤ (ds.length : Int) - 1
    · have HR := Lib.hid hr
      clear hr
      refine (spin_yes HR.out _).mono ?_
      rintro e w' ⟨rfl, rfl⟩
      go_wp2
      go_ret
      exact ⟨0, rfl, HX1.out.below, fun hh => absurd HCX.out hh, fun _ hh => absurd HR.out hh, fun _ _ => rfl⟩
    · have HR := Lib.hid hr
      clear hr
      refine (spin_no HR.out _).mono ?_
      rintro e w' ⟨rfl, rfl⟩
      go_wp2
      go_ret
      exact ⟨2, rfl, HX1.out.below, fun hh => absurd HCX.out hh, fun _ _ => rfl, fun _ hh => absurd hh HR.out⟩

end Go.Proofs.Ytlbalcckjokeiaa
