/-
  spec.l01Dim by its contract; what l01Map answers.
-/
import Derived.Test.YtlbalcckjokeiaaSpIs
import Derived.Test.YtlbalcckjokeiaaMark
namespace Go.Proofs.Ytlbalcckjokeiaa
open Go.RowKit

/-- The dimension of a degree, 0 beyond the top. -/
def dimZ (ds : List Int) (n : Int) : Int := if 0 ≤ n ∧ n ≤ (ds.length : Int) - 1 then ds.getD n.toNat 0 else 0

set_option maxHeartbeats 800000 in
theorem l01Dim_any (p n : Int) (dv mv : Value) (ds : List Int) (ms : List (List (List Int))) (w : World) (h : Cx 0 w dv mv ds ms) (hd : ds.length ≤ 1048576) :
    Calls Try.prog 96 #[.agg #[.int .i64 p, dv, mv], .int .i64 n] w (BR (.int .i64 (dimZ ds n)) w) := by
  have hx0 := Bx.start (p := p) 37 h
  have HX0 := Lib.hid hx0
  have H := Lib.hid h
  clear h hx0
  by_cases hr : 0 ≤ n ∧ n ≤ (ds.length : Int) - 1
  · have hdz : dimZ ds n = ds.getD n.toNat 0 := if_pos hr
    rw [hdz]
    clear hdz
    obtain ⟨q, rfl⟩ : ∃ q : Nat, n = (q : Int) := ⟨n.toNat, by omega⟩
    have hq : q < ds.length := by omega
    have HR := Lib.hid hr
    clear hr
    refine Sl.cases H.out.dims (fun _ _ hx _ => absurd hq (by simp [hx])) (fun bd od capd hv _ hposd hcld => ?_)
    obtain ⟨u, hu, hru⟩ := hcld q hq
    subst hv
    have hu2 := later HX0.out.below (Nat.le_refl _) hu
    obtain ⟨x, hx⟩ : ∃ x, x = ds[q] := ⟨_, rfl⟩
    rw [hru, ← hx] at hu2
    have HX : Hid (ds.getD (q : Int).toNat 0 = x) := Lib.hid (by rw [hx, Int.toNat_natCast, getD_of_lt _ hq])
    clear hx hu hru hcld
    go_enter Try.func96, Try.ntmps96
    go_wp2_with fail
    refine (spin_yes HR.out _).mono ?_
    rintro e w' ⟨rfl, rfl⟩
    go_wp2
    go_ret
    exact ⟨ret_int HX.out.symm, HX0.out.below⟩
  · have hdz : dimZ ds n = 0 := if_neg hr
    rw [hdz]
    clear hdz
    have HR := Lib.hid hr
    clear hr
    obtain ⟨ad, cap, rfl⟩ := Sl.shape H.out.dims
    go_enter Try.func96, Try.ntmps96
    go_wp2_with fail
    refine (spin_no HR.out _).mono ?_
    rintro e w' ⟨rfl, rfl⟩
    go_wp2
    go_ret
    exact ⟨rfl, HX0.out.below⟩

/-- The rows of the differential of a degree; for the degree 0, and beyond the top, rows without numbers. -/
def mapZ (ds : List Int) (ms : List (List (List Int))) (n : Int) : List (List Int) := if 1 ≤ n ∧ n ≤ (ds.length : Int) - 1 then ms.getD (n.toNat - 1) [] else List.replicate (dimZ ds n).toNat []
def L2R (xs : List (List Int)) (w : World) (e : Ending) (w' : World) : Prop := ∃ v, e = .returned v ∧ L2 0 w' v xs ∧ Below w.heap.size w w'

end Go.Proofs.Ytlbalcckjokeiaa
