/-
  spec.l01Code, l01Dim, l01Map, l01Vector and impl.checkDegree, by their contracts.
-/
import Derived.Test.YtidddjdddfokoaaEul
import Derived.Test.YtidddjdddfokoaaMark
namespace Go.Proofs.Ytidddjdddfokoaa
open Go.RowKit

/-- The code of a complex and a degree. -/
def CodeOf (p : Int) (ds : List Int) (ms : List (List (List Int))) (n c : Int) : Prop :=
  (¬ IsCx p ds ms → c = 1) ∧ (IsCx p ds ms → ¬ (0 ≤ n ∧ n ≤ (ds.length : Int) - 1) → c = 2) ∧ (IsCx p ds ms → 0 ≤ n ∧ n ≤ (ds.length : Int) - 1 → c = 0)
def CodeR (p : Int) (ds : List Int) (ms : List (List (List Int))) (n : Int) (w : World) (e : Ending) (w' : World) : Prop := ∃ c : Int, e = .returned (.int .i64 c) ∧ Below w.heap.size w w' ∧ CodeOf p ds ms n c

set_option maxHeartbeats 1600000 in
theorem checkDegree_any (p n : Int) (dv mv : Value) (ds : List Int) (ms : List (List (List Int))) (w : World) (h : Cx 0 w dv mv ds ms) (hd : ds.length ≤ 1048576) (hm : Bd3 1048576 ms) :
    Calls Try.prog 100 #[.agg #[.int .i64 p, dv, mv], .int .i64 n] w (CodeR p ds ms n w) := by
  have HM := Lib.hid hm
  have hx0 := Bx.start (p := p) 27 h
  obtain ⟨ad, cap, rfl⟩ := Sl.shape h.dims
  have HX0 := Lib.hid hx0
  clear h hm hx0
  go_enter Try.func100, Try.ntmps100
  go_wp2_with fail
  refine (isComplex_any p _ mv ds ms _ HX0.out.cx hd HM.out).mono ?_
  rintro e w1 ⟨bb, rfl, hb1, hbb⟩
  have HX1 := Lib.hid (HX0.out.next hb1)
  have HBB := Lib.hid hbb
  clear hb1 hbb
  have c0 := HX1.out.c0
  have c1 := HX1.out.c1
  have c2 := HX1.out.c2
  cases bb with
  | false =>
    go_wp2
    go_ret
    exact ⟨1, rfl, HX1.out.below, fun _ => rfl, fun hh => absurd (HBB.out.2 hh) (by simp), fun hh => absurd (HBB.out.2 hh) (by simp)⟩
  | true =>
    have HCX : Hid (IsCx p ds ms) := Lib.hid (HBB.out.1 (by simp))
    go_wp2_with fail
    refine (topOf_any p _ mv ds.length ad cap _ rfl hd).mono ?_
    rintro e w2 ⟨rfl, hb2⟩
    have HX2 := Lib.hid (HX1.out.next hb2)
    clear hb2
    go_wp2_with fail
    by_cases hr : 0 ≤ n ∧ n ≤ (ds.length : Int) - 1
    · have HR := Lib.hid hr
      clear hr
      refine (in_yes HR.out _).mono ?_
      rintro e w' ⟨rfl, rfl⟩
      go_wp2
      go_ret
      exact ⟨0, rfl, HX2.out.below, fun hh => absurd HCX.out hh, fun _ hh => absurd HR.out hh, fun _ _ => rfl⟩
    · have HR := Lib.hid hr
      clear hr
      refine (in_no HR.out _).mono ?_
      rintro e w' ⟨rfl, rfl⟩
      go_wp2
      go_ret
      exact ⟨2, rfl, HX2.out.below, fun hh => absurd HCX.out hh, fun _ _ => rfl, fun _ hh => absurd hh HR.out⟩

set_option maxHeartbeats 1600000 in
theorem l01Code_any (p n : Int) (dv mv : Value) (ds : List Int) (ms : List (List (List Int))) (w : World) (h : Cx 0 w dv mv ds ms) (hd : ds.length ≤ 1048576) (hm : Bd3 1048576 ms) :
    Calls Try.prog 101 #[.agg #[.int .i64 p, dv, mv], .int .i64 n] w (CodeR p ds ms n w) := by
  have HM := Lib.hid hm
  have hx0 := Bx.start (p := p) 27 h
  obtain ⟨ad, cap, rfl⟩ := Sl.shape h.dims
  have HX0 := Lib.hid hx0
  clear h hm hx0
  go_enter Try.func101, Try.ntmps101
  go_wp2_with fail
  refine (l01Is_any p _ mv ds ms _ HX0.out.cx hd HM.out).mono ?_
  rintro e w1 ⟨bb, rfl, hb1, hbb⟩
  have HX1 := Lib.hid (HX0.out.next hb1)
  have HBB := Lib.hid hbb
  clear hb1 hbb
  have c0 := HX1.out.c0
  have c1 := HX1.out.c1
  have c2 := HX1.out.c2
  cases bb with
  | false =>
    go_wp2
    go_ret
    exact ⟨1, rfl, HX1.out.below, fun _ => rfl, fun hh => absurd (HBB.out.2 hh) (by simp), fun hh => absurd (HBB.out.2 hh) (by simp)⟩
  | true =>
    have HCX : Hid (IsCx p ds ms) := Lib.hid (HBB.out.1 (by simp))
    go_wp2_with fail
    by_cases hr : 0 ≤ n ∧ n ≤ (ds.length : Int) - 1
    · have HR := Lib.hid hr
      clear hr
      refine (spin_yes HR.out _).mono ?_
      rintro e w' ⟨rfl, rfl⟩
      go_wp2
      go_ret
      exact ⟨0, rfl, HX1.out.below, fun hh => absurd HCX.out hh, fun _ hh => absurd HR.out hh, fun _ _ => rfl⟩
    · have HR := Lib.hid hr
      clear hr
      refine (spin_no HR.out _).mono ?_
      rintro e w' ⟨rfl, rfl⟩
      go_wp2
      go_ret
      exact ⟨2, rfl, HX1.out.below, fun hh => absurd HCX.out hh, fun _ _ => rfl, fun _ hh => absurd hh HR.out⟩

/-- The dimension of a degree, 0 beyond the top. -/
def dimZ (ds : List Int) (n : Int) : Int := if 0 ≤ n ∧ n ≤ (ds.length : Int) - 1 then ds.getD n.toNat 0 else 0

set_option maxHeartbeats 800000 in
theorem l01Dim_any (p n : Int) (dv mv : Value) (ds : List Int) (ms : List (List (List Int))) (w : World) (h : Cx 0 w dv mv ds ms) (hd : ds.length ≤ 1048576) :
    Calls Try.prog 96 #[.agg #[.int .i64 p, dv, mv], .int .i64 n] w (BR (.int .i64 (dimZ ds n)) w) := by
  have hx0 := Bx.start (p := p) 27 h
  have HX0 := Lib.hid hx0
  have H := Lib.hid h
  clear h hx0
  by_cases hr : 0 ≤ n ∧ n ≤ (ds.length : Int) - 1
  · have hdz : dimZ ds n = ds.getD n.toNat 0 := if_pos hr
    rw [hdz]
    clear hdz
    obtain ⟨q, rfl⟩ : ∃ q : Nat, n = (q : Int) := ⟨n.toNat, by omega⟩
    have hq : q < ds.length := by omega
    have HR := Lib.hid hr
    clear hr
    refine Sl.cases H.out.dims (fun _ _ hx _ => absurd hq (by simp [hx])) (fun bd od capd hv _ hposd hcld => ?_)
    obtain ⟨u, hu, hru⟩ := hcld q hq
    subst hv
    have hu2 := later HX0.out.below (Nat.le_refl _) hu
    obtain ⟨x, hx⟩ : ∃ x, x = ds[q] := ⟨_, rfl⟩
    rw [hru, ← hx] at hu2
    have HX : Hid (ds.getD (q : Int).toNat 0 = x) := Lib.hid (by rw [hx, Int.toNat_natCast, getD_of_lt _ hq])
    clear hx hu hru hcld
    go_enter Try.func96, Try.ntmps96
    go_wp2_with fail
    refine (spin_yes HR.out _).mono ?_
    rintro e w' ⟨rfl, rfl⟩
    go_wp2
    go_ret
    exact ⟨ret_int HX.out.symm, HX0.out.below⟩
  · have hdz : dimZ ds n = 0 := if_neg hr
    rw [hdz]
    clear hdz
    have HR := Lib.hid hr
    clear hr
    obtain ⟨ad, cap, rfl⟩ := Sl.shape H.out.dims
    go_enter Try.func96, Try.ntmps96
    go_wp2_with fail
    refine (spin_no HR.out _).mono ?_
    rintro e w' ⟨rfl, rfl⟩
    go_wp2
    go_ret
    exact ⟨rfl, HX0.out.below⟩

/-- The rows of the differential of a degree; for the degree 0, and beyond the top, rows without numbers. -/
def mapZ (ds : List Int) (ms : List (List (List Int))) (n : Int) : List (List Int) := if 1 ≤ n ∧ n ≤ (ds.length : Int) - 1 then ms.getD (n.toNat - 1) [] else List.replicate (dimZ ds n).toNat []
def L2R (xs : List (List Int)) (w : World) (e : Ending) (w' : World) : Prop := ∃ v, e = .returned v ∧ L2 0 w' v xs ∧ Below w.heap.size w w'

theorem owns_below {w w' : World} {base : Nat} {e : TypeId} {size n : Nat} {v : Value} {xs : List Value} (h : w.ownsRow base e size v n xs) (hb : Below w.heap.size w w') : w'.ownsRow base e size v n xs := by
  refine ⟨h.1, ?_⟩
  rcases h.2 with h2 | ⟨g, cap, cur, hv, hg, hh, r⟩
  · exact Or.inl h2
  · exact Or.inr ⟨g, cap, cur, hv, hg, by rw [hb.block g (Array.getElem?_eq_some_iff.1 hh).1]; exact hh, r⟩
/-- An owned slice of values reads as the list that its values read as. -/
theorem sl_of_owns {α : Type} {w : World} {base lo : Nat} {e : TypeId} {n : Nat} {v : Value} {vs : List Value} {R : World → Value → α → Prop} {xs : List α} (h : w.ownsRow base e 1 v n vs) (hlo : lo ≤ base) (hl : xs.length = n)
    (hR : ∀ k (h1 : k < xs.length) (h2 : k < vs.length), R w vs[k] xs[k]) : Sl lo R w v xs := by
  have hvl : vs.length = n := by have := h.1; omega
  rcases h.2 with ⟨rfl, h0⟩ | ⟨g, cap, cur, rfl, hg, hh, hnc, _, hcs, htk⟩
  · exact Or.inl ⟨List.eq_nil_of_length_eq_zero (by omega), _, _, rfl⟩
  · by_cases h0 : n = 0
    · subst h0
      exact Or.inl ⟨List.eq_nil_of_length_eq_zero hl, _, _, rfl⟩
    · refine Or.inr ⟨g, 0, cap, by rw [hl], by omega, by omega, fun k hk => ⟨vs[k]'(by omega), ?_, hR k hk (by omega)⟩⟩
      rw [Nat.zero_add, h.cellAt k (by omega)]
      simp
end Go.Proofs.Ytidddjdddfokoaa
