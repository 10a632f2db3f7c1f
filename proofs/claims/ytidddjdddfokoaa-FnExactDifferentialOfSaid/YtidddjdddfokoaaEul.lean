/-
  impl.EulerNumber and spec.EulerNumber by their contracts; the walk of laws.FnExactEulerNumber.
-/
import Derived.Test.YtidddjdddfokoaaLawIs
namespace Go.Proofs.Ytidddjdddfokoaa
open Go.RowKit

theorem l01Is_any (p : Int) (dv mv : Value) (ds : List Int) (ms : List (List (List Int))) (w : World) (h : Cx 0 w dv mv ds ms) (hd : ds.length ≤ 1048576) (hm : Bd3 1048576 ms) :
    Calls Try.prog 77 #[.agg #[.int .i64 p, dv, mv]] w (BB (IsCx p ds ms) w) := by
  by_cases h1 : IsP p
  · by_cases h2 : 1 ≤ ds.length ∧ ds.length ≤ 6 ∧ ms.length + 1 = ds.length
    · exact l01Is_yes p dv mv ds ms w h hm h1 h2.1 h2.2.1 h2.2.2
    · exact l01Is_no p dv mv ds ms w h hd hm (Or.inr (by omega))
  · exact l01Is_no p dv mv ds ms w h hd hm (Or.inl h1)

/-- The alternating sum of the first k dimensions. -/
def eulTo (ds : List Int) : Nat → Int
  | 0 => 0
  | k + 1 => if k % 2 = 0 then eulTo ds k + ds.getD k 0 else eulTo ds k - ds.getD k 0
theorem eulTo_bd {ds : List Int} (h : ∀ d ∈ ds, 0 ≤ d ∧ d ≤ 8) (k : Nat) (hk : k ≤ ds.length) : -(8 * k : Int) ≤ eulTo ds k ∧ eulTo ds k ≤ 8 * k := by
  induction k with
  | zero => simp [eulTo]
  | succ k ih =>
    have hd : 0 ≤ ds.getD k 0 ∧ ds.getD k 0 ≤ 8 := by rw [getD_of_lt _ (by omega)]; exact h _ (List.getElem_mem _)
    have := ih (by omega)
    simp only [eulTo]
    split <;> omega

def EuR (p : Int) (ds : List Int) (ms : List (List (List Int))) (w : World) (e : Ending) (w' : World) : Prop :=
  ∃ r c : Int, e = .returned (.tuple #[.int .i64 r, .int .i64 c]) ∧ Below w.heap.size w w' ∧ (IsCx p ds ms → r = eulTo ds ds.length ∧ c = 0) ∧ (¬ IsCx p ds ms → r = 0 ∧ c = 1)

set_option maxHeartbeats 1600000 in
theorem euler_any (p : Int) (dv mv : Value) (ds : List Int) (ms : List (List (List Int))) (w : World) (h : Cx 0 w dv mv ds ms) (hd : ds.length ≤ 1048576) (hm : Bd3 1048576 ms) :
    Calls Try.prog 34 #[.agg #[.int .i64 p, dv, mv]] w (EuR p ds ms w) := by
  have HM := Lib.hid hm
  have hx0 := Bx.start (p := p) 27 h
  obtain ⟨ad, cap, rfl⟩ := Sl.shape h.dims
  have HX0 := Lib.hid hx0
  clear h hm hx0
  go_enter Try.func34, Try.ntmps34
  go_wp2_with fail
  refine (isComplex_any p _ mv ds ms _ HX0.out.cx hd HM.out).mono ?_
  rintro e w1 ⟨bb, rfl, hb1, hbb⟩
  have HX1 := Lib.hid (HX0.out.next hb1)
  have HBB := Lib.hid hbb
  clear hb1 hbb
  have c0 := HX1.out.c0
  have c1 := HX1.out.c1
  have c2 := HX1.out.c2
  cases bb with
  | false =>
    go_wp2
    go_ret2
    exact ⟨0, 1, rfl, HX1.out.below, fun hh => absurd (HBB.out.2 hh) (by simp), fun _ => ⟨rfl, rfl⟩⟩
  | true =>
    have HCX : Hid (IsCx p ds ms) := Lib.hid (HBB.out.1 (by simp))
    go_wp2
    go_loop [4, 5, 6, 13] (fun s _ _ i => ∃ (k : Nat), k ≤ ds.length ∧ i = .int .i64 k ∧ s = .int .i64 (eulTo ds k)) (fun _ _ _ i => ds.length - (intOf i).toNat)
    case atStart => exact ⟨0, Nat.zero_le _, rfl, rfl⟩
    case round =>
      obtain ⟨k, hk, rfl, rfl⟩ := hrel
      have hbd := eulTo_bd HCX.out.1.dims k hk
      have hl6 := HCX.out.1.len1
      obtain ⟨s, hs⟩ : ∃ s, s = eulTo ds k := ⟨_, rfl⟩
      rw [← hs] at hbd
      rw [← hs]
      have HS := Lib.hid hs
      clear hs
      obtain ⟨hs0, hs1⟩ := hbd
      by_cases hlt : k < ds.length
      · refine Sl.cases HX1.out.cx.dims (fun _ _ hx _ => absurd hlt (by simp [hx])) (fun bd od capd hv _ hposd hcld => ?_)
        injection hv with e1 _ e3
        subst e1 e3
        obtain ⟨u, hu, hr⟩ := hcld k hlt
        obtain ⟨x, hx⟩ : ∃ x, x = ds[k] := ⟨_, rfl⟩
        have hx8 := HCX.out.1.dims _ (List.getElem_mem hlt)
        rw [hr, ← hx] at hu
        rw [← hx] at hx8
        have HX := Lib.hid hx
        obtain ⟨hx0, hx1⟩ := hx8
        clear hx hr hcld
        by_cases hp : k % 2 = 0
        · have hpe : ((k : Int) % 2 == 0) = true := by simp; omega
          have HP := Lib.hid hp
          clear hp
          go_wp2
          go_round
          case rel => exact ⟨k + 1, by omega, by go_num, by simp only [eulTo]; rw [if_pos HP.out, getD_of_lt _ hlt, ← HX.out, ← HS.out]⟩
          case measure => simp [intOf]; omega
        · have hpe : ((k : Int) % 2 == 0) = false := by simp; omega
          have HP := Lib.hid hp
          clear hp
          go_wp2
          go_round
          case rel => exact ⟨k + 1, by omega, by go_num, by simp only [eulTo]; rw [if_neg HP.out, getD_of_lt _ hlt, ← HX.out, ← HS.out]⟩
          case measure => simp [intOf]; omega
      · have hkk : Hid (k = ds.length) := Lib.hid (by omega)
        go_wp2
        go_ret2
        exact ⟨s, 0, rfl, HX1.out.below, fun _ => ⟨by rw [HS.out, hkk.out], rfl⟩, fun hh => absurd HCX.out hh⟩

set_option maxHeartbeats 1600000 in
theorem speuler_any (p : Int) (dv mv : Value) (ds : List Int) (ms : List (List (List Int))) (w : World) (h : Cx 0 w dv mv ds ms) (hd : ds.length ≤ 1048576) (hm : Bd3 1048576 ms) :
    Calls Try.prog 35 #[.agg #[.int .i64 p, dv, mv]] w (EuR p ds ms w) := by
  have HH := Lib.hid (fun W (hW : Cx 0 W dv mv ds ms) => l01Is_any p dv mv ds ms W hW hd hm)
  have hx0 := Bx.start (p := p) 27 h
  obtain ⟨ad, cap, rfl⟩ := Sl.shape h.dims
  have HX0 := Lib.hid hx0
  clear h hm hx0
  go_enter Try.func35, Try.ntmps35
  go_wp2_with fail
  refine (HH.out _ HX0.out.cx).mono ?_
  rintro e w1 ⟨bb, rfl, hb1, hbb⟩
  have HX1 := Lib.hid (HX0.out.next hb1)
  have HBB := Lib.hid hbb
  clear hb1 hbb
  have c0 := HX1.out.c0
  have c1 := HX1.out.c1
  have c2 := HX1.out.c2
  cases bb with
  | false =>
    go_wp2
    go_ret2
    exact ⟨0, 1, rfl, HX1.out.below, fun hh => absurd (HBB.out.2 hh) (by simp), fun _ => ⟨rfl, rfl⟩⟩
  | true =>
    have HCX : Hid (IsCx p ds ms) := Lib.hid (HBB.out.1 (by simp))
    go_wp2
    go_loop [4, 5] (fun s i => ∃ (k : Nat), k ≤ ds.length ∧ i = .int .i64 k ∧ s = .int .i64 (eulTo ds k)) (fun _ i => ds.length - (intOf i).toNat)
    case atStart => exact ⟨0, Nat.zero_le _, rfl, rfl⟩
    case round =>
      obtain ⟨k, hk, rfl, rfl⟩ := hrel
      have hbd := eulTo_bd HCX.out.1.dims k hk
      have hl6 := HCX.out.1.len1
      obtain ⟨s, hs⟩ : ∃ s, s = eulTo ds k := ⟨_, rfl⟩
      rw [← hs] at hbd
      rw [← hs]
      have HS := Lib.hid hs
      clear hs
      obtain ⟨hs0, hs1⟩ := hbd
      by_cases hlt : k < ds.length
      · refine Sl.cases HX1.out.cx.dims (fun _ _ hx _ => absurd hlt (by simp [hx])) (fun bd od capd hv _ hposd hcld => ?_)
        injection hv with e1 _ e3
        subst e1 e3
        obtain ⟨u, hu, hr⟩ := hcld k hlt
        obtain ⟨x, hx⟩ : ∃ x, x = ds[k] := ⟨_, rfl⟩
        have hx8 := HCX.out.1.dims _ (List.getElem_mem hlt)
        rw [hr, ← hx] at hu
        rw [← hx] at hx8
        have HX := Lib.hid hx
        obtain ⟨hx0, hx1⟩ := hx8
        clear hx hr hcld
        by_cases hp : k % 2 = 0
        · have hpe : (k : Int) % 2 = 0 := by omega
          have HP := Lib.hid hp
          clear hp
          go_wp2
          clear hpe
          go_round
          case rel => exact ⟨k + 1, by omega, by go_num, by simp only [eulTo]; rw [if_pos HP.out, getD_of_lt _ hlt, ← HX.out, ← HS.out]⟩
          case measure => simp [intOf]; omega
        · have hpe : (k : Int) % 2 = 1 := by omega
          have HP := Lib.hid hp
          clear hp
          go_wp2
          clear hpe
          go_round
          case rel => exact ⟨k + 1, by omega, by go_num, by simp only [eulTo]; rw [if_neg HP.out, getD_of_lt _ hlt, ← HX.out, ← HS.out]; go_num⟩
          case measure => simp [intOf]; omega
      · have hkk : Hid (k = ds.length) := Lib.hid (by omega)
        go_wp2
        go_ret2
        exact ⟨s, 0, rfl, HX1.out.below, fun _ => ⟨by rw [HS.out, hkk.out], rfl⟩, fun hh => absurd HCX.out hh⟩

theorem EuR.same {p : Int} {ds : List Int} {ms : List (List (List Int))} {r c r2 c2 : Int} (h1 : (IsCx p ds ms → r = eulTo ds ds.length ∧ c = 0) ∧ (¬ IsCx p ds ms → r = 0 ∧ c = 1)) (h2 : (IsCx p ds ms → r2 = eulTo ds ds.length ∧ c2 = 0) ∧ (¬ IsCx p ds ms → r2 = 0 ∧ c2 = 1)) : r2 = r ∧ c2 = c := by
  by_cases h : IsCx p ds ms
  · have a := h1.1 h
    have b := h2.1 h
    omega
  · have a := h1.2 h
    have b := h2.2 h
    omega

set_option maxHeartbeats 3200000 in
theorem lawEuler_any (p : Int) (dv mv : Value) (ds : List Int) (ms : List (List (List Int))) (w : World) (h : Cx 0 w dv mv ds ms) (hdl : ds.length ≤ 9223372036854775807) (hml : Bd3 9223372036854775807 ms) :
    Calls Try.prog 12 #[.agg #[.int .i64 p, dv, mv]] w (BR (.bool true) w) := by
  have HML := Lib.hid hml
  have HX0 := Lib.hid (Bx.start (p := p) 54 h)
  clear hml h
  go_enter Try.func12, Try.ntmps12
  go_wp2_with fail
  refine (szComplex_any p dv mv ds ms 1048576 _ HX0.out.cx.dims HX0.out.cx.maps (by omega) (by omega) hdl HML.out).mono ?_
  rintro e w1 ⟨r, rfl, hb1, hpost⟩
  have HX1 := Lib.hid (HX0.out.next hb1)
  clear hb1 HX0
  have c0 := HX1.out.c0
  have c1 := HX1.out.c1
  have c2 := HX1.out.c2
  rcases hpost with rfl | ⟨hp0, hp1, hp2, hp3⟩
  · go_wp2
    go_ret
    exact ⟨rfl, HX1.out.below⟩
  · have hds : ds.length ≤ 1048576 := hp2
    have HMS := Lib.hid hp3
    clear hp2 hp3
    go_wp2_with fail
    refine (toComplex_any p dv mv ds ms _ HX1.out.cx hds HMS.out).mono ?_
    rintro e w2 ⟨dv2, mv2, rfl, hcx2, hb2⟩
    have HX2 := Lib.hid (HX1.out.next hb2)
    have HC2 := Lib.hid hcx2
    clear hcx2 hb2 c0 c1 c2 HX1
    go_wp2_with fail
    refine (speuler_any p dv2 mv2 ds ms _ HC2.out.zero hds HMS.out).mono ?_
    rintro e w3 ⟨r0, k0, rfl, hb3, hbb0⟩
    have HX3 := Lib.hid (HX2.out.next hb3)
    have HBB0 := Lib.hid hbb0
    clear hb3 hbb0 HX2 HC2
    have c0 := HX3.out.c0
    have c1 := HX3.out.c1
    have c2 := HX3.out.c2
    go_wp2_with fail
    refine (toComplex_any p dv mv ds ms _ HX3.out.cx hds HMS.out).mono ?_
    rintro e w4 ⟨dv4, mv4, rfl, hcx4, hb4⟩
    have HX4 := Lib.hid (HX3.out.next hb4)
    have hsh := hcx4.shapes
    have HC4 := Lib.hid hcx4
    clear hcx4 hb4 c0 c1 c2 HX3
    obtain ⟨⟨a4, l4, rfl⟩, ⟨a5, l5, rfl⟩⟩ := hsh
    have c0 := HX4.out.c0
    have c1 := HX4.out.c1
    have c2 := HX4.out.c2
    go_wp2_with fail
    have hbA := below_alloc1 w4 (.cells #[.int .i64 p, .slice a4 ds.length l4, .slice a5 ms.length l5] 27)
    have HXA := Lib.hid (HX4.out.next hbA)
    have HXC := Lib.hid (Bx.start (p := p) 27 HC4.out.zero)
    clear hbA c0 c1 c2 HX4 HC4
    refine (euler_any p _ _ ds ms _ HXC.out.cx hds HMS.out).mono ?_
    rintro e w6 ⟨r6, k6, rfl, hb6, hbb1⟩
    obtain ⟨rfl, rfl⟩ := EuR.same HBB0.out hbb1
    have HXA6 := Lib.hid (HXA.out.next hb6)
    have HXC6 := Lib.hid (HXC.out.next hb6)
    clear hb6 hbb1 HXA HXC HBB0
    have c0 := HXA6.out.c0
    have c1 := HXA6.out.c1
    have c2 := HXA6.out.c2
    have d0 := HXC6.out.c0
    have d1 := HXC6.out.c1
    have d2 := HXC6.out.c2
    have hq1 : (r6 != r6) = false := by simp
    have hq2 : (k6 != k6) = false := by simp
    have HCX := Lib.hid (cx_drew HXA6.out.cx)
    have HCC := Lib.hid (cx_drew HXC6.out.cx)
    go_wp2_with fail
    go_region_with (first
      | (go_at_call 50; refine (toComplex_any p dv mv ds ms _ HCX.out hds HMS.out).mono ?_; rintro e w7 ⟨dv7, mv7, rfl, hcx7, hb7⟩; have e0 := later hb7 (Nat.le_refl _) d0; have e1 := later hb7 (Nat.le_refl _) d1; have e2 := later hb7 (Nat.le_refl _) d2; have HX7 := Lib.hid (And.intro hcx7 (And.intro (HCC.out.below hb7) (Below.trans (HXA6.out.below.drew) (hb7.mono HXA6.out.below.drew.size)))); clear hcx7 hb7)
      | (go_at_call 52; refine (eqComplex_true p _ _ dv7 mv7 ds ms _ HX7.out.2.1 HX7.out.1.zero hds HMS.out).mono ?_; rintro e w8 ⟨rfl, hb8⟩; have HX8 := Lib.hid (Below.trans HX7.out.2.2 (hb8.mono HX7.out.2.2.size)); clear hb8))
    all_goals
      go_wp2
      go_ret
      exact ⟨rfl, HX8.out⟩
end Go.Proofs.Ytidddjdddfokoaa
