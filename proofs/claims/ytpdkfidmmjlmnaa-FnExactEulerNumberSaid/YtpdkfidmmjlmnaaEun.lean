/-
  impl.EulerNumber and spec.EulerNumber by their contracts; the walk of laws.FnExactEulerNumber.
-/
import Derived.Test.YtpdkfidmmjlmnaaQc
import Derived.Test.YtpdkfidmmjlmnaaVal
namespace Go.Proofs.Ytpdkfidmmjlmnaa
open Go.RowKit

/-- The alternating sum of the first k dimensions. -/
def eulTo (ds : List Int) : Nat → Int
  | 0 => 0
  | k + 1 => if k % 2 = 0 then eulTo ds k + ds.getD k 0 else eulTo ds k - ds.getD k 0
theorem eulTo_bd {ds : List Int} (h : ∀ d ∈ ds, 0 ≤ d ∧ d ≤ 8) (k : Nat) (hk : k ≤ ds.length) : -(8 * k : Int) ≤ eulTo ds k ∧ eulTo ds k ≤ 8 * k := by
  induction k with
  | zero => simp [eulTo]
  | succ k ih =>
    have hd : 0 ≤ ds.getD k 0 ∧ ds.getD k 0 ≤ 8 := by rw [getD_of_lt _ (by omega)]; exact h _ (List.getElem_mem _)
    have := ih (by omega)
    simp only [eulTo]
    split <;> omega

def EuR (p : Int) (ds : List Int) (ms : List (List (List Int))) (w : World) (e : Ending) (w' : World) : Prop :=
  ∃ r c : Int, e = .returned (.tuple #[.int .i64 r, .int .i64 c]) ∧ Below w.heap.size w w' ∧ (IsCx p ds ms → r = eulTo ds ds.length ∧ c = 0) ∧ (¬ IsCx p ds ms → r = 0 ∧ c = 1)

set_option maxHeartbeats 1600000 in
theorem euler_any (p : Int) (dv mv : Value) (ds : List Int) (ms : List (List (List Int))) (w : World) (h : Cx 0 w dv mv ds ms) (hd : ds.length ≤ 1048576) (hm : Bd3 1048576 ms) :
    Calls Try.prog 36 #[.agg #[.int .i64 p, dv, mv]] w (EuR p ds ms w) := by
  have HM := Lib.hid hm
  have hx0 := Bx.start (p := p) 28 h
  obtain ⟨ad, cap, rfl⟩ := Sl.shape h.dims
  have HX0 := Lib.hid hx0
  clear h hm hx0
  go_enter Try.func36, Try.ntmps36
  go_wp2_with fail
  refine (isComplex_any p _ mv ds ms _ HX0.out.cx hd HM.out).mono ?_
  rintro e w1 ⟨bb, rfl, hb1, hbb⟩
  have HX1 := Lib.hid (HX0.out.next hb1)
  have HBB := Lib.hid hbb
  clear hb1 hbb
  have c0 := HX1.out.c0
  have c1 := HX1.out.c1
  have c2 := HX1.out.c2
  cases bb with
  | false =>
    go_wp2
    go_ret2
    exact ⟨0, 1, rfl, HX1.out.below, fun hh => absurd (HBB.out.2 hh) (by simp), fun _ => ⟨rfl, rfl⟩⟩
  | true =>
    have HCX : Hid (IsCx p ds ms) := Lib.hid (HBB.out.1 (by simp))
    go_wp2
    go_loop [4, 5, 6, 13] (fun s _ _ i => ∃ (k : Nat), k ≤ ds.length ∧ i = .int .i64 k ∧ s = .int .i64 (eulTo ds k)) (fun _ _ _ i => ds.length - (intOf i).toNat)
    case atStart => exact ⟨0, Nat.zero_le _, rfl, rfl⟩
    case round =>
      obtain ⟨k, hk, rfl, rfl⟩ := hrel
      have hbd := eulTo_bd HCX.out.1.dims k hk
      have hl6 := HCX.out.1.len1
      obtain ⟨s, hs⟩ : ∃ s, s = eulTo ds k := ⟨_, rfl⟩
      rw [← hs] at hbd
      rw [← hs]
      have HS := Lib.hid hs
      clear hs
      obtain ⟨hs0, hs1⟩ := hbd
      by_cases hlt : k < ds.length
      · refine Sl.cases HX1.out.cx.dims (fun _ _ hx _ => absurd hlt (by simp [hx])) (fun bd od capd hv _ hposd hcld => ?_)
        injection hv with e1 _ e3
        subst e1 e3
        obtain ⟨u, hu, hr⟩ := hcld k hlt
        obtain ⟨x, hx⟩ : ∃ x, x = ds[k] := ⟨_, rfl⟩
        have hx8 := HCX.out.1.dims _ (List.getElem_mem hlt)
        rw [hr, ← hx] at hu
        rw [← hx] at hx8
        have HX := Lib.hid hx
        obtain ⟨hx0, hx1⟩ := hx8
        clear hx hr hcld
        by_cases hp : k % 2 = 0
        · have hpe : ((k : Int) % 2 == 0) = true := by simp; omega
          have HP := Lib.hid hp
          clear hp
          go_wp2
          go_round
          case rel => exact ⟨k + 1, by omega, by go_num, by simp only [eulTo]; rw [if_pos HP.out, getD_of_lt _ hlt, ← HX.out, ← HS.out]⟩
          case measure => simp [intOf]; omega
        · have hpe : ((k : Int) % 2 == 0) = false := by simp; omega
          have HP := Lib.hid hp
          clear hp
          go_wp2
          go_round
          case rel => exact ⟨k + 1, by omega, by go_num, by simp only [eulTo]; rw [if_neg HP.out, getD_of_lt _ hlt, ← HX.out, ← HS.out]⟩
          case measure => simp [intOf]; omega
      · have hkk : Hid (k = ds.length) := Lib.hid (by omega)
        go_wp2
        go_ret2
        exact ⟨s, 0, rfl, HX1.out.below, fun _ => ⟨by rw [HS.out, hkk.out], rfl⟩, fun hh => absurd HCX.out hh⟩

set_option maxHeartbeats 1600000 in
theorem speuler_any (p : Int) (dv mv : Value) (ds : List Int) (ms : List (List (List Int))) (w : World) (h : Cx 0 w dv mv ds ms) (hd : ds.length ≤ 1048576) (hm : Bd3 1048576 ms) :
    Calls Try.prog 35 #[.agg #[.int .i64 p, dv, mv]] w (EuR p ds ms w) := by
  have HH := Lib.hid (fun W (hW : Cx 0 W dv mv ds ms) => l01Is_any p dv mv ds ms W hW hd hm)
  have hx0 := Bx.start (p := p) 28 h
  obtain ⟨ad, cap, rfl⟩ := Sl.shape h.dims
  have HX0 := Lib.hid hx0
  clear h hm hx0
  go_enter Try.func35, Try.ntmps35
  go_wp2_with fail
  refine (HH.out _ HX0.out.cx).mono ?_
  rintro e w1 ⟨bb, rfl, hb1, hbb⟩
  have HX1 := Lib.hid (HX0.out.next hb1)
  have HBB := Lib.hid hbb
  clear hb1 hbb
  have c0 := HX1.out.c0
  have c1 := HX1.out.c1
  have c2 := HX1.out.c2
  cases bb with
  | false =>
    go_wp2
    go_ret2
    exact ⟨0, 1, rfl, HX1.out.below, fun hh => absurd (HBB.out.2 hh) (by simp), fun _ => ⟨rfl, rfl⟩⟩
  | true =>
    have HCX : Hid (IsCx p ds ms) := Lib.hid (HBB.out.1 (by simp))
    go_wp2
    go_loop [4, 5] (fun s i => ∃ (k : Nat), k ≤ ds.length ∧ i = .int .i64 k ∧ s = .int .i64 (eulTo ds k)) (fun _ i => ds.length - (intOf i).toNat)
    case atStart => exact ⟨0, Nat.zero_le _, rfl, rfl⟩
    case round =>
      obtain ⟨k, hk, rfl, rfl⟩ := hrel
      have hbd := eulTo_bd HCX.out.1.dims k hk
      have hl6 := HCX.out.1.len1
      obtain ⟨s, hs⟩ : ∃ s, s = eulTo ds k := ⟨_, rfl⟩
      rw [← hs] at hbd
      rw [← hs]
      have HS := Lib.hid hs
      clear hs
      obtain ⟨hs0, hs1⟩ := hbd
      by_cases hlt : k < ds.length
      · refine Sl.cases HX1.out.cx.dims (fun _ _ hx _ => absurd hlt (by simp [hx])) (fun bd od capd hv _ hposd hcld => ?_)
        injection hv with e1 _ e3
        subst e1 e3
        obtain ⟨u, hu, hr⟩ := hcld k hlt
        obtain ⟨x, hx⟩ : ∃ x, x = ds[k] := ⟨_, rfl⟩
        have hx8 := HCX.out.1.dims _ (List.getElem_mem hlt)
        rw [hr, ← hx] at hu
        rw [← hx] at hx8
        have HX := Lib.hid hx
        obtain ⟨hx0, hx1⟩ := hx8
        clear hx hr hcld
        by_cases hp : k % 2 = 0
        · have hpe : (k : Int) % 2 = 0 := by omega
          have HP := Lib.hid hp
          clear hp
          go_wp2
          clear hpe
          go_round
          case rel => exact ⟨k + 1, by omega, by go_num, by simp only [eulTo]; rw [if_pos HP.out, getD_of_lt _ hlt, ← HX.out, ← HS.out]⟩
          case measure => simp [intOf]; omega
        · have hpe : (k : Int) % 2 = 1 := by omega
          have HP := Lib.hid hp
          clear hp
          go_wp2
          clear hpe
          go_round
          case rel => exact ⟨k + 1, by omega, by go_num, by simp only [eulTo]; rw [if_neg HP.out, getD_of_lt _ hlt, ← HX.out, ← HS.out]; go_num⟩
          case measure => simp [intOf]; omega
      · have hkk : Hid (k = ds.length) := Lib.hid (by omega)
        go_wp2
        go_ret2
        exact ⟨s, 0, rfl, HX1.out.below, fun _ => ⟨by rw [HS.out, hkk.out], rfl⟩, fun hh => absurd HCX.out hh⟩

theorem EuR.same {p : Int} {ds : List Int} {ms : List (List (List Int))} {r c r2 c2 : Int} (h1 : (IsCx p ds ms → r = eulTo ds ds.length ∧ c = 0) ∧ (¬ IsCx p ds ms → r = 0 ∧ c = 1)) (h2 : (IsCx p ds ms → r2 = eulTo ds ds.length ∧ c2 = 0) ∧ (¬ IsCx p ds ms → r2 = 0 ∧ c2 = 1)) : r2 = r ∧ c2 = c := by
  by_cases h : IsCx p ds ms
  · have a := h1.1 h
    have b := h2.1 h
    omega
  · have a := h1.2 h
    have b := h2.2 h
    omega

def EuP (p : Int) (ds : List Int) (ms : List (List (List Int))) (r c : Int) : Prop := (IsCx p ds ms → r = eulTo ds ds.length ∧ c = 0) ∧ (¬ IsCx p ds ms → r = 0 ∧ c = 1)
theorem EuP.unique {p : Int} {ds : List Int} {ms : List (List (List Int))} {r c r2 c2 : Int} (h : EuP p ds ms r c) (k : EuP p ds ms r2 c2) : r = r2 ∧ c = c2 := by
  by_cases a : IsCx p ds ms
  · obtain ⟨rfl, rfl⟩ := h.1 a; obtain ⟨rfl, rfl⟩ := k.1 a; exact ⟨rfl, rfl⟩
  · obtain ⟨rfl, rfl⟩ := h.2 a; obtain ⟨rfl, rfl⟩ := k.2 a; exact ⟨rfl, rfl⟩
theorem eulerV_any (p : Int) (dv mv : Value) (ds : List Int) (ms : List (List (List Int))) (w : World) (h : Cx 0 w dv mv ds ms) (hd : ds.length ≤ 1048576) (hm : Bd3 1048576 ms) :
    Calls Try.prog 36 #[.agg #[.int .i64 p, dv, mv]] w (VrIC (EuP p ds ms) w) :=
  (euler_any p dv mv ds ms w h hd hm).mono (by rintro e w' ⟨r, c, rfl, hb, h1, h2⟩; exact ⟨r, c, rfl, hb, h1, h2⟩)
theorem speulerV_any (p : Int) (dv mv : Value) (ds : List Int) (ms : List (List (List Int))) (w : World) (h : Cx 0 w dv mv ds ms) (hd : ds.length ≤ 1048576) (hm : Bd3 1048576 ms) :
    Calls Try.prog 35 #[.agg #[.int .i64 p, dv, mv]] w (VrIC (EuP p ds ms) w) :=
  (speuler_any p dv mv ds ms w h hd hm).mono (by rintro e w' ⟨r, c, rfl, hb, h1, h2⟩; exact ⟨r, c, rfl, hb, h1, h2⟩)
end Go.Proofs.Ytpdkfidmmjlmnaa
