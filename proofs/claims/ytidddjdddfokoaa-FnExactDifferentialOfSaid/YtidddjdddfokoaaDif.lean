/-
  impl.applyTable once more, its result in a span of blocks; impl.DifferentialOf and spec.DifferentialOf, by their contracts.
-/
import Derived.Test.YtidddjdddfokoaaMap
import Derived.Deep.RegionHeld3
namespace Go.Proofs.Ytidddjdddfokoaa
open Go.RowKit

theorem Ap.doneW {w wr : World} {ty : TypeId} {p : Int} {c : Nat} {v : List Int} {t : List (List Int)} (ok : ApOk p c v t) (h : Ap w wr ty p c v t v.length 0) : W1 w.heap.size wr.heap.size wr (.slice (some ⟨w.heap.size, 0, none⟩) c c) (apT p c v t) := by
  have hl := apTo_length ok (Nat.le_refl _)
  by_cases h0 : c = 0
  · subst h0
    exact Or.inl ⟨List.eq_nil_of_length_eq_zero hl, _, _, rfl⟩
  · refine Or.inr ⟨w.heap.size, 0, c, by rw [apT, hl], Nat.le_refl _, h.row.lt, by rw [apT, hl]; omega, fun j hj => ⟨_, h.row.cell (by rw [apT, hl] at hj; omega), ?_⟩, fun j _ => h.row.frozen _⟩
    have hj' : j < (apTo p c v t v.length).length := hj
    simp only [apCell, IsI, Nat.not_lt_zero, if_false, apT, Nat.zero_add]
    rw [getD_of_lt _ hj']

def ApW (p : Int) (c : Nat) (v : List Int) (t : List (List Int)) (w : World) (e : Ending) (w' : World) : Prop := ∃ u, e = .returned u ∧ W1 w.heap.size w'.heap.size w' u (apT p c v t) ∧ Below w.heap.size w w'

set_option maxHeartbeats 1600000 in
theorem applyTablew_any (p : Int) (c : Nat) (va vt : Value) (v : List Int) (t : List (List Int)) (w : World) (ok : ApOk p c v t) (ha : L1 0 w va v) (ht : L2 0 w vt t) (hv : v.length ≤ 1048576) (hc : c ≤ 1048576) :
    Calls Try.prog 125 #[.int .i64 p, va, vt, .int .i64 c] w (ApW p c v t w) := by
  have hmk := run_make_row' (P := Try.prog) 24 2 (.int .i64 0) 8 Try.underlying24 Try.infoI rfl .i64 .i64 c (by omega) (by omega)
  have hp0 := ok.prime.lo
  have hp1 := ok.prime.hi
  have OK := Lib.hid ok
  clear ok
  refine Sl.cases ha (fun ad cap hx hv' => ?_) (fun b o cap hv' _ hpos hcl => ?_)
  · subst hx hv'
    clear ha ht
    go_enter Try.func125, Try.ntmps125
    go_wp2
    refine wp_loop_rounds 1 ?_
    rw [rounds_succ]
    go_wp2
    go_ret
    exact ⟨_, rfl, Ap.doneW OK.out (Ap.start _ _ _ _ _ _), (Below.refl _ _).alloc (Nat.le_refl _) _⟩
  · refine Sl.cases ht (fun ad2 cap2 hx2 hv2 => absurd OK.out.len (by subst hx2; simp only [List.length_nil]; omega)) (fun b2 o2 cap2 hv2 _ hpos2 hcl2 => ?_)
    subst hv' hv2
    clear ha ht
    have hlen := OK.out.len
    have HC := Lib.hid hcl
    have HC2 := Lib.hid hcl2
    clear hcl hcl2
    go_enter Try.func125, Try.ntmps125
    go_wp2
    clear hmk
    go_loopw [18] (fun i wr => ∃ (k : Nat), k ≤ v.length ∧ i = .int .i64 k ∧ Ap w wr 2 p c v t k 0) (fun i _ => v.length - (intOf i).toNat)
    case atStart => exact ⟨0, Nat.zero_le _, rfl, Ap.start _ _ _ _ _ _⟩
    case round =>
      obtain ⟨k, hk, rfl, HA⟩ := hrel
      by_cases hlt2 : k < v.length
      · have hlt3 : k < t.length := by omega
        obtain ⟨u, hu, hr⟩ := HC.out k hlt2
        obtain ⟨u2, hu2, hr2⟩ := HC2.out k hlt3
        have hnum := OK.out.num hlt2
        have hrow := OK.out.row hlt2
        rw [getD_of_lt _ hlt2] at hnum
        rw [getD_of_lt _ hlt3] at hrow
        obtain ⟨f, hf⟩ : ∃ f, f = v[k] := ⟨_, rfl⟩
        obtain ⟨ys, hy⟩ : ∃ ys, ys = t[k] := ⟨_, rfl⟩
        rw [← hf] at hnum
        rw [← hy] at hrow hr2
        obtain ⟨hf0, hf1⟩ := hnum
        have hu' : wr.cell? ⟨b, o + k, none⟩ = some (.int .i64 f) := by rw [HA.below.cell (p := ⟨b, o + k, none⟩) (cell_lt hu), hu, hr, hf]
        have hu2' : wr.cell? ⟨b2, o2 + k, none⟩ = some u2 := by rw [HA.below.cell (p := ⟨b2, o2 + k, none⟩) (cell_lt hu2), hu2]
        have HF := Lib.hid hf
        have HY := Lib.hid hy
        have HROW := Lib.hid hrow
        have HA' := Lib.hid HA
        clear hf hy hrow HA hu hr hu2
        refine Sl.cases hr2 (fun ad3 cap3 hx3 hv3 => ?_) (fun b3 o3 cap3 hv3 _ hpos3 hcl3 => ?_)
        · subst hv3
          have hc0 : Hid (c = 0) := Lib.hid (by have := HROW.out.1; rw [hx3] at this; simpa using this.symm)
          clear hx3 hr2
          go_wp2
          refine wp_loop_rounds 1 ?_
          rw [rounds_succ]
          go_wp2
          go_roundw
          case rel => exact ⟨k + 1, by omega, by go_num, Ap.next (by rw [hc0.out]; have := HA'.out; rwa [hc0.out] at this)⟩
          case measure => simp [intOf]; omega
        · subst hv3
          have hyc : ys.length = c := by have := HROW.out.1; omega
          have HYC := Lib.hid hyc
          have HC3 := Lib.hid hcl3
          clear hyc hr2 hcl3
          obtain ⟨wo, hwo⟩ : ∃ wo : World, wo = wr := ⟨_, rfl⟩
          have HWO := Lib.hid hwo
          clear hwo
          go_wp2
          go_loopw [28] (fun i wr => ∃ (q : Nat), q ≤ ys.length ∧ i = .int .i64 q ∧ Ap w wr 2 p c v t k q) (fun i _ => ys.length - (intOf i).toNat)
          case atStart => exact ⟨0, Nat.zero_le _, rfl, HA'.out⟩
          case round =>
            obtain ⟨q, hq, rfl, HB⟩ := hrel
            by_cases hlt4 : q < ys.length
            · have hqc : q < c := by have := HYC.out; omega
              obtain ⟨u3, hu3, hr3⟩ := HC3.out q hlt4
              have hx := HROW.out.2 _ (List.getElem_mem hlt4)
              obtain ⟨x, hxx⟩ : ∃ x, x = ys[q] := ⟨_, rfl⟩
              obtain ⟨a, haa⟩ : ∃ a, a = (apTo p c v t k).getD q 0 := ⟨_, rfl⟩
              have hab := apTo_mod OK.out (Nat.le_of_lt hlt2) q
              have hac := HB.cell hqc
              have hfz := HB.row.frozen q
              rw [← haa] at hab hac
              rw [← hxx] at hx
              obtain ⟨hx0, hx1⟩ := hx
              obtain ⟨ha0, ha1⟩ := hab
              have hu3' : wr.cell? ⟨b3, o3 + q, none⟩ = some (.int .i64 x) := by rw [HB.below.cell (p := ⟨b3, o3 + q, none⟩) (cell_lt hu3), hu3, hr3, hxx]
              have m0 : 0 ≤ f * x := Int.mul_nonneg hf0 hx0
              have m1 : f * x ≤ 36 := Int.le_trans (Int.mul_le_mul (show f ≤ 6 by omega) (show x ≤ 6 by omega) hx0 (by omega)) (by omega)
              have HS := Lib.hid (HB.step OK.out hlt2 hqc (x := (a + f * x) % p) (by rw [haa, HF.out, hxx, getD_of_lt _ hlt2, getD_of_lt _ hlt3, ← HY.out, getD_of_lt _ hlt4]))
              clear HB hu3 hr3 haa hxx
              go_wp2
              go_roundw
              case rel => exact ⟨q + 1, by omega, by go_num, HS.out⟩
              case measure => simp [intOf]; omega
            · have HB' := Lib.hid HB
              have hqc : Hid (q = c) := Lib.hid (by have := HYC.out; omega)
              clear HB
              go_wp2
              go_roundw
              case rel => exact ⟨k + 1, by omega, by go_num, Ap.next (by have := HB'.out; rwa [hqc.out] at this)⟩
              case measure => simp [intOf]; omega
      · have hkk : k = v.length := by omega
        subst hkk
        have HA' := Lib.hid HA
        clear HA
        go_wp2
        go_ret
        exact ⟨_, rfl, Ap.doneW OK.out HA'.out, HA'.out.below⟩

/-- The differential of a vector of the degree n. -/
def difOf (p : Int) (ds : List Int) (ms : List (List (List Int))) (n : Int) (vs : List Int) : List Int := if n = 0 then [] else apT p (ds.getD (n.toNat - 1) 0).toNat vs (ms.getD (n.toNat - 1) [])
def InDeg (ds : List Int) (n : Int) : Prop := 0 ≤ n ∧ n ≤ (ds.length : Int) - 1
/-- What DifferentialOf answers: a list and a code. -/
structure DifOut (p : Int) (ds : List Int) (ms : List (List (List Int))) (n : Int) (vs out : List Int) (c : Int) : Prop where
  bad : ¬ IsCx p ds ms → out = [] ∧ c = 1
  far : IsCx p ds ms → ¬ InDeg ds n → out = [] ∧ c = 2
  row : IsCx p ds ms → InDeg ds n → ¬ RowOk p (ds.getD n.toNat 0) vs → out = [] ∧ c = 2
  good : IsCx p ds ms → InDeg ds n → RowOk p (ds.getD n.toNat 0) vs → out = difOf p ds ms n vs ∧ c = 0
theorem DifOut.unique {p : Int} {ds : List Int} {ms : List (List (List Int))} {n : Int} {vs o1 o2 : List Int} {c1 c2 : Int} (h1 : DifOut p ds ms n vs o1 c1) (h2 : DifOut p ds ms n vs o2 c2) : o1 = o2 ∧ c1 = c2 := by
  by_cases a : IsCx p ds ms
  · by_cases b : InDeg ds n
    · by_cases c : RowOk p (ds.getD n.toNat 0) vs
      · have x := h1.good a b c
        have y := h2.good a b c
        exact ⟨x.1.trans y.1.symm, x.2.trans y.2.symm⟩
      · have x := h1.row a b c
        have y := h2.row a b c
        exact ⟨x.1.trans y.1.symm, x.2.trans y.2.symm⟩
    · have x := h1.far a b
      have y := h2.far a b
      exact ⟨x.1.trans y.1.symm, x.2.trans y.2.symm⟩
  · have x := h1.bad a
    have y := h2.bad a
    exact ⟨x.1.trans y.1.symm, x.2.trans y.2.symm⟩
def DifW (p : Int) (ds : List Int) (ms : List (List (List Int))) (n : Int) (vs : List Int) (w : World) (e : Ending) (w' : World) : Prop :=
  ∃ (u : Value) (out : List Int) (c : Int), e = .returned (.tuple #[u, .int .i64 c]) ∧ W1 w.heap.size w'.heap.size w' u out ∧ Below w.heap.size w w' ∧ DifOut p ds ms n vs out c

theorem w1_nil (lo hi : Nat) (w : World) : W1 lo hi w (.slice none 0 0) [] := Or.inl ⟨rfl, _, _, rfl⟩

set_option maxHeartbeats 3200000 in
set_option maxRecDepth 100000 in
theorem difImpl_any (p n : Int) (dv mv va : Value) (ds : List Int) (ms : List (List (List Int))) (vs : List Int) (w : World) (h : Cx 0 w dv mv ds ms) (hv : L1 0 w va vs) (hd : ds.length ≤ 1048576) (hm : Bd3 1048576 ms) (hvl : vs.length ≤ 1048576) :
    Calls Try.prog 55 #[.agg #[.int .i64 p, dv, mv], .int .i64 n, va] w (DifW p ds ms n vs w) := by
  have HX0 := Lib.hid (Bx.start (p := p) 27 h)
  have HCK := Lib.hid (checkDegree_any p n dv mv ds ms _ HX0.out.cx hd hm)
  have HV := Lib.hid hv
  by_cases hcx : IsCx p ds ms
  · by_cases hr : InDeg ds n
    · obtain ⟨q, rfl⟩ : ∃ q : Nat, n = (q : Int) := ⟨n.toNat, by have := hr.1; omega⟩
      have hq : q < ds.length := by have := hr.2; omega
      have hml := hcx.1.mlen
      have hl6 := hcx.1.len1
      obtain ⟨ad, cap, rfl⟩ := Sl.shape h.dims
      obtain ⟨am, capm, rfl⟩ := Sl.shape h.maps
      have HCX := Lib.hid hcx
      have HR := Lib.hid hr
      have HML := Lib.hid hml
      obtain ⟨dq, hdq⟩ : ∃ d, d = ds.getD q 0 := ⟨_, rfl⟩
      have HDQ := Lib.hid hdq
      have eq0 : ((q : Int)).toNat = q := Int.toNat_natCast q
      refine Sl.cases HX0.out.cx.dims (fun _ _ hx _ => absurd hq (by simp [hx])) (fun bd od capd hvd _ hposd hcld => ?_)
      injection hvd with e1 _ e3
      subst e1 e3
      have HXN : Hid (∀ n2, Bx w (w.drewN n2) w.heap.size p (.slice (some ⟨bd, od, none⟩) ds.length cap) (.slice am ms.length capm) ds ms → True) := Lib.hid (fun _ _ => trivial)
      clear HXN hcld hposd
      by_cases hrow : RowOk p dq vs
      · have HROW := Lib.hid hrow
        clear h hv hm hcx hr hml hdq hrow
        by_cases hq0 : q = 0
        · have HQ0 := Lib.hid hq0
          have hqe : ((q : Int) == 0) = true := by simp; omega
          clear hq0
          go_enter Try.func55, Try.ntmps55
          go_wp2_with fail
          refine HCK.out.mono ?_
          rintro e w1 ⟨c, rfl, hb1, hc⟩
          obtain rfl : c = 0 := hc.2.2 HCX.out HR.out
          have HX1 := Lib.hid (HX0.out.next hb1)
          clear hb1 hc
          have c0 := HX1.out.c0
          have c1 := HX1.out.c1
          have c2 := HX1.out.c2
          obtain ⟨ud, hud, hrd⟩ := Sl.at HX1.out.cx.dims hq
          have hud2 : w1.cell? ⟨bd, od + q, none⟩ = some (.int .i64 dq) := by rw [hud, hrd, ← getD_of_lt 0 hq, ← HDQ.out]
          have HE : Hid (∀ m2 : Nat, Calls Try.prog 124 #[.int .i64 p, va, .int .i64 dq] (w1.drewN m2) (QW (.bool true) (w1.drewN m2))) := Lib.hid (fun m2 => bw_yes (isRow_any p dq va vs (w1.drewN m2) HCX.out.1.prime ((HV.out.below HX1.out.below).below (drewN_below _ m2)) hvl) HROW.out)
          clear hud hrd
          have hq3 : (q : Int) < (ds.length : Int) := by omega
          have hq4 : (0 : Int) ≤ (q : Int) := by omega
          go_wp2
          go_quiet ((go_at_call 124; exact qw_quiet (HE.out _)))
          clear hud2 c0 c1 c2 hq3 hq4
          have HX2 := Lib.hid (HX1.out.next (drewN_below _ nq))
          go_wp2
          go_ret2
          exact ⟨_, [], 0, rfl, w1_nil _ _ _, HX2.out.below, fun hh => absurd HCX.out hh, fun _ hh => absurd HR.out hh, fun _ _ hh => absurd (by rw [eq0, ← HDQ.out]; exact HROW.out) hh, fun _ _ _ => ⟨by rw [difOf, if_pos (by have := HQ0.out; omega)], rfl⟩⟩
        · have hq1 : 1 ≤ q := by omega
          have hqe : ((q : Int) == 0) = false := by simp; omega
          clear hq0
          go_enter Try.func55, Try.ntmps55
          go_wp2_with fail
          refine HCK.out.mono ?_
          rintro e w1 ⟨c, rfl, hb1, hc⟩
          obtain rfl : c = 0 := hc.2.2 HCX.out HR.out
          have HX1 := Lib.hid (HX0.out.next hb1)
          clear hb1 hc
          have c0 := HX1.out.c0
          have c1 := HX1.out.c1
          have c2 := HX1.out.c2
          obtain ⟨ud, hud, hrd⟩ := Sl.at HX1.out.cx.dims hq
          have hud2 : w1.cell? ⟨bd, od + q, none⟩ = some (.int .i64 dq) := by rw [hud, hrd, ← getD_of_lt 0 hq, ← HDQ.out]
          have HE : Hid (∀ m2 : Nat, Calls Try.prog 124 #[.int .i64 p, va, .int .i64 dq] (w1.drewN m2) (QW (.bool true) (w1.drewN m2))) := Lib.hid (fun m2 => bw_yes (isRow_any p dq va vs (w1.drewN m2) HCX.out.1.prime ((HV.out.below HX1.out.below).below (drewN_below _ m2)) hvl) HROW.out)
          clear hud hrd
          have hq3 : (q : Int) < (ds.length : Int) := by omega
          have hq4 : (0 : Int) ≤ (q : Int) := by omega
          go_wp2
          go_quiet ((go_at_call 124; exact qw_quiet (HE.out _)))
          clear hud2 c0 c1 c2 hq3 hq4
          have HX2 := Lib.hid (HX1.out.next (drewN_below _ nq))
          go_wp2
          generalize w1.drewN nq = w2 at *
          have c0 := HX2.out.c0
          have c1 := HX2.out.c1
          have c2 := HX2.out.c2
          have hqm : q - 1 < ms.length := by have := HML.out; omega
          refine Sl.cases HX2.out.cx.maps (fun _ _ hx _ => absurd hqm (by simp [hx])) (fun bm om capm2 hvm _ hposm hclm => ?_)
          injection hvm with e1 _ e3
          subst e1 e3
          obtain ⟨um, hum, hrm⟩ := hclm (q - 1) hqm
          obtain ⟨ud, hud, hrd⟩ := Sl.at HX2.out.cx.dims (show q - 1 < ds.length by omega)
          have hdim := HCX.out.1.dim (q - 1)
          obtain ⟨c, hc⟩ := Int.eq_ofNat_of_zero_le hdim.1
          have hc8 : c ≤ 8 := by omega
          have hud2 : w2.cell? ⟨bd, od + (q - 1), none⟩ = some (.int .i64 (c : Int)) := by rw [hud, hrd, ← getD_of_lt 0 (show q - 1 < ds.length by omega), hc]
          have HCN : Hid ((ds.getD (q - 1) 0).toNat = c) := Lib.hid (by rw [hc]; rfl)
          have HRM := Lib.hid hrm
          have HAP : Hid (ApOk p c vs ms[q - 1]) := Lib.hid (by
            have t1 := HCX.out.1.tabs (q - 1) hqm
            rw [show q - 1 + 1 = q by omega, ← HDQ.out, getD_of_lt _ hqm] at t1
            refine ⟨HCX.out.1.prime, ?_, HROW.out.2, fun r2 hr2 => ⟨?_, (t1.2 r2 hr2).2⟩⟩
            · have a1 := HROW.out.1
              have a2 := t1.1
              omega
            · have a1 := (t1.2 r2 hr2).1
              omega)
          clear hud hrd hrm hclm hdim hc
          have hw1 : IntKind.i64.wrap ((q : Int) - 1) = (q : Int) - 1 := IntWalk.i64_in _ (by omega)
          have hq3 : (0 : Int) ≤ (q : Int) - 1 := by omega
          have hq4 : (q : Int) - 1 < (ds.length : Int) := by omega
          have hq5 : ((q : Int) - 1).toNat = q - 1 := by omega
          have hq6 : (q : Int) - 1 < (ms.length : Int) := by omega
          have hq11 : (1 : Int) ≤ (q : Int) := by omega
          have hq12 : (q : Int) ≤ (ms.length : Int) := by omega
          have hq13 : (q : Int) ≤ (ds.length : Int) := by omega
          have hq14 : (0 : Int) < (q : Int) := by omega
          go_still_tail 15, (by kernel_rfl)
          change wpList _ _ _ _ _ w2.drew
          clear hw1 hq3 hq4 hq5 hq6 hq11 hq12 hq13 hq14
          go_wp2_with fail
          refine (applyTablew_any p c va um vs ms[q - 1] _ HAP.out ((HV.out.below HX2.out.below).below (Below.refl _ _).drew) (HRM.out.below (Below.refl _ _).drew) hvl (by omega)).mono ?_
          rintro e w3 ⟨u, rfl, hwu, hb3⟩
          have HW := Lib.hid hwu
          have HB3 := Lib.hid (HX2.out.below.trans ((Below.refl w2.heap.size w2).drew.trans hb3 |>.mono HX2.out.below.size))
          have hlo : Hid (w.heap.size ≤ w2.drew.heap.size) := Lib.hid HX2.out.below.size
          clear hwu hb3
          go_wp2
          go_ret2
          exact ⟨_, _, 0, rfl, HW.out.wider hlo.out (Nat.le_refl _), HB3.out, fun hh => absurd HCX.out hh, fun _ hh => absurd HR.out hh, fun _ _ hh => absurd (by rw [eq0, ← HDQ.out]; exact HROW.out) hh, fun _ _ _ => ⟨by rw [difOf, if_neg (by omega), eq0, HCN.out, getD_of_lt _ hqm], rfl⟩⟩
      · have HROW := Lib.hid hrow
        clear h hv hm hcx hr hml hdq hrow
        go_enter Try.func55, Try.ntmps55
        go_wp2_with fail
        refine HCK.out.mono ?_
        rintro e w1 ⟨c, rfl, hb1, hc⟩
        obtain rfl : c = 0 := hc.2.2 HCX.out HR.out
        have HX1 := Lib.hid (HX0.out.next hb1)
        clear hb1 hc
        have c0 := HX1.out.c0
        have c1 := HX1.out.c1
        have c2 := HX1.out.c2
        obtain ⟨ud, hud, hrd⟩ := Sl.at HX1.out.cx.dims hq
        have hud2 : w1.cell? ⟨bd, od + q, none⟩ = some (.int .i64 dq) := by rw [hud, hrd, ← getD_of_lt 0 hq, ← HDQ.out]
        have HE : Hid (∀ m2 : Nat, Calls Try.prog 124 #[.int .i64 p, va, .int .i64 dq] (w1.drewN m2) (QW (.bool false) (w1.drewN m2))) := Lib.hid (fun m2 => bw_no (isRow_any p dq va vs (w1.drewN m2) HCX.out.1.prime ((HV.out.below HX1.out.below).below (drewN_below _ m2)) hvl) HROW.out)
        clear hud hrd
        have hq3 : (q : Int) < (ds.length : Int) := by omega
        have hq4 : (0 : Int) ≤ (q : Int) := by omega
        go_wp2
        go_quiet ((go_at_call 124; exact qw_quiet (HE.out _)))
        clear hud2 c0 c1 c2 hq3 hq4
        have HX2 := Lib.hid (HX1.out.next (drewN_below _ nq))
        go_wp2
        go_ret2
        exact ⟨_, [], 2, rfl, w1_nil _ _ _, HX2.out.below, fun hh => absurd HCX.out hh, fun _ hh => absurd HR.out hh, fun _ _ _ => ⟨rfl, rfl⟩, fun _ _ hh => absurd hh (by rw [eq0, ← HDQ.out]; exact HROW.out)⟩
    · have HCX := Lib.hid hcx
      have HR := Lib.hid hr
      clear h hv hm hcx hr
      go_enter Try.func55, Try.ntmps55
      go_wp2_with fail
      refine HCK.out.mono ?_
      rintro e w1 ⟨c, rfl, hb1, hc⟩
      obtain rfl : c = 2 := hc.2.1 HCX.out HR.out
      have HX1 := Lib.hid (HX0.out.next hb1)
      clear hb1 hc
      go_wp2
      go_ret2
      exact ⟨_, [], 2, rfl, w1_nil _ _ _, HX1.out.below, fun hh => absurd HCX.out hh, fun _ _ => ⟨rfl, rfl⟩, fun _ hh => absurd hh HR.out, fun _ hh => absurd hh HR.out⟩
  · have HCX := Lib.hid hcx
    clear h hv hm hcx
    go_enter Try.func55, Try.ntmps55
    go_wp2_with fail
    refine HCK.out.mono ?_
    rintro e w1 ⟨c, rfl, hb1, hc⟩
    obtain rfl : c = 1 := hc.1 HCX.out
    have HX1 := Lib.hid (HX0.out.next hb1)
    clear hb1 hc
    go_wp2
    go_ret2
    exact ⟨_, [], 1, rfl, w1_nil _ _ _, HX1.out.below, fun _ => ⟨rfl, rfl⟩, fun hh => absurd hh HCX.out, fun hh => absurd hh HCX.out, fun hh => absurd hh HCX.out⟩
end Go.Proofs.Ytidddjdddfokoaa
