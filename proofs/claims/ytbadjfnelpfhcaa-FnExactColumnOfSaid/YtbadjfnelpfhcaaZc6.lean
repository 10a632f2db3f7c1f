/-
  Texts that ProofCof needs, part 6.
-/
import Derived.Test.YtbadjfnelpfhcaaZc5
import Derived.Deep.RegionWith
import Derived.Deep.RegionHeld3
import Derived.BigRegion
import Derived.BigQuiet
import Derived.Deep.QuietTactic
namespace Go.Proofs.Ytbadjfnelpfhcaa
open Go.RowKit

theorem l4_at {w : World} {av : Value} {ac : List (List (List (List Int)))} {i j : Nat} (h : L4 0 w av ac) (hi : i < ac.length) (hj : j < (ac[i]).length) :
    ∃ ba oa ca b2 o2 c2 u, av = .slice (some ⟨ba, oa, none⟩) ac.length ca ∧ w.cell? ⟨ba, oa + i, none⟩ = some (.slice (some ⟨b2, o2, none⟩) (ac[i]).length c2) ∧ w.cell? ⟨b2, o2 + j, none⟩ = some u ∧ L2 0 w u (ac[i])[j] := by
  rcases h with ⟨hx, _⟩ | ⟨ba, oa, ca, rfl, _, _, hcl⟩
  · exact absurd (hx ▸ hi) (Nat.not_lt_zero _)
  obtain ⟨u1, hu1, hr1⟩ := hcl i hi
  rcases hr1 with ⟨hx, _⟩ | ⟨b2, o2, c2, rfl, _, _, hcl2⟩
  · rw [hx] at hj; exact absurd hj (Nat.not_lt_zero _)
  obtain ⟨u2, hu2, hr2⟩ := hcl2 j hj
  exact ⟨ba, oa, ca, b2, o2, c2, u2, rfl, hu1, hu2, hr2⟩

set_option maxRecDepth 100000 in
set_option maxHeartbeats 4000000 in
theorem l03Step_out (b : Bool) (p i j : Int) (dv av vv va : Value) (ds : List (List Int)) (ac dn : List (List (List (List Int)))) (c : Nat) (w : World) (h : Dx 0 w dv av vv ds ac dn) (hok : DclOk ds) (hi : -1 ≤ i ∧ i ≤ 4) (hj : -1 ≤ j ∧ j ≤ 4)
    (hno : ¬ (0 ≤ i ∧ i < ds.length ∧ 0 ≤ j ∧ j < (ds.getD 0 []).length)) (hc : (if b = true then dco ds (i - 1) j else dco ds i (j - 1)) = (c : Int)) (hc4 : c ≤ 4) :
    Calls Try.prog 163 #[.agg #[.int .i64 p, dv, av, vv], .int .i64 i, .int .i64 j, va, .bool b] w fun e w' => ∃ u, e = .returned u ∧ L1 0 w' u (List.replicate c 0) ∧ Below w.heap.size w w' := by
  have hcel := hok
  have HOK := Lib.hid hok
  have hm4 := hok.len1
  have hm1 := hok.len0
  have hq1 := hok.h0
  have hq4 := hok.h1
  clear hok hcel
  have HX := Lib.hid h
  rcases h.dims with ⟨hx, _⟩ | ⟨bb, o, cd, rfl, _, hpos, hcl⟩
  · subst hx; simp at hm1
  obtain ⟨u0, hu0, hr0⟩ := hcl 0 hpos
  rw [Nat.add_zero] at hu0
  obtain ⟨a0, z0, rfl⟩ := Sl.shape hr0
  rw [← getD_of_lt [] hpos] at hu0
  clear hcl hr0 h
  obtain ⟨m, hm⟩ : ∃ m, m = ds.length := ⟨_, rfl⟩
  obtain ⟨q, hq⟩ : ∃ q, q = (ds.getD 0 []).length := ⟨_, rfl⟩
  have hx0 := DBx.start (p := p) 28 HX.out
  rw [← hm] at hm4 hm1 hpos hx0 ⊢
  rw [← hq] at hq1 hq4 hu0
  have hB : Below w.heap.size w (w.alloc (.cells #[.int .i64 p, .slice (some ⟨bb, o, none⟩) m cd, av, vv] 28)) := (Below.refl _ _).alloc (Nat.le_refl _) _
  have hu1 := later hB (Nat.le_refl _) hu0
  clear hB hu0
  obtain ⟨w1, hw1⟩ : ∃ w1, w1 = w.alloc (.cells #[.int .i64 p, .slice (some ⟨bb, o, none⟩) m cd, av, vv] 28) := ⟨_, rfl⟩
  rw [← hw1] at hx0 hu1
  have HM := Lib.hid hm
  have HQ := Lib.hid hq
  have HX1 := Lib.hid hx0
  have HU1 := Lib.hid hu1
  have HNX : Hid (∀ W, Below w1.heap.size w1 W → DBx w W w.heap.size p (.slice (some ⟨bb, o, none⟩) m cd) av vv ds ac dn ∧ W.cell? ⟨bb, o, none⟩ = some (.slice a0 q z0)) := Lib.hid (fun W hb => ⟨HX1.out.next hb, later hb (Nat.le_refl _) HU1.out⟩)
  have HDIM : Hid (∀ W, Below w1.heap.size w1 W → ∀ a e : Int, -1000 ≤ a ∧ a ≤ 1000 → -1000 ≤ e ∧ e ≤ 1000 → Calls Try.prog 121 #[.agg #[.int .i64 p, .slice (some ⟨bb, o, none⟩) m cd, av, vv], .int .i64 a, .int .i64 e] W fun r w' => r = .returned (.int .i64 (dco ds a e)) ∧ Below w1.heap.size w1 w') := Lib.hid (fun W hb a e ha he => by
    have h0 := (HNX.out W hb).1.dx.dims
    rw [HM.out] at h0 ⊢
    exact (l03Dim_any p a e _ av vv ds W h0 HOK.out ha he).mono fun _ _ hh => ⟨hh.1, hb.trans (hh.2.mono hb.size)⟩)
  have c0 := hx0.c0
  have c1 := hx0.c1
  have c2 := hx0.c2
  have c3 := hx0.c3
  have wj : IntKind.i64.wrap (j - 1) = j - 1 := IntWalk.i64_in _ (by omega)
  have wi : IntKind.i64.wrap (i - 1) = i - 1 := IntWalk.i64_in _ (by omega)
  have wm : IntKind.i64.wrap ((m : Int) - 1) = (m : Int) - 1 := IntWalk.i64_in _ (by omega)
  have wq : IntKind.i64.wrap ((q : Int) - 1) = (q : Int) - 1 := IntWalk.i64_in _ (by omega)
  clear hm hq hx0 hu1
  cases b
  · have hce : dco ds i (j - 1) = (c : Int) := by simpa using hc
    have hmk := run_make_row' (P := Try.prog) 37 2 (.int .i64 0) 8 Try.underlying37 Try.infoI rfl .i64 .i64 c (by omega) (by omega)
    have HEND : Hid (∀ W, Below w1.heap.size w1 W → ∃ u, Ending.returned (Value.slice (some ⟨W.heap.size, 0, none⟩) c c) = .returned u ∧ L1 0 (W.alloc (.cells (madeCells #[.int .i64 0] c) 2)) u (List.replicate c 0) ∧ Below w.heap.size w (W.alloc (.cells (madeCells #[.int .i64 0] c) 2))) := Lib.hid (fun W hb => ⟨_, rfl, l1_zeros _ _, (HX1.out.below.trans (hb.mono HX1.out.below.size)).alloc (by have := HX1.out.below.size; have := hb.size; omega) _⟩)
    go_enter Try.func163, Try.ntmps163
    go_wp2_with fail
    rw [← hw1]
    refine (HDIM.out w1 (Below.refl _ _) i (j - 1) (by omega) (by omega)).mono ?_
    rintro r W1 ⟨rfl, hb1⟩
    obtain ⟨W2, hW2⟩ : ∃ W2, W2 = W1 := ⟨_, rfl⟩
    rw [← hW2] at hb1 ⊢
    clear c0 c1 c2 c3 hW2 hw1
    have hb2 := hb1
    clear hb1
    have HB2 := Lib.hid hb2
    have hnx2 := HNX.out W2 hb2
    have c0 := hnx2.1.c0
    have c1 := hnx2.1.c1
    have c2 := hnx2.1.c2
    have c3 := hnx2.1.c3
    have hu2 := hnx2.2
    clear hb2 hnx2
    rw [hce]
    clear hce
    by_cases h1 : 0 ≤ i ∧ i ≤ (m : Int) - 1
    · have h2 : ¬ (0 ≤ j ∧ j ≤ (q : Int) - 1) := fun h => hno ⟨h1.1, by have := HM.out; omega, h.1, by have := HQ.out; omega⟩
      have I1 : Hid (∀ W, Calls Try.prog 70 #[.int .i64 i, .int .i64 0, .int .i64 ((m : Int) - 1)] W (QW (.bool true) W)) := Lib.hid (fun W => spin_yes h1 W)
      have I2 : Hid (∀ W, Calls Try.prog 70 #[.int .i64 j, .int .i64 0, .int .i64 ((q : Int) - 1)] W (QW (.bool false) W)) := Lib.hid (fun W => spin_no h2 W)
      clear h1 h2
      go_wp2_with fail
      refine (I1.out _).mono ?_
      rintro e w' ⟨rfl, rfl⟩
      go_wp2_with fail
      refine (I2.out _).mono ?_
      rintro e w' ⟨rfl, rfl⟩
      go_wp2
      go_ret
      exact HEND.out _ HB2.out
    · have I1 : Hid (∀ W, Calls Try.prog 70 #[.int .i64 i, .int .i64 0, .int .i64 ((m : Int) - 1)] W (QW (.bool false) W)) := Lib.hid (fun W => spin_no h1 W)
      clear h1
      go_wp2_with fail
      refine (I1.out _).mono ?_
      rintro e w' ⟨rfl, rfl⟩
      go_wp2
      go_ret
      exact HEND.out _ HB2.out
  · have hce : dco ds (i - 1) j = (c : Int) := by simpa using hc
    have hmk := run_make_row' (P := Try.prog) 37 2 (.int .i64 0) 8 Try.underlying37 Try.infoI rfl .i64 .i64 c (by omega) (by omega)
    have HEND : Hid (∀ W, Below w1.heap.size w1 W → ∃ u, Ending.returned (Value.slice (some ⟨W.heap.size, 0, none⟩) c c) = .returned u ∧ L1 0 (W.alloc (.cells (madeCells #[.int .i64 0] c) 2)) u (List.replicate c 0) ∧ Below w.heap.size w (W.alloc (.cells (madeCells #[.int .i64 0] c) 2))) := Lib.hid (fun W hb => ⟨_, rfl, l1_zeros _ _, (HX1.out.below.trans (hb.mono HX1.out.below.size)).alloc (by have := HX1.out.below.size; have := hb.size; omega) _⟩)
    go_enter Try.func163, Try.ntmps163
    go_wp2_with fail
    rw [← hw1]
    refine (HDIM.out w1 (Below.refl _ _) i (j - 1) (by omega) (by omega)).mono ?_
    rintro r W1 ⟨rfl, hb1⟩
    clear c0 c1 c2 c3 hw1
    have HB1 := Lib.hid hb1
    have hnx1 := HNX.out W1 hb1
    have c0 := hnx1.1.c0
    have c1 := hnx1.1.c1
    have c2 := hnx1.1.c2
    have c3 := hnx1.1.c3
    have hu1 := hnx1.2
    clear hb1 hnx1
    go_wp2_with fail
    refine (HDIM.out W1 HB1.out (i - 1) j (by omega) (by omega)).mono ?_
    rintro r W2 ⟨rfl, hb2⟩
    clear c0 c1 c2 c3 hu1
    have HB2 := Lib.hid hb2
    have hnx2 := HNX.out W2 hb2
    have c0 := hnx2.1.c0
    have c1 := hnx2.1.c1
    have c2 := hnx2.1.c2
    have c3 := hnx2.1.c3
    have hu2 := hnx2.2
    clear hb2 hnx2
    rw [hce]
    clear hce
    by_cases h1 : 0 ≤ i ∧ i ≤ (m : Int) - 1
    · have h2 : ¬ (0 ≤ j ∧ j ≤ (q : Int) - 1) := fun h => hno ⟨h1.1, by have := HM.out; omega, h.1, by have := HQ.out; omega⟩
      have I1 : Hid (∀ W, Calls Try.prog 70 #[.int .i64 i, .int .i64 0, .int .i64 ((m : Int) - 1)] W (QW (.bool true) W)) := Lib.hid (fun W => spin_yes h1 W)
      have I2 : Hid (∀ W, Calls Try.prog 70 #[.int .i64 j, .int .i64 0, .int .i64 ((q : Int) - 1)] W (QW (.bool false) W)) := Lib.hid (fun W => spin_no h2 W)
      clear h1 h2
      go_wp2_with fail
      refine (I1.out _).mono ?_
      rintro e w' ⟨rfl, rfl⟩
      go_wp2_with fail
      refine (I2.out _).mono ?_
      rintro e w' ⟨rfl, rfl⟩
      go_wp2
      go_ret
      exact HEND.out _ HB2.out
    · have I1 : Hid (∀ W, Calls Try.prog 70 #[.int .i64 i, .int .i64 0, .int .i64 ((m : Int) - 1)] W (QW (.bool false) W)) := Lib.hid (fun W => spin_no h1 W)
      clear h1
      go_wp2_with fail
      refine (I1.out _).mono ?_
      rintro e w' ⟨rfl, rfl⟩
      go_wp2
      go_ret
      exact HEND.out _ HB2.out

set_option maxRecDepth 100000 in
set_option maxHeartbeats 4000000 in
theorem l03Step_in (b : Bool) (p i j : Int) (dv av vv va : Value) (ds : List (List Int)) (ac dn : List (List (List (List Int)))) (c : Nat) (v : List Int) (w : World) (h : Dx 0 w dv av vv ds ac dn) (hok : DclOk ds) (htb : TbsOk p ds ac dn) (hv : L1 0 w va v) (hv40 : v.length ≤ 40)
    (hin : 0 ≤ i ∧ i < ds.length ∧ 0 ≤ j ∧ j < (ds.getD 0 []).length) (hc : (if b = true then dco ds (i - 1) j else dco ds i (j - 1)) = (c : Int)) (hc4 : c ≤ 4) (hap : ApOk p c v (tbl (if b = true then ac else dn) (i.toNat, j.toNat))) :
    Calls Try.prog 163 #[.agg #[.int .i64 p, dv, av, vv], .int .i64 i, .int .i64 j, va, .bool b] w fun e w' => ∃ u, e = .returned u ∧ L1 0 w' u (apT p c v (tbl (if b = true then ac else dn) (i.toNat, j.toNat))) ∧ Below w.heap.size w w' := by
  have HAP := Lib.hid hap
  have HV1 := Lib.hid hv
  have HTB := Lib.hid htb
  have hi4 : i ≤ 4 := by have := hok.len1; omega
  have hj4 : j ≤ 4 := by have := hok.h1; omega
  obtain ⟨av0, vc0, hvs⟩ := Sl.shape hv
  obtain ⟨vn, hvn⟩ : ∃ n, n = v.length := ⟨_, rfl⟩
  rw [← hvn] at hvs
  clear hap hv htb hvn
  have hcel := hok
  have HOK := Lib.hid hok
  have hm4 := hok.len1
  have hm1 := hok.len0
  have hq1 := hok.h0
  have hq4 := hok.h1
  clear hok hcel
  have HX := Lib.hid h
  rcases h.dims with ⟨hx, _⟩ | ⟨bb, o, cd, rfl, _, hpos, hcl⟩
  · subst hx; simp at hm1
  obtain ⟨u0, hu0, hr0⟩ := hcl 0 hpos
  rw [Nat.add_zero] at hu0
  obtain ⟨a0, z0, rfl⟩ := Sl.shape hr0
  rw [← getD_of_lt [] hpos] at hu0
  clear hcl hr0 h
  obtain ⟨m, hm⟩ : ∃ m, m = ds.length := ⟨_, rfl⟩
  obtain ⟨q, hq⟩ : ∃ q, q = (ds.getD 0 []).length := ⟨_, rfl⟩
  have hx0 := DBx.start (p := p) 28 HX.out
  rw [← hm] at hm4 hm1 hpos hx0 ⊢
  rw [← hq] at hq1 hq4 hu0
  have hB : Below w.heap.size w (w.alloc (.cells #[.int .i64 p, .slice (some ⟨bb, o, none⟩) m cd, av, vv] 28)) := (Below.refl _ _).alloc (Nat.le_refl _) _
  have hu1 := later hB (Nat.le_refl _) hu0
  clear hB hu0
  obtain ⟨w1, hw1⟩ : ∃ w1, w1 = w.alloc (.cells #[.int .i64 p, .slice (some ⟨bb, o, none⟩) m cd, av, vv] 28) := ⟨_, rfl⟩
  rw [← hw1] at hx0 hu1
  have HM := Lib.hid hm
  have HQ := Lib.hid hq
  have HX1 := Lib.hid hx0
  have HU1 := Lib.hid hu1
  have HNX : Hid (∀ W, Below w1.heap.size w1 W → DBx w W w.heap.size p (.slice (some ⟨bb, o, none⟩) m cd) av vv ds ac dn ∧ W.cell? ⟨bb, o, none⟩ = some (.slice a0 q z0)) := Lib.hid (fun W hb => ⟨HX1.out.next hb, later hb (Nat.le_refl _) HU1.out⟩)
  have HDIM : Hid (∀ W, Below w1.heap.size w1 W → ∀ a e : Int, -1000 ≤ a ∧ a ≤ 1000 → -1000 ≤ e ∧ e ≤ 1000 → Calls Try.prog 121 #[.agg #[.int .i64 p, .slice (some ⟨bb, o, none⟩) m cd, av, vv], .int .i64 a, .int .i64 e] W fun r w' => r = .returned (.int .i64 (dco ds a e)) ∧ Below w1.heap.size w1 w') := Lib.hid (fun W hb a e ha he => by
    have h0 := (HNX.out W hb).1.dx.dims
    rw [HM.out] at h0 ⊢
    exact (l03Dim_any p a e _ av vv ds W h0 HOK.out ha he).mono fun _ _ hh => ⟨hh.1, hb.trans (hh.2.mono hb.size)⟩)
  have c0 := hx0.c0
  have c1 := hx0.c1
  have c2 := hx0.c2
  have c3 := hx0.c3
  have wj : IntKind.i64.wrap (j - 1) = j - 1 := IntWalk.i64_in _ (by omega)
  have wi : IntKind.i64.wrap (i - 1) = i - 1 := IntWalk.i64_in _ (by omega)
  have wm : IntKind.i64.wrap ((m : Int) - 1) = (m : Int) - 1 := IntWalk.i64_in _ (by omega)
  have wq : IntKind.i64.wrap ((q : Int) - 1) = (q : Int) - 1 := IntWalk.i64_in _ (by omega)
  clear hm hq hx0 hu1
  cases b
  · simp only [Bool.false_eq_true, if_false]
    subst hvs
    have hce : dco ds i (j - 1) = (c : Int) := by simpa using hc
    obtain ⟨i, rfl⟩ : ∃ a : Nat, i = (a : Int) := ⟨i.toNat, by omega⟩
    obtain ⟨j, rfl⟩ : ∃ a : Nat, j = (a : Int) := ⟨j.toNat, by omega⟩
    have himn : i < m := by have := HM.out; omega
    have hjqn : j < q := by have := HQ.out; omega
    have hia : i < dn.length := by rw [HTB.out.ld, ← HM.out]; exact himn
    have hja : j < (dn[i]).length := by have h1 := HTB.out.cd i (by rw [← HM.out]; exact himn); rw [getD_of_lt _ hia, getD_of_lt _ (show i < ds.length by rw [← HM.out]; exact himn), (HOK.out.col _ (List.getElem_mem _)).1, ← HQ.out] at h1; omega
    obtain ⟨ba, oa, ca, b2, o2, k2, ut, hva, hA1, hA2, hTl⟩ := l4_at HX1.out.dx.down hia hja
    subst hva
    have hTt : (dn[i])[j] = tbl dn (i, j) := by unfold tbl; dsimp only; rw [getD_of_lt _ hia, getD_of_lt _ hja]
    rw [hTt] at hTl
    obtain ⟨n1, hn1⟩ : ∃ n, n = dn.length := ⟨_, rfl⟩
    obtain ⟨n2, hn2⟩ : ∃ n, n = (dn[i]).length := ⟨_, rfl⟩
    rw [← hn1] at HX1 HNX HDIM c3 hw1 ⊢
    rw [← hn2] at hA1
    have hi1 : i < n1 := by omega
    have hj2 : j < n2 := by omega
    have HA1 := Lib.hid hA1
    have HA2 := Lib.hid hA2
    have HTL := Lib.hid hTl
    clear hn1 hn2 hA1 hA2 hTl hTt hia hja
    obtain ⟨ta, tc, hut⟩ := Sl.shape HTL.out
    obtain ⟨n3, hn3⟩ : ∃ n, n = (tbl dn (i, j)).length := ⟨_, rfl⟩
    rw [← hn3] at hut
    subst hut
    clear hn3
    have HAP2 : Hid (ApOk p c v (tbl dn (i, j))) := Lib.hid (by simpa using HAP.out)
    have hi0 : (0 : Int) ≤ (i : Int) := by omega
    have hj0 : (0 : Int) ≤ (j : Int) := by omega
    go_enter Try.func163, Try.ntmps163
    go_wp2_with fail
    rw [← hw1]
    refine (HDIM.out w1 (Below.refl _ _) i (j - 1) (by omega) (by omega)).mono ?_
    rintro r W1 ⟨rfl, hb1⟩
    obtain ⟨W2, hW2⟩ : ∃ W2, W2 = W1 := ⟨_, rfl⟩
    rw [← hW2] at hb1 ⊢
    clear c0 c1 c2 c3 hW2 hw1
    have hb2 := hb1
    clear hb1
    have HB2 := Lib.hid hb2
    have hnx2 := HNX.out W2 hb2
    have c0 := hnx2.1.c0
    have c1 := hnx2.1.c1
    have c2 := hnx2.1.c2
    have c3 := hnx2.1.c3
    have hu2 := hnx2.2
    clear hb2 hnx2
    rw [hce]
    clear hce
    have I1 : Hid (∀ W, Calls Try.prog 70 #[.int .i64 (i : Int), .int .i64 0, .int .i64 ((m : Int) - 1)] W (QW (.bool true) W)) := Lib.hid (fun W => spin_yes ⟨by omega, by omega⟩ W)
    have I2 : Hid (∀ W, Calls Try.prog 70 #[.int .i64 (j : Int), .int .i64 0, .int .i64 ((q : Int) - 1)] W (QW (.bool true) W)) := Lib.hid (fun W => spin_yes ⟨by omega, by omega⟩ W)
    go_wp2_with fail
    refine (I1.out _).mono ?_
    rintro e w' ⟨rfl, rfl⟩
    go_wp2_with fail
    refine (I2.out _).mono ?_
    rintro e w' ⟨rfl, rfl⟩
    go_upto_region 8 with fail
    refine wp_region_held (S := fun W => Below w1.heap.size w1 W) (by kernel_rfl) ?_
    have S0 : Below w1.heap.size w1 W2.drew := HB2.out.drew
    change wpAnyH _ _ _ _ _ _ _ _ W2.drew
    obtain ⟨wd, hwd⟩ : ∃ wd, wd = W2.drew := ⟨_, rfl⟩
    rw [← hwd] at S0 ⊢
    clear hwd
    refine held_take (i := 0) (v := .pointer (some ⟨w.heap.size, 0, none⟩)) (some 57) rfl rfl (by kernel_rfl) (by kernel_rfl) (by kernel_rfl) (fun _ _ _ h => h) (yieldsIf_run (by kernel_rfl) (fun W _ => by kernel_rfl)) S0 ?_
    refine held_take (i := 1) (v := .int .i64 p) (some 58) rfl rfl (by kernel_rfl) (by kernel_rfl) (by kernel_rfl) (fun _ _ _ h => h) (yieldsIf_cell (by kernel_rfl) rfl (by kernel_rfl) (fun W h => hloadIn W (HNX.out W h).1.c0)) S0 ?_
    refine held_take (i := 2) (v := .pointer (some ⟨w.heap.size, 3, none⟩)) (some 59) rfl rfl (by kernel_rfl) (by kernel_rfl) (by kernel_rfl) (fun _ _ _ h => h) (yieldsIf_run (by kernel_rfl) (fun W _ => by kernel_rfl)) S0 ?_
    refine held_take (i := 3) (v := .slice (some ⟨ba, oa, none⟩) n1 ca) (some 60) rfl rfl (by kernel_rfl) (by kernel_rfl) (by kernel_rfl) (fun _ _ _ h => h) (yieldsIf_cell (by kernel_rfl) rfl (by kernel_rfl) (fun W h => hload4 W (HNX.out W h).1.c3)) S0 ?_
    refine held_take (i := 4) (v := .int .i64 (i : Int)) (some 61) rfl rfl (by kernel_rfl) (by kernel_rfl) (by kernel_rfl) (fun _ _ _ h => h) (yieldsIf_move (by kernel_rfl) rfl (by kernel_rfl)) S0 ?_
    refine held_take (i := 5) (v := .pointer (some ⟨ba, oa + i, none⟩)) (some 62) rfl rfl (by kernel_rfl) (by kernel_rfl) (by kernel_rfl) (fun _ _ _ h => h) (yieldsIf_index (by kernel_rfl) rfl (by kernel_rfl) (by kernel_rfl) (hidx4 (cap := ca) rfl hi1)) S0 ?_
    refine held_take (i := 6) (v := .slice (some ⟨b2, o2, none⟩) n2 k2) (some 63) rfl rfl (by kernel_rfl) (by kernel_rfl) (by kernel_rfl) (fun _ _ _ h => h) (yieldsIf_cell (by kernel_rfl) rfl (by kernel_rfl) (fun W h => hload3s W (later h (Nat.le_refl _) HA1.out))) S0 ?_
    refine held_take (i := 7) (v := .int .i64 (j : Int)) (some 64) rfl rfl (by kernel_rfl) (by kernel_rfl) (by kernel_rfl) (fun _ _ _ h => h) (yieldsIf_move (by kernel_rfl) rfl (by kernel_rfl)) S0 ?_
    refine held_take (i := 8) (v := .pointer (some ⟨b2, o2 + j, none⟩)) (some 65) rfl rfl (by kernel_rfl) (by kernel_rfl) (by kernel_rfl) (fun _ _ _ h => h) (yieldsIf_index (by kernel_rfl) rfl (by kernel_rfl) (by kernel_rfl) (hidx3 b2 o2 k2 hj2)) S0 ?_
    refine held_take (i := 9) (v := .slice ta n3 tc) (some 66) rfl rfl (by kernel_rfl) (by kernel_rfl) (by kernel_rfl) (fun _ _ _ h => h) (yieldsIf_cell (by kernel_rfl) rfl (by kernel_rfl) (fun W h => hload2s W (later h (Nat.le_refl _) HA2.out))) S0 ?_
    refine held_take (i := 10) (v := .slice av0 vn vc0) (some 67) rfl rfl (by kernel_rfl) (by kernel_rfl) (by kernel_rfl) (fun _ _ _ h => h) (yieldsIf_move (by kernel_rfl) rfl (by kernel_rfl)) S0 ?_
    refine held_take (i := 11) (v := .int .i64 (c : Int)) (some 68) rfl rfl (by kernel_rfl) (by kernel_rfl) (by kernel_rfl) (fun _ _ _ h => h) (yieldsIf_move (by kernel_rfl) rfl (by kernel_rfl)) S0 ?_
    have HAPP : Hid (∀ W, Below w1.heap.size w1 W → Calls Try.prog 144 #[.int .i64 p, .slice ta n3 tc, .slice av0 vn vc0, .int .i64 (c : Int)] W (ApR p c v (tbl dn (i, j)) W)) := Lib.hid (fun W hb => l01Apply_any p c _ _ v _ W HAP2.out (HV1.out.below (HX1.out.below.trans (hb.mono HX1.out.below.size))) (HTL.out.below hb) (by omega) (by omega))
    refine held_enter (i := 12) (some 69) (f := 144) (args := #[.int .i64 p, .slice ta n3 tc, .slice av0 vn vc0, .int .i64 (c : Int)]) (by kernel_rfl) rfl rfl rfl (by kernel_rfl) (HAPP.out _ S0) ?_ (fun c w' h => by obtain ⟨_, h, _⟩ := h; cases h) (fun w' h => by obtain ⟨_, h, _⟩ := h; cases h)
    rintro e3 W3 ⟨u3, he3, hl3, hb3⟩
    injection he3 with he3
    subst he3
    have S1 : Below w1.heap.size w1 W3 := S0.trans (hb3.mono S0.size)
    refine ⟨S1, ?_⟩
    obtain ⟨a3, k3, hu3'⟩ := Sl.shape hl3
    obtain ⟨n4, hn4⟩ : ∃ n, n = (apT p c v (tbl dn (i, j))).length := ⟨_, rfl⟩
    rw [← hn4] at hu3'
    subst hu3'
    clear hn4
    refine held_take (i := 13) (v := .slice a3 n4 k3) (some 10) rfl rfl (by kernel_rfl) (by kernel_rfl) (by kernel_rfl) (fun _ _ _ h => h) (yieldsIf_assign (by kernel_rfl) rfl (by kernel_rfl)) S1 ?_
    refine wpAnyH_done (by kernel_rfl) ?_ _
    simp only [Act.put, List.setIfInBounds_toArray, List.set_cons_zero, List.set_cons_succ]
    have HL3 : Hid (L1 0 W3 (.slice a3 n4 k3) (apT p c v (tbl dn (i, j)))) := Lib.hid (hl3.lower (Nat.zero_le _))
    have HS1 := Lib.hid S1
    clear S0 S1 hl3 hb3
    go_wp2
    go_ret
    exact ⟨_, rfl, HL3.out, HX1.out.below.trans (HS1.out.mono HX1.out.below.size)⟩
  · simp only [if_true]
    subst hvs
    have hce : dco ds (i - 1) j = (c : Int) := by simpa using hc
    obtain ⟨i, rfl⟩ : ∃ a : Nat, i = (a : Int) := ⟨i.toNat, by omega⟩
    obtain ⟨j, rfl⟩ : ∃ a : Nat, j = (a : Int) := ⟨j.toNat, by omega⟩
    have himn : i < m := by have := HM.out; omega
    have hjqn : j < q := by have := HQ.out; omega
    have hia : i < ac.length := by rw [HTB.out.la, ← HM.out]; exact himn
    have hja : j < (ac[i]).length := by have h1 := HTB.out.ca i (by rw [← HM.out]; exact himn); rw [getD_of_lt _ hia, getD_of_lt _ (show i < ds.length by rw [← HM.out]; exact himn), (HOK.out.col _ (List.getElem_mem _)).1, ← HQ.out] at h1; omega
    obtain ⟨ba, oa, ca, b2, o2, k2, ut, hva, hA1, hA2, hTl⟩ := l4_at HX1.out.dx.across hia hja
    subst hva
    have hTt : (ac[i])[j] = tbl ac (i, j) := by unfold tbl; dsimp only; rw [getD_of_lt _ hia, getD_of_lt _ hja]
    rw [hTt] at hTl
    obtain ⟨n1, hn1⟩ : ∃ n, n = ac.length := ⟨_, rfl⟩
    obtain ⟨n2, hn2⟩ : ∃ n, n = (ac[i]).length := ⟨_, rfl⟩
    rw [← hn1] at HX1 HNX HDIM c2 hw1 ⊢
    rw [← hn2] at hA1
    have hi1 : i < n1 := by omega
    have hj2 : j < n2 := by omega
    have HA1 := Lib.hid hA1
    have HA2 := Lib.hid hA2
    have HTL := Lib.hid hTl
    clear hn1 hn2 hA1 hA2 hTl hTt hia hja
    obtain ⟨ta, tc, hut⟩ := Sl.shape HTL.out
    obtain ⟨n3, hn3⟩ : ∃ n, n = (tbl ac (i, j)).length := ⟨_, rfl⟩
    rw [← hn3] at hut
    subst hut
    clear hn3
    have HAP2 : Hid (ApOk p c v (tbl ac (i, j))) := Lib.hid (by simpa using HAP.out)
    have hi0 : (0 : Int) ≤ (i : Int) := by omega
    have hj0 : (0 : Int) ≤ (j : Int) := by omega
    go_enter Try.func163, Try.ntmps163
    go_wp2_with fail
    rw [← hw1]
    refine (HDIM.out w1 (Below.refl _ _) i (j - 1) (by omega) (by omega)).mono ?_
    rintro r W1 ⟨rfl, hb1⟩
    clear c0 c1 c2 c3 hw1
    have HB1 := Lib.hid hb1
    have hnx1 := HNX.out W1 hb1
    have c0 := hnx1.1.c0
    have c1 := hnx1.1.c1
    have c2 := hnx1.1.c2
    have c3 := hnx1.1.c3
    have hu1 := hnx1.2
    clear hb1 hnx1
    go_wp2_with fail
    refine (HDIM.out W1 HB1.out (i - 1) j (by omega) (by omega)).mono ?_
    rintro r W2 ⟨rfl, hb2⟩
    clear c0 c1 c2 c3 hu1
    have HB2 := Lib.hid hb2
    have hnx2 := HNX.out W2 hb2
    have c0 := hnx2.1.c0
    have c1 := hnx2.1.c1
    have c2 := hnx2.1.c2
    have c3 := hnx2.1.c3
    have hu2 := hnx2.2
    clear hb2 hnx2
    rw [hce]
    clear hce
    have I1 : Hid (∀ W, Calls Try.prog 70 #[.int .i64 (i : Int), .int .i64 0, .int .i64 ((m : Int) - 1)] W (QW (.bool true) W)) := Lib.hid (fun W => spin_yes ⟨by omega, by omega⟩ W)
    have I2 : Hid (∀ W, Calls Try.prog 70 #[.int .i64 (j : Int), .int .i64 0, .int .i64 ((q : Int) - 1)] W (QW (.bool true) W)) := Lib.hid (fun W => spin_yes ⟨by omega, by omega⟩ W)
    go_wp2_with fail
    refine (I1.out _).mono ?_
    rintro e w' ⟨rfl, rfl⟩
    go_wp2_with fail
    refine (I2.out _).mono ?_
    rintro e w' ⟨rfl, rfl⟩
    go_upto_region 7 with fail
    refine wp_region_held (S := fun W => Below w1.heap.size w1 W) (by kernel_rfl) ?_
    have S0 : Below w1.heap.size w1 W2.drew := HB2.out.drew
    change wpAnyH _ _ _ _ _ _ _ _ W2.drew
    obtain ⟨wd, hwd⟩ : ∃ wd, wd = W2.drew := ⟨_, rfl⟩
    rw [← hwd] at S0 ⊢
    clear hwd
    refine held_take (i := 0) (v := .pointer (some ⟨w.heap.size, 0, none⟩)) (some 44) rfl rfl (by kernel_rfl) (by kernel_rfl) (by kernel_rfl) (fun _ _ _ h => h) (yieldsIf_run (by kernel_rfl) (fun W _ => by kernel_rfl)) S0 ?_
    refine held_take (i := 1) (v := .int .i64 p) (some 45) rfl rfl (by kernel_rfl) (by kernel_rfl) (by kernel_rfl) (fun _ _ _ h => h) (yieldsIf_cell (by kernel_rfl) rfl (by kernel_rfl) (fun W h => hloadIn W (HNX.out W h).1.c0)) S0 ?_
    refine held_take (i := 2) (v := .pointer (some ⟨w.heap.size, 2, none⟩)) (some 46) rfl rfl (by kernel_rfl) (by kernel_rfl) (by kernel_rfl) (fun _ _ _ h => h) (yieldsIf_run (by kernel_rfl) (fun W _ => by kernel_rfl)) S0 ?_
    refine held_take (i := 3) (v := .slice (some ⟨ba, oa, none⟩) n1 ca) (some 47) rfl rfl (by kernel_rfl) (by kernel_rfl) (by kernel_rfl) (fun _ _ _ h => h) (yieldsIf_cell (by kernel_rfl) rfl (by kernel_rfl) (fun W h => hload4 W (HNX.out W h).1.c2)) S0 ?_
    refine held_take (i := 4) (v := .int .i64 (i : Int)) (some 48) rfl rfl (by kernel_rfl) (by kernel_rfl) (by kernel_rfl) (fun _ _ _ h => h) (yieldsIf_move (by kernel_rfl) rfl (by kernel_rfl)) S0 ?_
    refine held_take (i := 5) (v := .pointer (some ⟨ba, oa + i, none⟩)) (some 49) rfl rfl (by kernel_rfl) (by kernel_rfl) (by kernel_rfl) (fun _ _ _ h => h) (yieldsIf_index (by kernel_rfl) rfl (by kernel_rfl) (by kernel_rfl) (hidx4 (cap := ca) rfl hi1)) S0 ?_
    refine held_take (i := 6) (v := .slice (some ⟨b2, o2, none⟩) n2 k2) (some 50) rfl rfl (by kernel_rfl) (by kernel_rfl) (by kernel_rfl) (fun _ _ _ h => h) (yieldsIf_cell (by kernel_rfl) rfl (by kernel_rfl) (fun W h => hload3s W (later h (Nat.le_refl _) HA1.out))) S0 ?_
    refine held_take (i := 7) (v := .int .i64 (j : Int)) (some 51) rfl rfl (by kernel_rfl) (by kernel_rfl) (by kernel_rfl) (fun _ _ _ h => h) (yieldsIf_move (by kernel_rfl) rfl (by kernel_rfl)) S0 ?_
    refine held_take (i := 8) (v := .pointer (some ⟨b2, o2 + j, none⟩)) (some 52) rfl rfl (by kernel_rfl) (by kernel_rfl) (by kernel_rfl) (fun _ _ _ h => h) (yieldsIf_index (by kernel_rfl) rfl (by kernel_rfl) (by kernel_rfl) (hidx3 b2 o2 k2 hj2)) S0 ?_
    refine held_take (i := 9) (v := .slice ta n3 tc) (some 53) rfl rfl (by kernel_rfl) (by kernel_rfl) (by kernel_rfl) (fun _ _ _ h => h) (yieldsIf_cell (by kernel_rfl) rfl (by kernel_rfl) (fun W h => hload2s W (later h (Nat.le_refl _) HA2.out))) S0 ?_
    refine held_take (i := 10) (v := .slice av0 vn vc0) (some 54) rfl rfl (by kernel_rfl) (by kernel_rfl) (by kernel_rfl) (fun _ _ _ h => h) (yieldsIf_move (by kernel_rfl) rfl (by kernel_rfl)) S0 ?_
    refine held_take (i := 11) (v := .int .i64 (c : Int)) (some 55) rfl rfl (by kernel_rfl) (by kernel_rfl) (by kernel_rfl) (fun _ _ _ h => h) (yieldsIf_move (by kernel_rfl) rfl (by kernel_rfl)) S0 ?_
    have HAPP : Hid (∀ W, Below w1.heap.size w1 W → Calls Try.prog 144 #[.int .i64 p, .slice ta n3 tc, .slice av0 vn vc0, .int .i64 (c : Int)] W (ApR p c v (tbl ac (i, j)) W)) := Lib.hid (fun W hb => l01Apply_any p c _ _ v _ W HAP2.out (HV1.out.below (HX1.out.below.trans (hb.mono HX1.out.below.size))) (HTL.out.below hb) (by omega) (by omega))
    refine held_enter (i := 12) (some 56) (f := 144) (args := #[.int .i64 p, .slice ta n3 tc, .slice av0 vn vc0, .int .i64 (c : Int)]) (by kernel_rfl) rfl rfl rfl (by kernel_rfl) (HAPP.out _ S0) ?_ (fun c w' h => by obtain ⟨_, h, _⟩ := h; cases h) (fun w' h => by obtain ⟨_, h, _⟩ := h; cases h)
    rintro e3 W3 ⟨u3, he3, hl3, hb3⟩
    injection he3 with he3
    subst he3
    have S1 : Below w1.heap.size w1 W3 := S0.trans (hb3.mono S0.size)
    refine ⟨S1, ?_⟩
    obtain ⟨a3, k3, hu3'⟩ := Sl.shape hl3
    obtain ⟨n4, hn4⟩ : ∃ n, n = (apT p c v (tbl ac (i, j))).length := ⟨_, rfl⟩
    rw [← hn4] at hu3'
    subst hu3'
    clear hn4
    refine held_take (i := 13) (v := .slice a3 n4 k3) (some 10) rfl rfl (by kernel_rfl) (by kernel_rfl) (by kernel_rfl) (fun _ _ _ h => h) (yieldsIf_assign (by kernel_rfl) rfl (by kernel_rfl)) S1 ?_
    refine wpAnyH_done (by kernel_rfl) ?_ _
    simp only [Act.put, List.setIfInBounds_toArray, List.set_cons_zero, List.set_cons_succ]
    have HL3 : Hid (L1 0 W3 (.slice a3 n4 k3) (apT p c v (tbl ac (i, j)))) := Lib.hid (hl3.lower (Nat.zero_le _))
    have HS1 := Lib.hid S1
    clear S0 S1 hl3 hb3
    go_wp2
    go_ret
    exact ⟨_, rfl, HL3.out, HX1.out.below.trans (HS1.out.mono HX1.out.below.size)⟩
end Go.Proofs.Ytbadjfnelpfhcaa


namespace Go.Proofs.Ytbadjfnelpfhcaa
open Go.RowKit

theorem less_bd1 {p k a b : Int} (hp : IsP p) (hb : 0 ≤ b ∧ b < p) (hk : -1 ≤ k ∧ k < p) : -42 ≤ k * b ∧ k * b ≤ 42 ∧ (a - k * b) % p = (a + -k * b) % p := by
  refine ⟨?_, ?_, by rw [Int.neg_mul, Int.sub_eq_add_neg]⟩
  · by_cases h : 0 ≤ k
    · have := (less_bd (a := a) hp hb ⟨h, hk.2⟩).1
      omega
    · obtain rfl : k = -1 := by omega
      have := hp.hi
      omega
  · by_cases h : 0 ≤ k
    · exact (less_bd (a := a) hp hb ⟨h, hk.2⟩).2.1
    · obtain rfl : k = -1 := by omega
      omega

set_option maxHeartbeats 3200000 in
set_option maxRecDepth 100000 in
theorem l01Less1_any (p k : Int) (n : Nat) (va vb : Value) (u t : Lin.V) (w : World) (hp : IsP p) (ha : L1 0 w va (toL n u)) (hb : L1 0 w vb (toL n t)) (hu : Lin.Md p u) (ht : Lin.Md p t) (hk : -1 ≤ k ∧ k < p) (hn : n ≤ 1048576) :
    Calls Try.prog 164 #[.int .i64 p, va, vb, .int .i64 k] w (GbR (toL n (Lin.add p u (-k) t)) w) := by
  have HP := Lib.hid hp
  have hp7 := hp.hi7
  have hp1 := hp.lo1
  have HA := Lib.hid ha
  have HB := Lib.hid hb
  have HU := Lib.hid hu
  have HT := Lib.hid ht
  obtain ⟨y, hy⟩ : ∃ y, y = Lin.add p u (-k) t := ⟨_, rfl⟩
  have HY := Lib.hid hy
  rw [← hy]
  obtain ⟨i1, hj, hy0, hy1, hy2⟩ := info_parts Try.infoI
  have HOWN := Lib.hid (World.ownsRow_made (base := w.heap.size) (e := 2) (size := 1) w #[] 0 (Nat.le_refl _) (by unfold maxLen; omega) (by simp))
  obtain ⟨ada, capa, hva⟩ := Sl.shape ha
  obtain ⟨adb, capb, hvb⟩ := Sl.shape hb
  rw [toL_length] at hva hvb
  subst hva hvb
  clear hp ha hb hu ht hy
  go_enter Try.func164, Try.ntmps164
  go_wp2
  go_loopw [9, 10] (fun o i wr => ∃ (q : Nat), q ≤ n ∧ i = .int .i64 q ∧ Hid (Below w.heap.size w wr) ∧ Hid (wr.ownsRow w.heap.size 2 1 o q ((toL q y).map (Value.int .i64)))) (fun _ i _ => n - (intOf i).toNat)
  case atStart => exact ⟨0, Nat.zero_le _, rfl, Lib.hid ((Below.refl _ _).alloc (Nat.le_refl _) _), Lib.hid (by simpa [toL] using HOWN.out)⟩
  case round =>
    clear HOWN
    obtain ⟨q, hq, rfl, HBE, HO⟩ := hrel
    by_cases hlt : q < n
    · refine Sl.cases HA.out (fun _ _ hx _ => absurd hlt (by have := congrArg List.length hx; rw [toL_length] at this; simp at this; omega)) (fun ba oa ca hva _ _ hca => ?_)
      refine Sl.cases HB.out (fun _ _ hx _ => absurd hlt (by have := congrArg List.length hx; rw [toL_length] at this; simp at this; omega)) (fun bb ob cb hvb _ _ hcb => ?_)
      rw [toL_length] at hva hvb
      obtain ⟨rfl, rfl⟩ : ada = some ⟨ba, oa, none⟩ ∧ capa = ca := by simpa using hva
      obtain ⟨rfl, rfl⟩ : adb = some ⟨bb, ob, none⟩ ∧ capb = cb := by simpa using hvb
      obtain ⟨ua, hua, hra⟩ := hca q (by rw [toL_length]; exact hlt)
      obtain ⟨ub, hub, hrb⟩ := hcb q (by rw [toL_length]; exact hlt)
      rw [toL_get] at hra hrb
      obtain ⟨a, haa⟩ : ∃ a, a = u q := ⟨_, rfl⟩
      obtain ⟨b, hbb⟩ : ∃ b, b = t q := ⟨_, rfl⟩
      have hab := HU.out q
      have hbb2 := HT.out q
      rw [← haa] at hra hab
      rw [← hbb] at hrb hbb2
      have h1 : wr.cell? ⟨ba, oa + q, none⟩ = some (.int .i64 a) := by rw [later HBE.out (Nat.le_refl _) hua, hra]
      have h2 : wr.cell? ⟨bb, ob + q, none⟩ = some (.int .i64 b) := by rw [later HBE.out (Nat.le_refl _) hub, hrb]
      obtain ⟨m0, m1, m2⟩ := less_bd1 (a := a) HP.out hbb2 hk
      have HM2 : Hid ((a - k * b) % p = y q) := Lib.hid (by rw [m2, HY.out, haa, hbb]; rfl)
      have hmod := fun W => l01Mod_any p (a - k * b) W HP.out
      rw [HM2.out] at hmod
      have HMOD := Lib.hid hmod
      have hsz : w.heap.size ≤ wr.heap.size := HBE.out.size
      have hca1 : ∀ W, Below w.heap.size w W → W.cell? ⟨ba, oa + q, none⟩ = some (.int .i64 a) := fun W h => by rw [later h (Nat.le_refl _) hua, hra]
      have hcb1 : ∀ W, Below w.heap.size w W → W.cell? ⟨bb, ob + q, none⟩ = some (.int .i64 b) := fun W h => by rw [later h (Nat.le_refl _) hub, hrb]
      have hmul : ∀ w, (binOp .mul 2 (.int .i64 k) (.int .i64 b)).run Try.prog w = .ok (.int .i64 (k * b)) w := fun w => hmulI (by omega) (by omega) w
      have hsub : ∀ w, (binOp .sub 2 (.int .i64 a) (.int .i64 (k * b))).run Try.prog w = .ok (.int .i64 (a - k * b)) w := fun w => hsubI (by omega) (by omega) w
      clear h1 h2
      clear hra hrb hca hcb hva hvb m2 haa hbb hmod
      go_wp2
      refine wp_region_held (S := fun W => Below w.heap.size w W) (by kernel_rfl) ?_
      have S0 : Below w.heap.size w wr.drew := HBE.out.drew
      refine held_take (i := 0) (v := u9) (some 18) rfl rfl (by kernel_rfl) (by kernel_rfl) (by kernel_rfl) (fun _ _ _ h => h) (yieldsIf_move (by kernel_rfl) rfl (by kernel_rfl)) S0 ?_
      refine held_take (i := 1) (v := .int .i64 p) (some 19) rfl rfl (by kernel_rfl) (by kernel_rfl) (by kernel_rfl) (fun _ _ _ h => h) (yieldsIf_move (by kernel_rfl) rfl (by kernel_rfl)) S0 ?_
      refine held_take (i := 2) (v := .slice (some ⟨ba, oa, none⟩) n capa) (some 20) rfl rfl (by kernel_rfl) (by kernel_rfl) (by kernel_rfl) (fun _ _ _ h => h) (yieldsIf_move (by kernel_rfl) rfl (by kernel_rfl)) S0 ?_
      refine held_take (i := 3) (v := .int .i64 (q : Int)) (some 21) rfl rfl (by kernel_rfl) (by kernel_rfl) (by kernel_rfl) (fun _ _ _ h => h) (yieldsIf_move (by kernel_rfl) rfl (by kernel_rfl)) S0 ?_
      refine held_take (i := 4) (v := .pointer (some ⟨ba, oa + q, none⟩)) (some 22) rfl rfl (by kernel_rfl) (by kernel_rfl) (by kernel_rfl) (fun _ _ _ h => h) (yieldsIf_index (by kernel_rfl) rfl (by kernel_rfl) (by kernel_rfl) (hidxI ba oa capa hlt)) S0 ?_
      refine held_take (i := 5) (v := .int .i64 a) (some 23) rfl rfl (by kernel_rfl) (by kernel_rfl) (by kernel_rfl) (fun _ _ _ h => h) (yieldsIf_cell (by kernel_rfl) rfl (by kernel_rfl) (fun W h => hload W (hca1 W h))) S0 ?_
      refine held_take (i := 6) (v := .int .i64 k) (some 24) rfl rfl (by kernel_rfl) (by kernel_rfl) (by kernel_rfl) (fun _ _ _ h => h) (yieldsIf_move (by kernel_rfl) rfl (by kernel_rfl)) S0 ?_
      refine held_take (i := 7) (v := .slice (some ⟨bb, ob, none⟩) n capb) (some 25) rfl rfl (by kernel_rfl) (by kernel_rfl) (by kernel_rfl) (fun _ _ _ h => h) (yieldsIf_move (by kernel_rfl) rfl (by kernel_rfl)) S0 ?_
      refine held_take (i := 8) (v := .int .i64 (q : Int)) (some 26) rfl rfl (by kernel_rfl) (by kernel_rfl) (by kernel_rfl) (fun _ _ _ h => h) (yieldsIf_move (by kernel_rfl) rfl (by kernel_rfl)) S0 ?_
      refine held_take (i := 9) (v := .pointer (some ⟨bb, ob + q, none⟩)) (some 27) rfl rfl (by kernel_rfl) (by kernel_rfl) (by kernel_rfl) (fun _ _ _ h => h) (yieldsIf_index (by kernel_rfl) rfl (by kernel_rfl) (by kernel_rfl) (hidxI bb ob capb hlt)) S0 ?_
      refine held_take (i := 10) (v := .int .i64 b) (some 28) rfl rfl (by kernel_rfl) (by kernel_rfl) (by kernel_rfl) (fun _ _ _ h => h) (yieldsIf_cell (by kernel_rfl) rfl (by kernel_rfl) (fun W h => hload W (hcb1 W h))) S0 ?_
      refine held_take (i := 11) (v := .int .i64 (k * b)) (some 29) rfl rfl (by kernel_rfl) (by kernel_rfl) (by kernel_rfl) (fun _ _ _ h => h) (yieldsIf_bin (by kernel_rfl) rfl (by kernel_rfl) (by kernel_rfl) (fun _ => rfl) hmul) S0 ?_
      refine held_take (i := 12) (v := .int .i64 (a - k * b)) (some 30) rfl rfl (by kernel_rfl) (by kernel_rfl) (by kernel_rfl) (fun _ _ _ h => h) (yieldsIf_bin (by kernel_rfl) rfl (by kernel_rfl) (by kernel_rfl) (fun _ => rfl) hsub) S0 ?_
      refine held_enter (i := 13) (some 31) (f := 176) (args := #[.int .i64 p, .int .i64 (a - k * b)]) (by kernel_rfl) rfl rfl rfl (by kernel_rfl) (HMOD.out _) ?_ (fun c w' h => by cases h.1) (fun w' h => by cases h.1)
      rintro e4 W4 ⟨he4, rfl⟩
      injection he4 with he4
      subst he4
      refine ⟨S0, ?_⟩
      have S1 : Below w.heap.size w (wr.drew.alloc (.cells #[.int .i64 (y q)] 2)) := S0.alloc hsz _
      have HOX := Lib.hid (HO.out.alloc (.cells #[.int .i64 (y q)] 2))
      refine held_buildI (i := 14) (some 32) (by kernel_rfl) rfl rfl rfl (.tmp 31) (y q) rfl (by kernel_rfl) ⟨S1, ?_⟩
      refine held_appendI (i := 15) (some 33) (by kernel_rfl) rfl rfl rfl (.tmp 18) (.tmp 32) rfl w.heap.size u9 q _ (by kernel_rfl) HOX.out wr.heap.size (y q) (by kernel_rfl) (cell_alloc1 wr.drew _ _) (by omega) (by simp; omega) ?_
      intro v' w3 hown hgrow
      have S2 : Below w.heap.size w w3 := S1.grown hgrow (by simp; omega) (fun g hg => ((HOX.out.lt) g hg).1)
      have HB3 := Lib.hid S2
      have HO3 : Hid (w3.ownsRow w.heap.size 2 1 v' (q + 1) ((toL (q + 1) y).map (Value.int .i64))) := Lib.hid (by rw [toL_succ, List.map_append]; exact hown)
      refine ⟨S2, ?_⟩
      refine held_take (i := 16) (v := v') (some 9) rfl rfl (by kernel_rfl) (by kernel_rfl) (by kernel_rfl) (fun _ _ _ h => h) (yieldsIf_assign (by kernel_rfl) rfl (by kernel_rfl)) S2 ?_
      refine wpAnyH_done (by kernel_rfl) ?_ _
      simp only [Act.put, List.setIfInBounds_toArray, List.set_cons_zero, List.set_cons_succ]
      clear S0 S1 S2 hown hgrow hca1 hcb1 hmul hsub HOX HO HBE
      go_wp2
      go_roundw
      case rel => exact ⟨q + 1, by omega, by go_num, HB3, HO3⟩
      case measure => simp [intOf]; omega
    · have hqq : Hid (q = n) := Lib.hid (by omega)
      go_wp2
      go_ret
      refine ⟨_, rfl, ?_, HBE.out⟩
      have := HO.out
      rw [hqq.out] at this
      unfold Gb
      rw [toL_length]
      exact this
end Go.Proofs.Ytbadjfnelpfhcaa


namespace Go.Proofs.Ytbadjfnelpfhcaa
open Go.RowKit

def inD (ds : List (List Int)) (i j : Int) : Prop := 0 ≤ i ∧ i < ds.length ∧ 0 ≤ j ∧ j < (ds.getD 0 []).length
instance (ds : List (List Int)) (i j : Int) : Decidable (inD ds i j) := by unfold inD; exact inferInstance
def wid (ds : List (List Int)) (b : Bool) (i j : Int) : Nat := (if b = true then dco ds (i - 1) j else dco ds i (j - 1)).toNat
/-- A step of the model. -/
def stp (p : Int) (ds : List (List Int)) (ac dn : List (List (List (List Int)))) (i j : Int) (v : List Int) (b : Bool) : List Int :=
  if inD ds i j then apT p (wid ds b i j) v (tbl (if b = true then ac else dn) (i.toNat, j.toNat)) else List.replicate (wid ds b i j) 0
theorem dco_bd {ds : List (List Int)} (hok : DclOk ds) (i j : Int) : 0 ≤ dco ds i j ∧ dco ds i j ≤ 4 := by
  unfold dco
  split
  · rename_i h
    have h1 : i.toNat < ds.length := by omega
    rw [getD_of_lt _ h1]
    have hc := hok.col _ (List.getElem_mem h1)
    have h2 : j.toNat < (ds[i.toNat]).length := by omega
    rw [getD_of_lt _ h2]
    exact hc.2 _ (List.getElem_mem h2)
  · omega
theorem dco_cell {ds : List (List Int)} (hok : DclOk ds) {c : Nat × Nat} (h : c ∈ cellsTo ds ds.length) : dco ds c.1 c.2 = (cdim ds c : Nat) := by
  obtain ⟨h1, h2⟩ := mem_cells.1 h
  rw [(cdim_cast hok h).1, dcl_nat]
  unfold dco
  rw [getD_of_lt _ h1, (hok.col _ (List.getElem_mem h1)).1] at h2
  rw [if_pos (by omega)]
  simp
theorem wid_cast {ds : List (List Int)} (hok : DclOk ds) (b : Bool) (i j : Int) : (if b = true then dco ds (i - 1) j else dco ds i (j - 1)) = ((wid ds b i j : Nat) : Int) ∧ wid ds b i j ≤ 4 := by
  unfold wid
  have h1 := dco_bd hok (i - 1) j
  have h2 := dco_bd hok i (j - 1)
  cases b
  · simp only [Bool.false_eq_true, if_false]; omega
  · simp only [if_true]; omega
/-- Where a step may be taken. -/
def StOk (p : Int) (ds : List (List Int)) (ac dn : List (List (List (List Int)))) (i j : Int) (v : List Int) (b : Bool) : Prop := inD ds i j → ApOk p (wid ds b i j) v (tbl (if b = true then ac else dn) (i.toNat, j.toNat))
theorem stp_ok {p : Int} {ds : List (List Int)} {ac dn : List (List (List (List Int)))} {i j : Int} {v : List Int} {b : Bool} (hp : IsP p) (h : StOk p ds ac dn i j v b) : RowOk p (wid ds b i j) (stp p ds ac dn i j v b) := by
  have hp0 := hp.lo
  unfold stp
  split
  · rename_i hi
    have ok := h hi
    refine ⟨by rw [apT_length ok], fun x hx => ?_⟩
    obtain ⟨k, hk, rfl⟩ := List.getElem_of_mem hx
    have := apTo_mod ok (Nat.le_refl v.length) k
    rw [show apTo p (wid ds b i j) v (tbl (if b = true then ac else dn) (i.toNat, j.toNat)) v.length = apT p (wid ds b i j) v (tbl (if b = true then ac else dn) (i.toNat, j.toNat)) from rfl, getD_of_lt _ hk] at this
    exact this
  · refine ⟨by simp, fun x hx => ?_⟩
    rw [List.eq_of_mem_replicate hx]
    omega
theorem l03Step_any (b : Bool) (p i j : Int) (dv av vv va : Value) (ds : List (List Int)) (ac dn : List (List (List (List Int)))) (v : List Int) (w : World) (h : Dx 0 w dv av vv ds ac dn) (hok : DclOk ds) (htb : TbsOk p ds ac dn) (hv : L1 0 w va v) (hv40 : v.length ≤ 40) (hi : -1 ≤ i ∧ i ≤ 4) (hj : -1 ≤ j ∧ j ≤ 4) (hst : StOk p ds ac dn i j v b) :
    Calls Try.prog 163 #[.agg #[.int .i64 p, dv, av, vv], .int .i64 i, .int .i64 j, va, .bool b] w fun e w' => ∃ u, e = .returned u ∧ L1 0 w' u (stp p ds ac dn i j v b) ∧ Below w.heap.size w w' := by
  have hw := wid_cast hok b i j
  by_cases hin : inD ds i j
  · rw [show stp p ds ac dn i j v b = apT p (wid ds b i j) v (tbl (if b = true then ac else dn) (i.toNat, j.toNat)) from if_pos hin]
    exact l03Step_in b p i j dv av vv va ds ac dn (wid ds b i j) v w h hok htb hv hv40 hin hw.1 hw.2 (hst hin)
  · rw [show stp p ds ac dn i j v b = List.replicate (wid ds b i j) 0 from if_neg hin]
    exact l03Step_out b p i j dv av vv va ds ac dn (wid ds b i j) w h hok hi hj hin hw.1 hw.2

theorem leadOf_nn : ∀ {xs : List Int}, ¬ (∀ x ∈ xs, x = 0) → 0 ≤ leadOf xs
  | [], h => absurd (fun x hx => absurd hx (by simp)) h
  | x :: xs, h => by
    by_cases h0 : x = 0
    · have h2 : ¬ ∀ y ∈ xs, y = 0 := fun h3 => h (fun y hy => by
        rcases List.mem_cons.1 hy with rfl | hy
        · exact h0
        · exact h3 y hy)
      have := leadOf_nn h2
      simp only [leadOf, h0, if_true]
      rw [if_neg (by omega)]
      omega
    · simp [leadOf, h0]
theorem leadOf_null {xs : List Int} (h : ∀ x ∈ xs, x = 0) : leadOf xs = -1 := leadOf_zero (fun _ hj => h _ (List.getElem_mem hj))

/-- What the model asks of a basis vector. -/
structure SqRow (p : Int) (ds : List (List Int)) (ac dn : List (List (List (List Int)))) (c : Nat × Nat) (r : Nat) : Prop where
  a : ∀ x ∈ stp p ds ac dn ((c.1 : Int) - 1) c.2 ((tbl ac c).getD r []) true, x = 0
  d : ∀ x ∈ stp p ds ac dn c.1 ((c.2 : Int) - 1) ((tbl dn c).getD r []) false, x = 0
  b : ∀ x ∈ toL (wid ds false ((c.1 : Int) - 1) c.2) (Lin.add p (ofL (stp p ds ac dn ((c.1 : Int) - 1) c.2 ((tbl ac c).getD r []) false)) (-(-1)) (ofL (stp p ds ac dn c.1 ((c.2 : Int) - 1) ((tbl dn c).getD r []) true))), x = 0
def SqCell (p : Int) (ds : List (List Int)) (ac dn : List (List (List (List Int)))) (c : Nat × Nat) : Prop := ∀ r, r < cdim ds c → SqRow p ds ac dn c r

section
variable {p : Int} {ds : List (List Int)} {ac dn : List (List (List (List Int)))}
theorem row_len (hok : DclOk ds) (ht : TbsOk p ds ac dn) {c : Nat × Nat} (hc : c ∈ cellsTo ds ds.length) {r : Nat} (hr : r < cdim ds c) :
    RowOk p (dcl ds ((c.1 : Int) - 1) c.2) ((tbl ac c).getD r []) ∧ RowOk p (dcl ds c.1 ((c.2 : Int) - 1)) ((tbl dn c).getD r []) ∧ (tbl ac c).length = cdim ds c ∧ (tbl dn c).length = cdim ds c := by
  obtain ⟨ta, td⟩ := ht.tab c hc
  have h1 := (cdim_cast hok hc).1
  have la := ta.1
  have ld := td.1
  have la' : (tbl ac c).length = cdim ds c := by unfold tbl; omega
  have ld' : (tbl dn c).length = cdim ds c := by unfold tbl; omega
  refine ⟨?_, ?_, la', ld'⟩
  · rw [getD_of_lt _ (by omega)]; exact ta.2 _ (List.getElem_mem _)
  · rw [getD_of_lt _ (by omega)]; exact td.2 _ (List.getElem_mem _)
theorem dco_dcl (hok : DclOk ds) {c : Nat × Nat} (hc : c ∈ cellsTo ds ds.length) : dco ds ((c.1 : Int) - 1) c.2 = dcl ds ((c.1 : Int) - 1) c.2 ∧ dco ds c.1 ((c.2 : Int) - 1) = dcl ds c.1 ((c.2 : Int) - 1) := by
  obtain ⟨i, j⟩ := c
  dsimp only
  constructor
  · cases i with
    | zero => unfold dco dcl; rw [if_neg (by omega), if_pos (by omega)]
    | succ i =>
      have h := cell_left hok hc
      rw [show (((i + 1 : Nat) : Int) - 1) = (i : Int) by omega, dco_cell hok (c := (i, j)) h, (cdim_cast hok h).1]
  · cases j with
    | zero => unfold dco dcl; rw [if_neg (by omega), if_pos (by omega)]
    | succ j =>
      have h := cell_low hc
      rw [show (((j + 1 : Nat) : Int) - 1) = (j : Int) by omega, dco_cell hok (c := (i, j)) h, (cdim_cast hok h).1]
/-- The four steps may be taken. -/
theorem st_left (hp : IsP p) (hok : DclOk ds) (ht : TbsOk p ds ac dn) {c : Nat × Nat} (hc : c ∈ cellsTo ds ds.length) {r : Nat} (hr : r < cdim ds c) (b : Bool) : StOk p ds ac dn ((c.1 : Int) - 1) c.2 ((tbl ac c).getD r []) b := by
  intro hin
  obtain ⟨i, j⟩ := c
  dsimp only at hin hc hr ⊢
  cases i with
  | zero => exact absurd hin.1 (by omega)
  | succ i =>
    have hl := cell_left hok hc
    have e : (((i + 1 : Nat) : Int) - 1) = (i : Int) := by omega
    obtain ⟨r1, _, _, _⟩ := row_len hok ht hc hr
    dsimp only at r1
    rw [e] at r1 ⊢
    obtain ⟨ta, td⟩ := ht.tab _ hl
    have hcd := dco_dcl hok hl
    dsimp only at ta td hcd
    have hw := wid_cast hok b (i : Int) (j : Int)
    rw [Int.toNat_natCast, Int.toNat_natCast]
    cases b
    · simp only [Bool.false_eq_true, if_false] at hw ⊢
      exact ⟨hp, by have h1 := r1.1; have h2 : ((tbl dn (i, j)).length : Int) = dcl ds i j := td.1; omega, r1.2, fun x hx => by rw [← hw.1, hcd.2]; exact td.2 x hx⟩
    · simp only [if_true] at hw ⊢
      exact ⟨hp, by have h1 := r1.1; have h2 : ((tbl ac (i, j)).length : Int) = dcl ds i j := ta.1; omega, r1.2, fun x hx => by rw [← hw.1, hcd.1]; exact ta.2 x hx⟩
theorem st_low (hp : IsP p) (hok : DclOk ds) (ht : TbsOk p ds ac dn) {c : Nat × Nat} (hc : c ∈ cellsTo ds ds.length) {r : Nat} (hr : r < cdim ds c) (b : Bool) : StOk p ds ac dn c.1 ((c.2 : Int) - 1) ((tbl dn c).getD r []) b := by
  intro hin
  obtain ⟨i, j⟩ := c
  dsimp only at hin hc hr ⊢
  cases j with
  | zero => exact absurd hin.2.2.1 (by omega)
  | succ j =>
    have hl := cell_low hc
    have e : (((j + 1 : Nat) : Int) - 1) = (j : Int) := by omega
    obtain ⟨_, r1, _, _⟩ := row_len hok ht hc hr
    dsimp only at r1
    rw [e] at r1 ⊢
    obtain ⟨ta, td⟩ := ht.tab _ hl
    have hcd := dco_dcl hok hl
    dsimp only at ta td hcd
    have hw := wid_cast hok b (i : Int) (j : Int)
    rw [Int.toNat_natCast, Int.toNat_natCast]
    cases b
    · simp only [Bool.false_eq_true, if_false] at hw ⊢
      exact ⟨hp, by have h1 := r1.1; have h2 : ((tbl dn (i, j)).length : Int) = dcl ds i j := td.1; omega, r1.2, fun x hx => by rw [← hw.1, hcd.2]; exact td.2 x hx⟩
    · simp only [if_true] at hw ⊢
      exact ⟨hp, by have h1 := r1.1; have h2 : ((tbl ac (i, j)).length : Int) = dcl ds i j := ta.1; omega, r1.2, fun x hx => by rw [← hw.1, hcd.1]; exact ta.2 x hx⟩
theorem null_all {xs : List Int} {n : Nat} (h : xs.length = n) : (∀ x ∈ xs, x = 0) ↔ ∀ t, t < n → xs.getD t 0 = 0 := by
  constructor
  · intro hz t ht
    rw [getD_of_lt _ (by omega)]
    exact hz _ (List.getElem_mem _)
  · intro hz x hx
    obtain ⟨t, ht, rfl⟩ := List.getElem_of_mem hx
    have := hz t (by omega)
    rwa [getD_of_lt _ ht] at this
theorem inD_cell (hok : DclOk ds) {c : Nat × Nat} (hc : c ∈ cellsTo ds ds.length) : inD ds c.1 c.2 := by
  obtain ⟨h1, h2⟩ := mem_cells.1 hc
  rw [getD_of_lt _ h1, (hok.col _ (List.getElem_mem h1)).1] at h2
  unfold inD
  omega
theorem wid_t (hok : DclOk ds) {i j : Nat} (h : (i, j) ∈ cellsTo ds ds.length) (a b : Int) : (a - 1 = i → b = j → wid ds true a b = cdim ds (i, j)) ∧ (a = i → b - 1 = j → wid ds false a b = cdim ds (i, j)) := by
  have := dco_cell hok h
  dsimp only at this
  constructor
  · rintro e1 rfl
    unfold wid
    simp only [if_true]
    rw [e1, this]; simp
  · rintro rfl e1
    unfold wid
    simp only [Bool.false_eq_true, if_false]
    rw [e1, this]; simp
theorem wid_0 (a b : Int) : (a - 1 < 0 → wid ds true a b = 0) ∧ (b - 1 < 0 → wid ds false a b = 0) ∧ (a < 0 → wid ds false a b = 0) ∧ (b < 0 → wid ds true a b = 0) := by
  refine ⟨fun h => ?_, fun h => ?_, fun h => ?_, fun h => ?_⟩ <;> unfold wid dco <;> simp <;> omega

/-- **What the model asks is what the total asks.** -/
theorem sq_iff (hp : IsP p) (hok : DclOk ds) (ht : TbsOk p ds ac dn) : (∀ c ∈ cellsTo ds ds.length, SqCell p ds ac dn c) ↔ CndOk p ds ac dn := by
  -- one row
  have hA : ∀ (a j r : Nat) (b : Bool), (a + 1, j) ∈ cellsTo ds ds.length → r < cdim ds (a + 1, j) → ((tbl ac (a + 1, j)).getD r []).length = cdim ds (a, j) := fun a j r b hc hr => by
    have h1 := (row_len hok ht hc hr).1.1
    have h2 := (cdim_cast hok (cell_left hok hc)).1
    dsimp only at h1 h2
    rw [show (((a + 1 : Nat) : Int) - 1) = (a : Int) by omega] at h1
    omega
  have hD : ∀ (i b r : Nat), (i, b + 1) ∈ cellsTo ds ds.length → r < cdim ds (i, b + 1) → ((tbl dn (i, b + 1)).getD r []).length = cdim ds (i, b) := fun i b r hc hr => by
    have h1 := (row_len hok ht hc hr).2.1.1
    have h2 := (cdim_cast hok (cell_low hc)).1
    dsimp only at h1 h2
    rw [show (((b + 1 : Nat) : Int) - 1) = (b : Int) by omega] at h1
    omega
  have sL : ∀ (a j r : Nat) (b : Bool), (a + 1, j) ∈ cellsTo ds ds.length → r < cdim ds (a + 1, j) → stp p ds ac dn (((a + 1 : Nat) : Int) - 1) j ((tbl ac (a + 1, j)).getD r []) b = apT p (wid ds b a j) ((tbl ac (a + 1, j)).getD r []) (tbl (if b = true then ac else dn) (a, j)) ∧ ApOk p (wid ds b a j) ((tbl ac (a + 1, j)).getD r []) (tbl (if b = true then ac else dn) (a, j)) := fun a j r b hc hr => by
    have hin := inD_cell hok (cell_left hok hc)
    have hst := st_left hp hok ht hc hr b
    dsimp only at hin hst
    rw [show (((a + 1 : Nat) : Int) - 1) = (a : Int) by omega] at hst ⊢
    have hs := hst hin
    unfold stp
    rw [if_pos hin]
    rw [Int.toNat_natCast, Int.toNat_natCast] at hs ⊢
    exact ⟨rfl, hs⟩
  have sD : ∀ (i c r : Nat) (b : Bool), (i, c + 1) ∈ cellsTo ds ds.length → r < cdim ds (i, c + 1) → stp p ds ac dn i (((c + 1 : Nat) : Int) - 1) ((tbl dn (i, c + 1)).getD r []) b = apT p (wid ds b i c) ((tbl dn (i, c + 1)).getD r []) (tbl (if b = true then ac else dn) (i, c)) ∧ ApOk p (wid ds b i c) ((tbl dn (i, c + 1)).getD r []) (tbl (if b = true then ac else dn) (i, c)) := fun i c r b hc hr => by
    have hin := inD_cell hok (cell_low hc)
    have hst := st_low hp hok ht hc hr b
    dsimp only at hin hst
    rw [show (((c + 1 : Nat) : Int) - 1) = (c : Int) by omega] at hst ⊢
    have hs := hst hin
    unfold stp
    rw [if_pos hin]
    rw [Int.toNat_natCast, Int.toNat_natCast] at hs ⊢
    exact ⟨rfl, hs⟩
  have hzero : ∀ {xs : List Int} {n : Int}, RowOk p n xs → n = 0 → ∀ x ∈ xs, x = 0 := fun {xs n} h h0 x hx => by
    have := h.1
    rw [h0] at this
    have : xs = [] := List.eq_nil_of_length_eq_zero (by omega)
    rw [this] at hx
    exact absurd hx (by simp)
  have hB : ∀ (a b r : Nat), (a + 1, b + 1) ∈ cellsTo ds ds.length → r < cdim ds (a + 1, b + 1) →
      ((∀ x ∈ toL (wid ds false (((a + 1 : Nat) : Int) - 1) ((b + 1 : Nat) : Int)) (Lin.add p (ofL (stp p ds ac dn (((a + 1 : Nat) : Int) - 1) ((b + 1 : Nat) : Int) ((tbl ac (a + 1, b + 1)).getD r []) false)) (-(-1)) (ofL (stp p ds ac dn ((a + 1 : Nat) : Int) (((b + 1 : Nat) : Int) - 1) ((tbl dn (a + 1, b + 1)).getD r []) true))), x = 0) ↔
       ∀ t, t < cdim ds (a, b) → (mts ((tbl ac (a + 1, b + 1)).getD r []) (tbl dn (a, b + 1)) (cdim ds (a, b + 1)) t + mts ((tbl dn (a + 1, b + 1)).getD r []) (tbl ac (a + 1, b)) (cdim ds (a + 1, b)) t) % p = 0) := fun a b r hc hr => by
    have hca := cell_left hok hc
    have hcb := cell_low hc
    have hcab := cell_low hca
    obtain ⟨e1, k1⟩ := sL a (b + 1) r false hc hr
    obtain ⟨e2, k2⟩ := sD (a + 1) b r true hc hr
    have w1 : wid ds false (a : Int) ((b + 1 : Nat) : Int) = cdim ds (a, b) := (wid_t hok hcab _ _).2 rfl (by omega)
    have w2 : wid ds true ((a + 1 : Nat) : Int) (b : Int) = cdim ds (a, b) := (wid_t hok hcab _ _).1 (by omega) rfl
    rw [e1, e2, show (((a + 1 : Nat) : Int) - 1) = (a : Int) by omega, w1, w2]
    rw [w1] at k1
    rw [w2] at k2
    simp only [Bool.false_eq_true, if_false, if_true] at k1 k2 ⊢
    have l1 := hA a (b + 1) r false hc hr
    have l2 := hD (a + 1) b r hc hr
    rw [null_all (n := cdim ds (a, b)) (by simp [toL])]
    have hval : ∀ t, t < cdim ds (a, b) → (toL (cdim ds (a, b)) (Lin.add p (ofL (apT p (cdim ds (a, b)) ((tbl ac (a + 1, b + 1)).getD r []) (tbl dn (a, b + 1)))) (-(-1)) (ofL (apT p (cdim ds (a, b)) ((tbl dn (a + 1, b + 1)).getD r []) (tbl ac (a + 1, b)))))).getD t 0 =
        (mts ((tbl ac (a + 1, b + 1)).getD r []) (tbl dn (a, b + 1)) (cdim ds (a, b + 1)) t + mts ((tbl dn (a + 1, b + 1)).getD r []) (tbl ac (a + 1, b)) (cdim ds (a + 1, b)) t) % p := fun t ht' => by
      have h1 := apT_mts k1 ht'
      have h2 := apT_mts k2 ht'
      rw [l1] at h1
      rw [l2] at h2
      rw [getD_of_lt _ (by simpa [toL] using ht')]
      simp only [toL, List.getElem_map, List.getElem_range, Lin.add, ofL]
      rw [h1, h2]
      simp only [Int.neg_neg, Int.one_mul]
      rw [Int.add_emod, Int.emod_emod, Int.emod_emod, ← Int.add_emod]
    constructor
    · intro h t ht'
      rw [← hval t ht']; exact h t ht'
    · intro h t ht'
      rw [hval t ht']; exact h t ht'
  constructor
  · intro h
    refine ⟨fun a j r t hc hr ht' => ?_, fun i b r t hc hr ht' => ?_, fun a b r t hc hr ht' => ?_⟩
    · have h1 := (h _ hc r hr).a
      dsimp only at h1
      obtain ⟨e, k⟩ := sL (a + 1) j r true hc hr
      rw [e, (wid_t hok (cell_left hok (cell_left hok hc)) _ _).1 (by omega) rfl] at h1
      rw [(wid_t hok (cell_left hok (cell_left hok hc)) _ _).1 (by omega) rfl] at k
      have h2 := (apT_null k).1 h1 t ht'
      rwa [hA (a + 1) j r true hc hr] at h2
    · have h1 := (h _ hc r hr).d
      dsimp only at h1
      obtain ⟨e, k⟩ := sD i (b + 1) r false hc hr
      rw [e, (wid_t hok (cell_low (cell_low hc)) _ _).2 rfl (by omega)] at h1
      rw [(wid_t hok (cell_low (cell_low hc)) _ _).2 rfl (by omega)] at k
      have h2 := (apT_null k).1 h1 t ht'
      rwa [hD i (b + 1) r hc hr] at h2
    · exact (hB a b r hc hr).1 (h _ hc r hr).b t ht'
  · intro h c hc r hr
    obtain ⟨i, j⟩ := c
    refine ⟨?_, ?_, ?_⟩
    · dsimp only
      cases i with
      | zero => exact hzero (stp_ok hp (st_left hp hok ht hc hr true)) (by have := (wid_0 (ds := ds) (((0 : Nat) : Int) - 1) (j : Int)).1 (by omega); omega)
      | succ i =>
        cases i with
        | zero => exact hzero (stp_ok hp (st_left hp hok ht hc hr true)) (by have := (wid_0 (ds := ds) (((0 + 1 : Nat) : Int) - 1) (j : Int)).1 (by omega); omega)
        | succ a =>
          obtain ⟨e, k⟩ := sL (a + 1) j r true hc hr
          rw [e, (wid_t hok (cell_left hok (cell_left hok hc)) _ _).1 (by omega) rfl]
          rw [(wid_t hok (cell_left hok (cell_left hok hc)) _ _).1 (by omega) rfl] at k
          refine (apT_null k).2 (fun t ht' => ?_)
          rw [hA (a + 1) j r true hc hr]
          exact h.aa a j r t hc hr ht'
    · dsimp only
      cases j with
      | zero => exact hzero (stp_ok hp (st_low hp hok ht hc hr false)) (by have := (wid_0 (ds := ds) (i : Int) (((0 : Nat) : Int) - 1)).2.1 (by omega); omega)
      | succ j =>
        cases j with
        | zero => exact hzero (stp_ok hp (st_low hp hok ht hc hr false)) (by have := (wid_0 (ds := ds) (i : Int) (((0 + 1 : Nat) : Int) - 1)).2.1 (by omega); omega)
        | succ b =>
          obtain ⟨e, k⟩ := sD i (b + 1) r false hc hr
          rw [e, (wid_t hok (cell_low (cell_low hc)) _ _).2 rfl (by omega)]
          rw [(wid_t hok (cell_low (cell_low hc)) _ _).2 rfl (by omega)] at k
          refine (apT_null k).2 (fun t ht' => ?_)
          rw [hD i (b + 1) r hc hr]
          exact h.dd i b r t hc hr ht'
    · dsimp only
      cases i with
      | zero =>
        rw [(wid_0 (ds := ds) (((0 : Nat) : Int) - 1) (j : Int)).2.2.1 (by omega)]
        simp [toL]
      | succ a =>
        cases j with
        | zero =>
          rw [(wid_0 (ds := ds) (((a + 1 : Nat) : Int) - 1) ((0 : Nat) : Int)).2.1 (by omega)]
          simp [toL]
        | succ b => exact (hB a b r hc hr).2 (fun t ht' => h.ad a b r t hc hr ht')
end
end Go.Proofs.Ytbadjfnelpfhcaa


namespace Go.Proofs.Ytbadjfnelpfhcaa
open Go.RowKit

theorem row_at {w : World} {u : Value} {t : List (List Int)} {r : Nat} (h : L2 0 w u t) (hr : r < t.length) : ∃ b o c ur, u = .slice (some ⟨b, o, none⟩) t.length c ∧ w.cell? ⟨b, o + r, none⟩ = some ur ∧ L1 0 w ur t[r] := by
  rcases h with ⟨hx, _⟩ | ⟨b, o, c, rfl, _, _, hcl⟩
  · exact absurd (hx ▸ hr) (Nat.not_lt_zero _)
  obtain ⟨u1, hu1, hr1⟩ := hcl r hr
  exact ⟨b, o, c, u1, rfl, hu1, hr1⟩

set_option maxRecDepth 100000 in
set_option maxHeartbeats 12800000 in
theorem l03Square_any (p : Int) (hp : IsP p) (dv av vv : Value) (ds : List (List Int)) (ac dn : List (List (List (List Int)))) (w : World) (h : Dx 0 w dv av vv ds ac dn) (hok : DclOk ds) (htb : TbsOk p ds ac dn) :
    Calls Try.prog 122 #[.agg #[.int .i64 p, dv, av, vv]] w (BB (∀ c ∈ cellsTo ds ds.length, SqCell p ds ac dn c) w) := by
  obtain ⟨PP, hPP⟩ : ∃ P : Prop, P = (∀ c ∈ cellsTo ds ds.length, SqCell p ds ac dn c) := ⟨_, rfl⟩
  rw [← hPP]
  have HPI : Hid (PP ↔ (∀ c ∈ cellsTo ds ds.length, SqCell p ds ac dn c)) := Lib.hid (by rw [hPP])
  clear hPP
  have HP := Lib.hid hp
  have HOK := Lib.hid hok
  have HTB := Lib.hid htb
  have HX := Lib.hid h
  have hm4 := hok.len1
  have hm1 := hok.len0
  have hq1 := hok.h0
  have hq4 := hok.h1
  rcases h.dims with ⟨hx, _⟩ | ⟨bb, o, cd, rfl, _, hpos, hcl⟩
  · subst hx; simp at hm1
  have HCL := Lib.hid hcl
  obtain ⟨u0, hu0, hr0⟩ := hcl 0 hpos
  rw [Nat.add_zero] at hu0
  obtain ⟨a0, z0, rfl⟩ := Sl.shape hr0
  rw [← getD_of_lt [] hpos] at hu0
  clear hcl hr0 h hp hok htb
  obtain ⟨aa, ca', rfl⟩ := Sl.shape HX.out.across
  obtain ⟨ae, ce', rfl⟩ := Sl.shape HX.out.down
  obtain ⟨m, hm⟩ : ∃ m, m = ds.length := ⟨_, rfl⟩
  obtain ⟨q, hq⟩ : ∃ q, q = (ds.getD 0 []).length := ⟨_, rfl⟩
  obtain ⟨n1, hn1⟩ : ∃ n, n = ac.length := ⟨_, rfl⟩
  obtain ⟨n4, hn4⟩ : ∃ n, n = dn.length := ⟨_, rfl⟩
  have hn1m : m ≤ n1 := by rw [hn1, hm]; exact Nat.le_of_eq HTB.out.la.symm
  have hn4m : m ≤ n4 := by rw [hn4, hm]; exact Nat.le_of_eq HTB.out.ld.symm
  rw [← hm, ← hn1, ← hn4] at HX ⊢
  rw [← hm] at hm4 hm1 hpos
  rw [← hq] at hq1 hq4 hu0
  have HN1 := Lib.hid hn1
  have HN4 := Lib.hid hn4
  have HM := Lib.hid hm
  have HQ := Lib.hid hq
  clear hn1 hn4 hm hq
  have hx0 := DBx.start (p := p) 28 HX.out
  have hBa : Below w.heap.size w (w.alloc (.cells #[.int .i64 p, .slice (some ⟨bb, o, none⟩) m cd, .slice aa n1 ca', .slice ae n4 ce'] 28)) := (Below.refl _ _).alloc (Nat.le_refl _) _
  have hu1 := later hBa (Nat.le_refl _) hu0
  clear hBa hu0
  obtain ⟨w1, hw1⟩ : ∃ w1, w1 = w.alloc (.cells #[.int .i64 p, .slice (some ⟨bb, o, none⟩) m cd, .slice aa n1 ca', .slice ae n4 ce'] 28) := ⟨_, rfl⟩
  rw [← hw1] at hx0 hu1
  have HX1 := Lib.hid hx0
  have HU1 := Lib.hid hu1
  have HNX : Hid (∀ W, Below w1.heap.size w1 W → DBx w W w.heap.size p (.slice (some ⟨bb, o, none⟩) m cd) (.slice aa n1 ca') (.slice ae n4 ce') ds ac dn ∧ W.cell? ⟨bb, o, none⟩ = some (.slice a0 q z0)) := Lib.hid (fun W hb => ⟨HX1.out.next hb, later hb (Nat.le_refl _) HU1.out⟩)
  have HSTEP : Hid (∀ W, Below w1.heap.size w1 W → ∀ (b : Bool) (i j : Int) (va : Value) (v : List Int), L1 0 W va v → v.length ≤ 40 → -1 ≤ i ∧ i ≤ 4 → -1 ≤ j ∧ j ≤ 4 → StOk p ds ac dn i j v b → Calls Try.prog 163 #[.agg #[.int .i64 p, .slice (some ⟨bb, o, none⟩) m cd, .slice aa n1 ca', .slice ae n4 ce'], .int .i64 i, .int .i64 j, va, .bool b] W fun e w' => ∃ u, e = .returned u ∧ L1 0 w' u (stp p ds ac dn i j v b) ∧ Below W.heap.size W w') := Lib.hid (fun W hb b i j va v hv hl hi hj hs => l03Step_any b p i j _ _ _ va ds ac dn v W (HNX.out W hb).1.dx HOK.out HTB.out hv hl hi hj hs)
  have c0 := hx0.c0
  have c1 := hx0.c1
  clear hx0 hu1
  go_enter Try.func122, Try.ntmps122
  go_wp2
  rw [← hw1]
  clear hw1 c0 c1
  go_loopw [4, 5, 6, 7, 8, 9, 10] (fun i _ _ _ _ _ _ wr => ∃ a : Nat, a ≤ m ∧ i = .int .i64 a ∧ Hid (Below w1.heap.size w1 wr) ∧ Hid (∀ c ∈ cellsTo ds ds.length, c.1 < a → SqCell p ds ac dn c)) (fun i _ _ _ _ _ _ _ => m - (intOf i).toNat)
  case atStart => exact ⟨0, Nat.zero_le _, rfl, Lib.hid (Below.refl _ _), Lib.hid (fun _ _ h => absurd h (Nat.not_lt_zero _))⟩
  case round =>
    obtain ⟨a, ha, rfl, HBwx, HA⟩ := hrel
    obtain ⟨wx, hwx⟩ : ∃ wx : World, wx = wr := ⟨_, rfl⟩
    subst hwx
    have hnx := HNX.out wx HBwx.out
    have c0 := hnx.1.c0
    have c1 := hnx.1.c1
    have c2 := hnx.1.c2
    have c3 := hnx.1.c3
    have hu0 := hnx.2
    clear hnx
    by_cases hlt : a < m
    · have hlti : (a : Int) < (m : Int) := by omega
      go_wp2
      clear c0 c1 c2 c3 hu0
      go_loopw [5, 6, 7, 8, 9, 10] (fun j _ _ _ _ _ wr => ∃ b : Nat, b ≤ q ∧ j = .int .i64 b ∧ Hid (Below w1.heap.size w1 wr) ∧ Hid (∀ b', b' < b → SqCell p ds ac dn (a, b'))) (fun j _ _ _ _ _ _ => q - (intOf j).toNat)
      case atStart => exact ⟨0, Nat.zero_le _, rfl, HBwx, Lib.hid (fun _ h => absurd h (Nat.not_lt_zero _))⟩
      case round =>
        clear HBwx
        obtain ⟨b, hb, rfl, HBwy, HBC⟩ := hrel
        obtain ⟨wy, hwy⟩ : ∃ wy : World, wy = wr := ⟨_, rfl⟩
        subst hwy
        have hnx := HNX.out wy HBwy.out
        have c0 := hnx.1.c0
        have c1 := hnx.1.c1
        have c2 := hnx.1.c2
        have c3 := hnx.1.c3
        have hu0 := hnx.2
        clear hnx
        by_cases hltb : b < q
        · have hltj : (b : Int) < (q : Int) := by omega
          have hal : a < ds.length := by rw [← HM.out]; exact hlt
          have hc : (a, b) ∈ cellsTo ds ds.length := mem_cells.2 ⟨hal, by dsimp only; rw [getD_of_lt _ hal, (HOK.out.col _ (List.getElem_mem hal)).1, ← HQ.out]; exact hltb⟩
          have HC := Lib.hid hc
          obtain ⟨d, hd⟩ : ∃ d, d = cdim ds (a, b) := ⟨_, rfl⟩
          have hd4 : d ≤ 4 := by rw [hd]; exact (cdim_cast HOK.out hc).2
          have HD := Lib.hid hd
          have hdv : (d : Int) = (ds.getD a []).getD b 0 := by rw [hd, (cdim_cast HOK.out hc).1, dcl_nat]
          obtain ⟨ui, hui, hri⟩ := HCL.out a hal
          have hbl : b < (ds[a]).length := by rw [(HOK.out.col _ (List.getElem_mem hal)).1, ← HQ.out]; exact hltb
          rcases hri with ⟨hx, _⟩ | ⟨bi, oi, ci, rfl, hpa, hpb, hci⟩
          · rw [hx] at hbl; exact absurd hbl (Nat.not_lt_zero _)
          obtain ⟨ue, hue, hre⟩ := hci b hbl
          have hre' : ue = .int .i64 (d : Int) := by rw [hdv, getD_of_lt _ hal, getD_of_lt _ hbl]; exact hre
          subst hre'
          rw [(HOK.out.col _ (List.getElem_mem hal)).1, ← HQ.out] at hui
          have HUI : Hid (∀ W, Below w1.heap.size w1 W → W.cell? ⟨bb, o + a, none⟩ = some (.slice (some ⟨bi, oi, none⟩) q ci) ∧ W.cell? ⟨bi, oi + b, none⟩ = some (.int .i64 (d : Int))) := Lib.hid (fun W hb => ⟨later (HX1.out.below.trans (hb.mono HX1.out.below.size)) (Nat.le_refl _) hui, later (HX1.out.below.trans (hb.mono HX1.out.below.size)) (Nat.le_refl _) hue⟩)
          clear hui hue hci hre hdv hd hc hpa hpb hbl hal
          go_wp2
          clear c0 c1 c2 c3 hu0
          go_loopw [6, 7, 8, 9, 10] (fun k _ _ _ _ wr => ∃ r : Nat, r ≤ d ∧ k = .int .i64 r ∧ Hid (Below w1.heap.size w1 wr) ∧ Hid (∀ r', r' < r → SqRow p ds ac dn (a, b) r')) (fun k _ _ _ _ _ => d - (intOf k).toNat)
          case atStart => exact ⟨0, Nat.zero_le _, rfl, HBwy, Lib.hid (fun _ h => absurd h (Nat.not_lt_zero _))⟩
          case round =>
            clear HBwy
            obtain ⟨r, hr, rfl, HBwz, HRC⟩ := hrel
            obtain ⟨wz, hwz⟩ : ∃ wz : World, wz = wr := ⟨_, rfl⟩
            subst hwz
            have hnx := HNX.out wz HBwz.out
            have c0 := hnx.1.c0
            have c1 := hnx.1.c1
            have c2 := hnx.1.c2
            have c3 := hnx.1.c3
            have hu0 := hnx.2
            clear hnx
            have hui := (HUI.out wz HBwz.out).1
            have hue := (HUI.out wz HBwz.out).2
            by_cases hltr : r < d
            · have hltk : (r : Int) < (d : Int) := by omega
              have hrd : r < cdim ds (a, b) := by rw [← HD.out]; exact hltr
              obtain ⟨ra, rd, la, ld⟩ := row_len HOK.out HTB.out HC.out hrd
              have hcd := dco_dcl HOK.out HC.out
              have hb1 := dco_bd HOK.out (((a, b) : Nat × Nat).1 - 1 : Int) ((a, b) : Nat × Nat).2
              have hb2 := dco_bd HOK.out ((a, b) : Nat × Nat).1 (((a, b) : Nat × Nat).2 - 1 : Int)
              have hal40 : ((tbl ac (a, b)).getD r []).length ≤ 40 := by have := ra.1; omega
              have hdl40 : ((tbl dn (a, b)).getD r []).length ≤ 40 := by have := rd.1; omega
              have hia : a < ac.length := by rw [← HN1.out]; omega
              have hid : a < dn.length := by rw [← HN4.out]; omega
              have hja : b < (ac[a]).length := by have h1 := HTB.out.ca a (by rw [← HM.out]; exact hlt); rw [getD_of_lt _ hia] at h1; rw [h1]; exact (mem_cells.1 HC.out).2
              have hjd : b < (dn[a]).length := by have h1 := HTB.out.cd a (by rw [← HM.out]; exact hlt); rw [getD_of_lt _ hid] at h1; rw [h1]; exact (mem_cells.1 HC.out).2
              have hdxz := (HNX.out wz HBwz.out).1.dx
              obtain ⟨ba, oa, ca, b2, o2, k2, ut, hva, hA1, hA2, hTl⟩ := l4_at hdxz.across hia hja
              obtain ⟨be, oe, ce, b5, o5, k5, us, hvd, hE1, hE2, hSl⟩ := l4_at hdxz.down hid hjd
              have hTt : (ac[a])[b] = tbl ac (a, b) := by unfold tbl; dsimp only; rw [getD_of_lt _ hia, getD_of_lt _ hja]
              have hTs : (dn[a])[b] = tbl dn (a, b) := by unfold tbl; dsimp only; rw [getD_of_lt _ hid, getD_of_lt _ hjd]
              rw [hTt] at hTl
              rw [hTs] at hSl
              have hra : r < (tbl ac (a, b)).length := by rw [la]; exact hrd
              have hrd' : r < (tbl dn (a, b)).length := by rw [ld]; exact hrd
              obtain ⟨b3, o3, k3, ua, rfl, hA3, hUA⟩ := row_at hTl hra
              obtain ⟨b6, o6, k6, ud, rfl, hE3, hUD⟩ := row_at hSl hrd'
              have hga : (tbl ac (a, b)).getD r [] = (tbl ac (a, b))[r] := getD_of_lt _ hra
              have hgd : (tbl dn (a, b)).getD r [] = (tbl dn (a, b))[r] := getD_of_lt _ hrd'
              rw [← hga] at hUA
              rw [← hgd] at hUD
              injection hva with e1 e2 e3
              injection hvd with e4 e5 e6
              have e1' : aa = some ⟨ba, oa, none⟩ := e1
              have e4' : ae = some ⟨be, oe, none⟩ := e4
              clear e1 e2 e3 e4 e5 e6
              obtain ⟨n2, hn2⟩ : ∃ n, n = (ac[a]).length := ⟨_, rfl⟩
              obtain ⟨n5, hn5⟩ : ∃ n, n = (dn[a]).length := ⟨_, rfl⟩
              obtain ⟨n3, hn3⟩ : ∃ n, n = (tbl ac (a, b)).length := ⟨_, rfl⟩
              obtain ⟨n6, hn6⟩ : ∃ n, n = (tbl dn (a, b)).length := ⟨_, rfl⟩
              rw [← hn2] at hA1
              rw [← hn5] at hE1
              rw [← hn3] at hA2
              rw [← hn6] at hE2
              have hja2 : b < n2 := by rw [hn2]; exact hja
              have hjd2 : b < n5 := by rw [hn5]; exact hjd
              have hra2 : r < n3 := by rw [hn3]; exact hra
              have hrd2 : r < n6 := by rw [hn6]; exact hrd'
              have hi1 : a < n1 := by omega
              have hi4 : a < n4 := by omega
              obtain ⟨aa1, ka1, hua'⟩ := Sl.shape hUA
              obtain ⟨ad1, kd1, hud'⟩ := Sl.shape hUD
              obtain ⟨na, hna⟩ : ∃ n, n = ((tbl ac (a, b)).getD r []).length := ⟨_, rfl⟩
              obtain ⟨nd, hnd⟩ : ∃ n, n = ((tbl dn (a, b)).getD r []).length := ⟨_, rfl⟩
              rw [← hna] at hua'
              rw [← hnd] at hud'
              subst hua' hud'
              have HA1 := Lib.hid hA1
              have HA2 := Lib.hid hA2
              have HA3 := Lib.hid hA3
              have HE1 := Lib.hid hE1
              have HE2 := Lib.hid hE2
              have HE3 := Lib.hid hE3
              have HUA := Lib.hid hUA
              have HUD := Lib.hid hUD
              have HE1' := Lib.hid e1'
              have HE4' := Lib.hid e4'
              have HAL := Lib.hid hal40
              have HDL := Lib.hid hdl40
              have HRD := Lib.hid hrd
              have wi : IntKind.i64.wrap ((a : Int) - 1) = (a : Int) - 1 := IntWalk.i64_in _ (by omega)
              have wj : IntKind.i64.wrap ((b : Int) - 1) = (b : Int) - 1 := IntWalk.i64_in _ (by omega)
              have hbz := HBwz.out
              have hzz := hbz.size
              clear hA1 hA2 hA3 hE1 hE2 hE3 hUA hUD hga hgd hTt hTs hTl hSl hn2 hn3 hn5 hn6 hna hnd e1' e4' hal40 hdl40 hcd hb1 hb2 ra rd hra hrd' hja hjd hia hid la ld hdxz
              go_upto_region 11 with fail
              refine wp_region_held (S := fun W => Below wz.heap.size wz W) (by kernel_rfl) ?_
              have S0 : Below wz.heap.size wz wz.drew := (Below.refl _ _).drew
              change wpAnyH _ _ _ _ _ _ _ _ wz.drew
              obtain ⟨wd, hwd⟩ : ∃ wd, wd = wz.drew := ⟨_, rfl⟩
              rw [← hwd] at S0 ⊢
              clear hwd
              have HNZ : Hid (∀ W, Below wz.heap.size wz W → DBx w W w.heap.size p (.slice (some ⟨bb, o, none⟩) m cd) (.slice aa n1 ca') (.slice ae n4 ce') ds ac dn) := Lib.hid (fun W hb => (HNX.out W (HBwz.out.trans (hb.mono hzz))).1)
              refine held_take (i := 0) (v := .pointer (some ⟨w.heap.size, 2, none⟩)) (some 41) rfl rfl (by kernel_rfl) (by kernel_rfl) (by kernel_rfl) (fun _ _ _ h => h) (yieldsIf_run (by kernel_rfl) (fun W _ => by kernel_rfl)) S0 ?_
              refine held_take (i := 1) (v := .slice aa n1 ca') (some 42) rfl rfl (by kernel_rfl) (by kernel_rfl) (by kernel_rfl) (fun _ _ _ h => h) (yieldsIf_cell (by kernel_rfl) rfl (by kernel_rfl) (fun W h => hload4 W (HNZ.out W h).c2)) S0 ?_
              refine held_take (i := 2) (v := .int .i64 (a : Int)) (some 43) rfl rfl (by kernel_rfl) (by kernel_rfl) (by kernel_rfl) (fun _ _ _ h => h) (yieldsIf_move (by kernel_rfl) rfl (by kernel_rfl)) S0 ?_
              refine held_take (i := 3) (v := .pointer (some ⟨ba, oa + a, none⟩)) (some 44) rfl rfl (by kernel_rfl) (by kernel_rfl) (by kernel_rfl) (fun _ _ _ h => h) (yieldsIf_index (by kernel_rfl) rfl (by kernel_rfl) (by kernel_rfl) (hidx4 (cap := ca') HE1'.out hi1)) S0 ?_
              refine held_take (i := 4) (v := .slice (some ⟨b2, o2, none⟩) n2 k2) (some 45) rfl rfl (by kernel_rfl) (by kernel_rfl) (by kernel_rfl) (fun _ _ _ h => h) (yieldsIf_cell (by kernel_rfl) rfl (by kernel_rfl) (fun W h => hload3s W (later h (Nat.le_refl _) HA1.out))) S0 ?_
              refine held_take (i := 5) (v := .int .i64 (b : Int)) (some 46) rfl rfl (by kernel_rfl) (by kernel_rfl) (by kernel_rfl) (fun _ _ _ h => h) (yieldsIf_move (by kernel_rfl) rfl (by kernel_rfl)) S0 ?_
              refine held_take (i := 6) (v := .pointer (some ⟨b2, o2 + b, none⟩)) (some 47) rfl rfl (by kernel_rfl) (by kernel_rfl) (by kernel_rfl) (fun _ _ _ h => h) (yieldsIf_index (by kernel_rfl) rfl (by kernel_rfl) (by kernel_rfl) (hidx3 b2 o2 k2 hja2)) S0 ?_
              refine held_take (i := 7) (v := .slice (some ⟨b3, o3, none⟩) n3 k3) (some 48) rfl rfl (by kernel_rfl) (by kernel_rfl) (by kernel_rfl) (fun _ _ _ h => h) (yieldsIf_cell (by kernel_rfl) rfl (by kernel_rfl) (fun W h => hload2s W (later h (Nat.le_refl _) HA2.out))) S0 ?_
              refine held_take (i := 8) (v := .int .i64 (r : Int)) (some 49) rfl rfl (by kernel_rfl) (by kernel_rfl) (by kernel_rfl) (fun _ _ _ h => h) (yieldsIf_move (by kernel_rfl) rfl (by kernel_rfl)) S0 ?_
              refine held_take (i := 9) (v := .pointer (some ⟨b3, o3 + r, none⟩)) (some 50) rfl rfl (by kernel_rfl) (by kernel_rfl) (by kernel_rfl) (fun _ _ _ h => h) (yieldsIf_index (by kernel_rfl) rfl (by kernel_rfl) (by kernel_rfl) (hidxS b3 o3 k3 hra2)) S0 ?_
              refine held_take (i := 10) (v := .slice aa1 na ka1) (some 51) rfl rfl (by kernel_rfl) (by kernel_rfl) (by kernel_rfl) (fun _ _ _ h => h) (yieldsIf_cell (by kernel_rfl) rfl (by kernel_rfl) (fun W h => hloadD W (later h (Nat.le_refl _) HA3.out))) S0 ?_
              refine held_take (i := 11) (v := .pointer (some ⟨w.heap.size, 3, none⟩)) (some 52) rfl rfl (by kernel_rfl) (by kernel_rfl) (by kernel_rfl) (fun _ _ _ h => h) (yieldsIf_run (by kernel_rfl) (fun W _ => by kernel_rfl)) S0 ?_
              refine held_take (i := 12) (v := .slice ae n4 ce') (some 53) rfl rfl (by kernel_rfl) (by kernel_rfl) (by kernel_rfl) (fun _ _ _ h => h) (yieldsIf_cell (by kernel_rfl) rfl (by kernel_rfl) (fun W h => hload4 W (HNZ.out W h).c3)) S0 ?_
              refine held_take (i := 13) (v := .int .i64 (a : Int)) (some 54) rfl rfl (by kernel_rfl) (by kernel_rfl) (by kernel_rfl) (fun _ _ _ h => h) (yieldsIf_move (by kernel_rfl) rfl (by kernel_rfl)) S0 ?_
              refine held_take (i := 14) (v := .pointer (some ⟨be, oe + a, none⟩)) (some 55) rfl rfl (by kernel_rfl) (by kernel_rfl) (by kernel_rfl) (fun _ _ _ h => h) (yieldsIf_index (by kernel_rfl) rfl (by kernel_rfl) (by kernel_rfl) (hidx4 (cap := ce') HE4'.out hi4)) S0 ?_
              refine held_take (i := 15) (v := .slice (some ⟨b5, o5, none⟩) n5 k5) (some 56) rfl rfl (by kernel_rfl) (by kernel_rfl) (by kernel_rfl) (fun _ _ _ h => h) (yieldsIf_cell (by kernel_rfl) rfl (by kernel_rfl) (fun W h => hload3s W (later h (Nat.le_refl _) HE1.out))) S0 ?_
              refine held_take (i := 16) (v := .int .i64 (b : Int)) (some 57) rfl rfl (by kernel_rfl) (by kernel_rfl) (by kernel_rfl) (fun _ _ _ h => h) (yieldsIf_move (by kernel_rfl) rfl (by kernel_rfl)) S0 ?_
              refine held_take (i := 17) (v := .pointer (some ⟨b5, o5 + b, none⟩)) (some 58) rfl rfl (by kernel_rfl) (by kernel_rfl) (by kernel_rfl) (fun _ _ _ h => h) (yieldsIf_index (by kernel_rfl) rfl (by kernel_rfl) (by kernel_rfl) (hidx3 b5 o5 k5 hjd2)) S0 ?_
              refine held_take (i := 18) (v := .slice (some ⟨b6, o6, none⟩) n6 k6) (some 59) rfl rfl (by kernel_rfl) (by kernel_rfl) (by kernel_rfl) (fun _ _ _ h => h) (yieldsIf_cell (by kernel_rfl) rfl (by kernel_rfl) (fun W h => hload2s W (later h (Nat.le_refl _) HE2.out))) S0 ?_
              refine held_take (i := 19) (v := .int .i64 (r : Int)) (some 60) rfl rfl (by kernel_rfl) (by kernel_rfl) (by kernel_rfl) (fun _ _ _ h => h) (yieldsIf_move (by kernel_rfl) rfl (by kernel_rfl)) S0 ?_
              refine held_take (i := 20) (v := .pointer (some ⟨b6, o6 + r, none⟩)) (some 61) rfl rfl (by kernel_rfl) (by kernel_rfl) (by kernel_rfl) (fun _ _ _ h => h) (yieldsIf_index (by kernel_rfl) rfl (by kernel_rfl) (by kernel_rfl) (hidxS b6 o6 k6 hrd2)) S0 ?_
              refine held_take (i := 21) (v := .slice ad1 nd kd1) (some 62) rfl rfl (by kernel_rfl) (by kernel_rfl) (by kernel_rfl) (fun _ _ _ h => h) (yieldsIf_cell (by kernel_rfl) rfl (by kernel_rfl) (fun W h => hloadD W (later h (Nat.le_refl _) HE3.out))) S0 ?_
              refine held_take (i := 22) (v := .slice aa1 na ka1) (some 7) rfl rfl (by kernel_rfl) (by kernel_rfl) (by kernel_rfl) (fun _ _ _ h => h) (yieldsIf_assign (by kernel_rfl) rfl (by kernel_rfl)) S0 ?_
              refine held_take (i := 23) (v := .slice ad1 nd kd1) (some 8) rfl rfl (by kernel_rfl) (by kernel_rfl) (by kernel_rfl) (fun _ _ _ h => h) (yieldsIf_assign (by kernel_rfl) rfl (by kernel_rfl)) S0 ?_
              refine wpAnyH_done (by kernel_rfl) ?_ _
              simp only [Act.put, List.setIfInBounds_toArray, List.set_cons_zero, List.set_cons_succ]
              clear c0 c1 c2 c3 hu0 hui hue
              have HBD := Lib.hid S0
              have hsd := S0.size
              clear S0
              have HND : Hid (∀ W, Below wd.heap.size wd W → DBx w W w.heap.size p (.slice (some ⟨bb, o, none⟩) m cd) (.slice aa n1 ca') (.slice ae n4 ce') ds ac dn ∧ Below w1.heap.size w1 W) := Lib.hid (fun W hb => ⟨HNZ.out W (HBD.out.trans (hb.mono hsd)), (HBwz.out.trans ((HBD.out.trans (hb.mono hsd)).mono hzz))⟩)
              have HKA : Hid (∀ b', RowOk p (wid ds b' ((a : Int) - 1) b) (stp p ds ac dn ((a : Int) - 1) b ((tbl ac (a, b)).getD r []) b') ∧ wid ds b' ((a : Int) - 1) b ≤ 4 ∧ StOk p ds ac dn ((a : Int) - 1) b ((tbl ac (a, b)).getD r []) b') := Lib.hid (fun b' => ⟨stp_ok HP.out (st_left HP.out HOK.out HTB.out HC.out HRD.out b'), (wid_cast HOK.out b' _ _).2, st_left HP.out HOK.out HTB.out HC.out HRD.out b'⟩)
              have HKD : Hid (∀ b', RowOk p (wid ds b' a ((b : Int) - 1)) (stp p ds ac dn a ((b : Int) - 1) ((tbl dn (a, b)).getD r []) b') ∧ wid ds b' a ((b : Int) - 1) ≤ 4 ∧ StOk p ds ac dn a ((b : Int) - 1) ((tbl dn (a, b)).getD r []) b') := Lib.hid (fun b' => ⟨stp_ok HP.out (st_low HP.out HOK.out HTB.out HC.out HRD.out b'), (wid_cast HOK.out b' _ _).2, st_low HP.out HOK.out HTB.out HC.out HRD.out b'⟩)
              obtain ⟨zA, hzA⟩ : ∃ z, z = leadOf (stp p ds ac dn ((a : Int) - 1) b ((tbl ac (a, b)).getD r []) true) := ⟨_, rfl⟩
              have HLA : Hid (∀ W u, L1 0 W u (stp p ds ac dn ((a : Int) - 1) b ((tbl ac (a, b)).getD r []) true) → Calls Try.prog 143 #[u] W (QW (.int .i64 zA) W)) := Lib.hid (fun W u hu => by rw [hzA]; exact l01Lead_any u _ W hu (by have h1 := (HKA.out true).1.1; have h2 := (HKA.out true).2.1; omega))
              obtain ⟨zD, hzD⟩ : ∃ z, z = leadOf (stp p ds ac dn a ((b : Int) - 1) ((tbl dn (a, b)).getD r []) false) := ⟨_, rfl⟩
              have HLD : Hid (∀ W u, L1 0 W u (stp p ds ac dn a ((b : Int) - 1) ((tbl dn (a, b)).getD r []) false) → Calls Try.prog 143 #[u] W (QW (.int .i64 zD) W)) := Lib.hid (fun W u hu => by rw [hzD]; exact l01Lead_any u _ W hu (by have h1 := (HKD.out false).1.1; have h2 := (HKD.out false).2.1; omega))
              obtain ⟨zC, hzC⟩ : ∃ z, z = leadOf (toL (wid ds false ((a : Int) - 1) b) (Lin.add p (ofL (stp p ds ac dn ((a : Int) - 1) b ((tbl ac (a, b)).getD r []) false)) (-(-1)) (ofL (stp p ds ac dn a ((b : Int) - 1) ((tbl dn (a, b)).getD r []) true)))) := ⟨_, rfl⟩
              have HLC : Hid (∀ W u, L1 0 W u (toL (wid ds false ((a : Int) - 1) b) (Lin.add p (ofL (stp p ds ac dn ((a : Int) - 1) b ((tbl ac (a, b)).getD r []) false)) (-(-1)) (ofL (stp p ds ac dn a ((b : Int) - 1) ((tbl dn (a, b)).getD r []) true)))) → Calls Try.prog 143 #[u] W (QW (.int .i64 zC) W)) := Lib.hid (fun W u hu => by rw [hzC]; exact l01Lead_any u _ W hu (by have h2 := (HKA.out false).2.1; simp [toL]; omega))
              have HZA := Lib.hid hzA
              have HZD := Lib.hid hzD
              have HZC := Lib.hid hzC
              clear hzA hzD hzC
              have HSA : Hid (∀ W, Below wd.heap.size wd W → ∀ b', Calls Try.prog 163 #[.agg #[.int .i64 p, .slice (some ⟨bb, o, none⟩) m cd, .slice aa n1 ca', .slice ae n4 ce'], .int .i64 ((a : Int) - 1), .int .i64 (b : Int), .slice aa1 na ka1, .bool b'] W fun e w' => ∃ u, e = .returned u ∧ L1 0 w' u (stp p ds ac dn ((a : Int) - 1) b ((tbl ac (a, b)).getD r []) b') ∧ Below W.heap.size W w') := Lib.hid (fun W hb b' => HSTEP.out W (HND.out W hb).2 b' _ _ _ _ (HUA.out.below (HBD.out.trans (hb.mono hsd))) HAL.out (by omega) (by omega) (HKA.out b').2.2)
              have HSD : Hid (∀ W, Below wd.heap.size wd W → ∀ b', Calls Try.prog 163 #[.agg #[.int .i64 p, .slice (some ⟨bb, o, none⟩) m cd, .slice aa n1 ca', .slice ae n4 ce'], .int .i64 (a : Int), .int .i64 ((b : Int) - 1), .slice ad1 nd kd1, .bool b'] W fun e w' => ∃ u, e = .returned u ∧ L1 0 w' u (stp p ds ac dn a ((b : Int) - 1) ((tbl dn (a, b)).getD r []) b') ∧ Below W.heap.size W w') := Lib.hid (fun W hb b' => HSTEP.out W (HND.out W hb).2 b' _ _ _ _ (HUD.out.below (HBD.out.trans (hb.mono hsd))) HDL.out (by omega) (by omega) (HKD.out b').2.2)
              have hnd0 := (HND.out wd (Below.refl _ _)).1
              have c0 := hnd0.c0
              have c1 := hnd0.c1
              have c2 := hnd0.c2
              have c3 := hnd0.c3
              clear hnd0
              go_wp2_with fail
              refine (HSA.out wd (Below.refl _ _) true).mono ?_
              rintro e W3 ⟨u3, rfl, hl3, hb3⟩
              obtain ⟨a3, k3', hu3⟩ := Sl.shape hl3
              obtain ⟨n7, hn7⟩ : ∃ n, n = (stp p ds ac dn ((a : Int) - 1) b ((tbl ac (a, b)).getD r []) true).length := ⟨_, rfl⟩
              rw [← hn7] at hu3
              subst hu3
              have HB3 := Lib.hid hb3
              have HL3 := Lib.hid hl3
              clear hn7 hb3 hl3 c0 c1 c2 c3
              have hnd0 := (HND.out W3 HB3.out).1
              have c0 := hnd0.c0
              have c1 := hnd0.c1
              have c2 := hnd0.c2
              have c3 := hnd0.c3
              clear hnd0
              go_wp2_with fail
              refine (HLA.out W3 _ HL3.out).mono ?_
              rintro e w' ⟨rfl, rfl⟩
              by_cases hA0 : ∀ x ∈ (stp p ds ac dn ((a : Int) - 1) b ((tbl ac (a, b)).getD r []) true), x = 0
              · have hlt0 : zA = -1 := by rw [HZA.out]; exact leadOf_null hA0
                subst hlt0
                have HA0 := Lib.hid hA0
                clear hA0
                go_wp2_with fail
                refine (HSD.out W3 HB3.out false).mono ?_
                rintro e W4 ⟨u4, rfl, hl4, hb4⟩
                obtain ⟨a4, k4', hu4⟩ := Sl.shape hl4
                obtain ⟨n8, hn8⟩ : ∃ n, n = (stp p ds ac dn a ((b : Int) - 1) ((tbl dn (a, b)).getD r []) false).length := ⟨_, rfl⟩
                rw [← hn8] at hu4
                subst hu4
                have HB4 := Lib.hid (HB3.out.trans (hb4.mono HB3.out.size))
                have HL4 := Lib.hid hl4
                clear hn8 hb4 hl4 c0 c1 c2 c3
                have hnd0 := (HND.out W4 HB4.out).1
                have c0 := hnd0.c0
                have c1 := hnd0.c1
                have c2 := hnd0.c2
                have c3 := hnd0.c3
                clear hnd0
                go_wp2_with fail
                refine (HLD.out W4 _ HL4.out).mono ?_
                rintro e w' ⟨rfl, rfl⟩
                by_cases hD0 : ∀ x ∈ (stp p ds ac dn a ((b : Int) - 1) ((tbl dn (a, b)).getD r []) false), x = 0
                · have hlt0 : zD = -1 := by rw [HZD.out]; exact leadOf_null hD0
                  subst hlt0
                  have HD0 := Lib.hid hD0
                  clear hD0
                  go_upto_region 14 with fail
                  refine wp_region_held (S := fun W => Below W4.heap.size W4 W) (by kernel_rfl) ?_
                  have S0 : Below W4.heap.size W4 W4.drew := (Below.refl _ _).drew
                  change wpAnyH _ _ _ _ _ _ _ _ W4.drew
                  obtain ⟨we, hwe⟩ : ∃ we, we = W4.drew := ⟨_, rfl⟩
                  rw [← hwe] at S0 ⊢
                  clear hwe c0 c1 c2 c3
                  have hs4 := HB4.out.size
                  have HN4w : Hid (∀ W, Below W4.heap.size W4 W → Below wd.heap.size wd W) := Lib.hid (fun W hb => HB4.out.trans (hb.mono hs4))
                  refine held_take (i := 0) (v := .agg #[.int .i64 p, .slice (some ⟨bb, o, none⟩) m cd, .slice aa n1 ca', .slice ae n4 ce']) (some 81) rfl rfl (by kernel_rfl) (by kernel_rfl) (by kernel_rfl) (fun _ _ _ h => h) (yieldsIf_cell (by kernel_rfl) rfl (by kernel_rfl) (fun W h => hloadDb W (HND.out W (HN4w.out W h)).1)) S0 ?_
                  refine held_take (i := 1) (v := .int .i64 (a : Int)) (some 82) rfl rfl (by kernel_rfl) (by kernel_rfl) (by kernel_rfl) (fun _ _ _ h => h) (yieldsIf_move (by kernel_rfl) rfl (by kernel_rfl)) S0 ?_
                  refine held_take (i := 2) (v := .int .i64 ((a : Int) - 1)) (some 83) rfl rfl (by kernel_rfl) (by kernel_rfl) (by kernel_rfl) (fun _ _ _ h => h) (yieldsIf_bin (by kernel_rfl) rfl (by kernel_rfl) (by kernel_rfl) (fun _ => rfl) (hsubA wi)) S0 ?_
                  refine held_take (i := 3) (v := .int .i64 (b : Int)) (some 84) rfl rfl (by kernel_rfl) (by kernel_rfl) (by kernel_rfl) (fun _ _ _ h => h) (yieldsIf_move (by kernel_rfl) rfl (by kernel_rfl)) S0 ?_
                  refine held_take (i := 4) (v := .slice aa1 na ka1) (some 85) rfl rfl (by kernel_rfl) (by kernel_rfl) (by kernel_rfl) (fun _ _ _ h => h) (yieldsIf_move (by kernel_rfl) rfl (by kernel_rfl)) S0 ?_
                  refine held_take (i := 6) (v := .agg #[.int .i64 p, .slice (some ⟨bb, o, none⟩) m cd, .slice aa n1 ca', .slice ae n4 ce']) (some 87) rfl rfl (by kernel_rfl) (by kernel_rfl) (by kernel_rfl) (fun _ _ _ h => h) (yieldsIf_cell (by kernel_rfl) rfl (by kernel_rfl) (fun W h => hloadDb W (HND.out W (HN4w.out W h)).1)) S0 ?_
                  refine held_take (i := 7) (v := .int .i64 (a : Int)) (some 88) rfl rfl (by kernel_rfl) (by kernel_rfl) (by kernel_rfl) (fun _ _ _ h => h) (yieldsIf_move (by kernel_rfl) rfl (by kernel_rfl)) S0 ?_
                  refine held_take (i := 8) (v := .int .i64 (b : Int)) (some 89) rfl rfl (by kernel_rfl) (by kernel_rfl) (by kernel_rfl) (fun _ _ _ h => h) (yieldsIf_move (by kernel_rfl) rfl (by kernel_rfl)) S0 ?_
                  refine held_take (i := 9) (v := .int .i64 ((b : Int) - 1)) (some 90) rfl rfl (by kernel_rfl) (by kernel_rfl) (by kernel_rfl) (fun _ _ _ h => h) (yieldsIf_bin (by kernel_rfl) rfl (by kernel_rfl) (by kernel_rfl) (fun _ => rfl) (hsubA wj)) S0 ?_
                  refine held_take (i := 10) (v := .slice ad1 nd kd1) (some 91) rfl rfl (by kernel_rfl) (by kernel_rfl) (by kernel_rfl) (fun _ _ _ h => h) (yieldsIf_move (by kernel_rfl) rfl (by kernel_rfl)) S0 ?_
                  refine held_enter (i := 5) (some 86) (f := 163) (args := #[.agg #[.int .i64 p, .slice (some ⟨bb, o, none⟩) m cd, .slice aa n1 ca', .slice ae n4 ce'], .int .i64 ((a : Int) - 1), .int .i64 (b : Int), .slice aa1 na ka1, .bool false]) (by kernel_rfl) rfl rfl rfl (by kernel_rfl) (HSA.out _ (HN4w.out _ S0) false) ?_ (fun c w' h => by obtain ⟨_, h, _⟩ := h; cases h) (fun w' h => by obtain ⟨_, h, _⟩ := h; cases h)
                  rintro e5 W5 ⟨u5, he5, hl5, hb5⟩
                  injection he5 with he5
                  subst he5
                  have S1 : Below W4.heap.size W4 W5 := S0.trans (hb5.mono S0.size)
                  refine ⟨S1, ?_⟩
                  refine held_enter (i := 11) (some 92) (f := 163) (args := #[.agg #[.int .i64 p, .slice (some ⟨bb, o, none⟩) m cd, .slice aa n1 ca', .slice ae n4 ce'], .int .i64 (a : Int), .int .i64 ((b : Int) - 1), .slice ad1 nd kd1, .bool true]) (by kernel_rfl) rfl rfl rfl (by kernel_rfl) (HSD.out _ (HN4w.out _ S1) true) ?_ (fun c w' h => by obtain ⟨_, h, _⟩ := h; cases h) (fun w' h => by obtain ⟨_, h, _⟩ := h; cases h)
                  rintro e6 W6 ⟨u6, he6, hl6, hb6⟩
                  injection he6 with he6
                  subst he6
                  have S2 : Below W4.heap.size W4 W6 := S1.trans (hb6.mono S1.size)
                  refine ⟨S2, ?_⟩
                  obtain ⟨a5, k5', hu5⟩ := Sl.shape hl5
                  obtain ⟨n9, hn9⟩ : ∃ n, n = (stp p ds ac dn ((a : Int) - 1) b ((tbl ac (a, b)).getD r []) false).length := ⟨_, rfl⟩
                  rw [← hn9] at hu5
                  subst hu5
                  obtain ⟨a6, k6', hu6⟩ := Sl.shape hl6
                  obtain ⟨n10, hn10⟩ : ∃ n, n = (stp p ds ac dn a ((b : Int) - 1) ((tbl dn (a, b)).getD r []) true).length := ⟨_, rfl⟩
                  rw [← hn10] at hu6
                  subst hu6
                  refine held_take (i := 12) (v := .slice a5 n9 k5') (some 9) rfl rfl (by kernel_rfl) (by kernel_rfl) (by kernel_rfl) (fun _ _ _ h => h) (yieldsIf_assign (by kernel_rfl) rfl (by kernel_rfl)) S2 ?_
                  refine held_take (i := 13) (v := .slice a6 n10 k6') (some 10) rfl rfl (by kernel_rfl) (by kernel_rfl) (by kernel_rfl) (fun _ _ _ h => h) (yieldsIf_assign (by kernel_rfl) rfl (by kernel_rfl)) S2 ?_
                  refine wpAnyH_done (by kernel_rfl) ?_ _
                  simp only [Act.put, List.setIfInBounds_toArray, List.set_cons_zero, List.set_cons_succ]
                  have HB6 := Lib.hid (HN4w.out _ S2)
                  have hs5 : wd.heap.size ≤ W6.heap.size := HB6.out.size
                  have HLESS : Hid (Calls Try.prog 164 #[.int .i64 p, .slice a5 n9 k5', .slice a6 n10 k6', .int .i64 (-1)] W6 (GbR (toL (wid ds false ((a : Int) - 1) b) (Lin.add p (ofL (stp p ds ac dn ((a : Int) - 1) b ((tbl ac (a, b)).getD r []) false)) (-(-1)) (ofL (stp p ds ac dn a ((b : Int) - 1) ((tbl dn (a, b)).getD r []) true)))) W6)) := Lib.hid (by
                    have k1 := HKA.out false
                    have k2 := HKD.out true
                    have hwe : wid ds true a ((b : Int) - 1) = (wid ds false ((a : Int) - 1) b) := by unfold wid; simp
                    rw [hwe] at k2
                    refine l01Less1_any p (-1) _ _ _ _ _ W6 HP.out ?_ ?_ (ofL_md (by have := HP.out.lo; omega) k1.1) (ofL_md (by have := HP.out.lo; omega) k2.1) (by have := HP.out.lo; omega) (by have := k1.2.1; omega)
                    · rw [toL_ofL (by have := k1.1.1; omega)]; exact hl5.below hb6
                    · rw [toL_ofL (by have := k2.1.1; omega)]; exact hl6)
                  clear hl5 hl6 hb5 hb6 S0 S1 S2 hn9 hn10
                  have hnd0 := (HND.out W6 HB6.out).1
                  have c0 := hnd0.c0
                  clear hnd0
                  go_wp2_with fail
                  refine HLESS.out.mono ?_
                  rintro e W7 ⟨u7, rfl, hg7, hb7⟩
                  obtain ⟨a7, k7', hu7⟩ := Sl.shape hg7.l1
                  obtain ⟨n11, hn11⟩ : ∃ n, n = (toL (wid ds false ((a : Int) - 1) b) (Lin.add p (ofL (stp p ds ac dn ((a : Int) - 1) b ((tbl ac (a, b)).getD r []) false)) (-(-1)) (ofL (stp p ds ac dn a ((b : Int) - 1) ((tbl dn (a, b)).getD r []) true)))).length := ⟨_, rfl⟩
                  rw [← hn11] at hu7
                  subst hu7
                  have HL7 := Lib.hid hg7.l1
                  have HB7 := Lib.hid (HB6.out.trans (hb7.mono hs5))
                  clear hg7 hb7 hn11 c0 HLESS
                  go_wp2_with fail
                  refine (HLC.out W7 _ HL7.out).mono ?_
                  rintro e w' ⟨rfl, rfl⟩
                  by_cases hC0 : ∀ x ∈ (toL (wid ds false ((a : Int) - 1) b) (Lin.add p (ofL (stp p ds ac dn ((a : Int) - 1) b ((tbl ac (a, b)).getD r []) false)) (-(-1)) (ofL (stp p ds ac dn a ((b : Int) - 1) ((tbl dn (a, b)).getD r []) true)))), x = 0
                  · have hlt0 : zC = -1 := by rw [HZC.out]; exact leadOf_null hC0
                    subst hlt0
                    have HNEW : Hid (∀ r', r' < r + 1 → SqRow p ds ac dn (a, b) r') := Lib.hid (fun r' hr' => by
                      by_cases e : r' = r
                      · subst e; exact ⟨HA0.out, HD0.out, hC0⟩
                      · exact HRC.out r' (by omega))
                    clear hC0
                    have HBF := Lib.hid (HND.out W7 HB7.out).2
                    go_wp2
                    go_roundw
                    case rel => exact ⟨r + 1, by omega, by go_num, HBF, HNEW⟩
                    case measure => simp [intOf]; omega
                  · have hge : 0 ≤ zC := by rw [HZC.out]; exact leadOf_nn hC0
                    have HNO : Hid (¬ PP) := Lib.hid (fun h => hC0 (HPI.out.1 h _ HC.out r HRD.out).b)
                    clear hC0
                    go_wp2
                    go_ret
                    exact bb_false (HX1.out.below.trans (((HND.out W7 HB7.out).2).mono HX1.out.below.size)) HNO.out
                · have hge : 0 ≤ zD := by rw [HZD.out]; exact leadOf_nn hD0
                  have HNO : Hid (¬ PP) := Lib.hid (fun h => hD0 (HPI.out.1 h _ HC.out r HRD.out).d)
                  clear hD0
                  go_wp2
                  go_ret
                  exact bb_false (HX1.out.below.trans (((HND.out W4 HB4.out).2).mono HX1.out.below.size)) HNO.out
              · have hge : 0 ≤ zA := by rw [HZA.out]; exact leadOf_nn hA0
                have HNO : Hid (¬ PP) := Lib.hid (fun h => hA0 (HPI.out.1 h _ HC.out r HRD.out).a)
                clear hA0
                go_wp2
                go_ret
                exact bb_false (HX1.out.below.trans (((HND.out W3 HB3.out).2).mono HX1.out.below.size)) HNO.out
            · obtain rfl : r = d := by omega
              have HNEW : Hid (∀ b', b' < b + 1 → SqCell p ds ac dn (a, b')) := Lib.hid (fun b' hb' => by
                by_cases e : b' = b
                · subst e; intro r' hr'; exact HRC.out r' (by rw [HD.out]; exact hr')
                · exact HBC.out b' (by omega))
              go_wp2
              go_roundw
              case rel => exact ⟨b + 1, by omega, by go_num, HBwz, HNEW⟩
              case measure => simp [intOf]; omega
        · obtain rfl : b = q := by omega
          have HNEW : Hid (∀ c ∈ cellsTo ds ds.length, c.1 < a + 1 → SqCell p ds ac dn c) := Lib.hid (fun c hc hca => by
            by_cases e : c.1 = a
            · obtain ⟨c1', c2'⟩ := c
              dsimp only at e
              subst e
              refine HBC.out c2' ?_
              have h1 := mem_cells.1 hc
              dsimp only at h1
              rw [getD_of_lt _ h1.1, (HOK.out.col _ (List.getElem_mem h1.1)).1, ← HQ.out] at h1
              exact h1.2
            · exact HA.out c hc (by omega))
          go_wp2
          go_roundw
          case rel => exact ⟨a + 1, by omega, by go_num, HBwy, HNEW⟩
          case measure => simp [intOf]; omega
    · obtain rfl : a = m := by omega
      have HYES : Hid PP := Lib.hid (HPI.out.2 (fun c hc => HA.out c hc (by rw [HM.out]; exact (mem_cells.1 hc).1)))
      go_wp2
      go_ret
      exact bb_true (HX1.out.below.trans (HBwx.out.mono HX1.out.below.size)) HYES.out
end Go.Proofs.Ytbadjfnelpfhcaa


namespace Go.Proofs.Ytbadjfnelpfhcaa
open Go.RowKit

set_option maxRecDepth 100000 in
set_option maxHeartbeats 12800000 in
theorem l03Is_any (p : Int) (dv av vv : Value) (ds : List (List Int)) (ac dn : List (List (List (List Int)))) (w : World) (h : Dx 0 w dv av vv ds ac dn) (hbd : Bd2 1048576 ds) (hba : Bd4 1048576 ac) (hbv : Bd4 1048576 dn) :
    Calls Try.prog 57 #[.agg #[.int .i64 p, dv, av, vv]] w (BB (IsDb p ds ac dn) w) := by
  obtain ⟨PP, hPP⟩ : ∃ P : Prop, P = (IsDb p ds ac dn) := ⟨_, rfl⟩
  rw [← hPP]
  have HPI : Hid (PP ↔ (IsDb p ds ac dn)) := Lib.hid (by rw [hPP])
  clear hPP
  have HX := Lib.hid h
  have HBD := Lib.hid hbd
  have HBA := Lib.hid hba
  have HBV := Lib.hid hbv
  have hm8 := hbd.1
  have hn18 := hba.1
  have hn48 := hbv.1
  obtain ⟨ad, cd, rfl⟩ := Sl.shape h.dims
  obtain ⟨aa, ca', rfl⟩ := Sl.shape h.across
  obtain ⟨ae, ce', rfl⟩ := Sl.shape h.down
  clear h hbd hba hbv
  obtain ⟨m, hm⟩ : ∃ m, m = ds.length := ⟨_, rfl⟩
  obtain ⟨n1, hn1⟩ : ∃ n, n = ac.length := ⟨_, rfl⟩
  obtain ⟨n4, hn4⟩ : ∃ n, n = dn.length := ⟨_, rfl⟩
  rw [← hm, ← hn1, ← hn4] at HX ⊢
  rw [← hm] at hm8
  rw [← hn1] at hn18
  rw [← hn4] at hn48
  have HN1 := Lib.hid hn1
  have HN4 := Lib.hid hn4
  have HM := Lib.hid hm
  clear hn1 hn4 hm
  have hx0 := DBx.start (p := p) 28 HX.out
  obtain ⟨w1, hw1⟩ : ∃ w1, w1 = w.alloc (.cells #[.int .i64 p, .slice ad m cd, .slice aa n1 ca', .slice ae n4 ce'] 28) := ⟨_, rfl⟩
  rw [← hw1] at hx0
  have HX1 := Lib.hid hx0
  have c0 := hx0.c0
  have c1 := hx0.c1
  have c2 := hx0.c2
  have c3 := hx0.c3
  clear hx0
  by_cases hP : IsP p
  rotate_left
  · have HNO : Hid (¬ PP) := Lib.hid (fun h => hP (HPI.out.1 h).prime)
    go_enter Try.func57, Try.ntmps57
    go_wp2_with fail
    rw [← hw1]
    clear hw1
    refine (spprime_no hP _).mono ?_
    rintro e w' ⟨rfl, rfl⟩
    go_wp2
    go_ret
    exact bb_false HX1.out.below HNO.out
  have HP := Lib.hid hP
  by_cases h1 : (m : Int) < 1
  · have HNO : Hid (¬ PP) := Lib.hid (fun h => by have := (HPI.out.1 h).cel.len0; have := HM.out; omega)
    go_enter Try.func57, Try.ntmps57
    go_wp2_with fail
    rw [← hw1]
    clear hw1
    refine (spprime_yes hP _).mono ?_
    rintro e w' ⟨rfl, rfl⟩
    go_wp2
    go_ret
    exact bb_false HX1.out.below HNO.out
  by_cases h2 : 4 < (m : Int)
  · have HNO : Hid (¬ PP) := Lib.hid (fun h => by have := (HPI.out.1 h).cel.len1; have := HM.out; omega)
    go_enter Try.func57, Try.ntmps57
    go_wp2_with fail
    rw [← hw1]
    clear hw1
    refine (spprime_yes hP _).mono ?_
    rintro e w' ⟨rfl, rfl⟩
    go_wp2
    go_ret
    exact bb_false HX1.out.below HNO.out
  by_cases h3 : n1 = m
  rotate_left
  · have HNO : Hid (¬ PP) := Lib.hid (fun h => h3 (by rw [HN1.out, HM.out]; exact (HPI.out.1 h).tbs.la))
    have hq1 : ((n1 : Int) != (m : Int)) = true := by have hz : (n1 : Int) ≠ (m : Int) := (by omega); simp [hz]
    go_enter Try.func57, Try.ntmps57
    go_wp2_with fail
    rw [← hw1]
    clear hw1
    refine (spprime_yes hP _).mono ?_
    rintro e w' ⟨rfl, rfl⟩
    go_wp2
    go_ret
    exact bb_false HX1.out.below HNO.out
  by_cases h4 : n4 = m
  rotate_left
  · have HNO : Hid (¬ PP) := Lib.hid (fun h => h4 (by rw [HN4.out, HM.out]; exact (HPI.out.1 h).tbs.ld))
    subst h3
    have hq1 : ((n1 : Int) != (n1 : Int)) = false := by simp
    have hq2 : ((n4 : Int) != (n1 : Int)) = true := by have hz : (n4 : Int) ≠ (n1 : Int) := (by omega); simp [hz]
    go_enter Try.func57, Try.ntmps57
    go_wp2_with fail
    rw [← hw1]
    clear hw1
    refine (spprime_yes hP _).mono ?_
    rintro e w' ⟨rfl, rfl⟩
    go_wp2
    go_ret
    exact bb_false HX1.out.below HNO.out
  subst h3
  subst h4
  have hm1 : 1 ≤ n4 := by omega
  have hm4 : n4 ≤ 4 := by omega
  rcases HX.out.dims with ⟨hx, _⟩ | ⟨bb, o, cd', hv, _, hpos, hcl⟩
  · have h0 := HM.out; rw [hx] at h0; simp at h0; omega
  injection hv with e1 e2 e3
  subst e1 e3
  clear e2
  have HCL := Lib.hid hcl
  obtain ⟨u0, hu0, hr0⟩ := hcl 0 hpos
  rw [Nat.add_zero] at hu0
  obtain ⟨a0, z0, rfl⟩ := Sl.shape hr0
  rw [← getD_of_lt [] hpos] at hu0
  clear hr0
  obtain ⟨q, hq⟩ : ∃ q, q = (ds.getD 0 []).length := ⟨_, rfl⟩
  have hq8 : q ≤ 1048576 := by rw [hq, getD_of_lt _ hpos]; exact HBD.out.2 _ (List.getElem_mem hpos)
  rw [← hq] at hu0
  have HQ := Lib.hid hq
  clear hq hpos hcl
  have hu1 := later (B := w.heap.size) HX1.out.below (Nat.le_refl _) hu0
  clear hu0
  have HU1 := Lib.hid hu1
  have hq0 : ((n4 : Int) != (n4 : Int)) = false := by simp
  by_cases h5 : (q : Int) < 1
  · have HNO : Hid (¬ PP) := Lib.hid (fun h => by have := (HPI.out.1 h).cel.h0; have := HQ.out; omega)
    go_enter Try.func57, Try.ntmps57
    go_wp2_with fail
    rw [← hw1]
    clear hw1
    refine (spprime_yes hP _).mono ?_
    rintro e w' ⟨rfl, rfl⟩
    go_wp2
    go_ret
    exact bb_false HX1.out.below HNO.out
  by_cases h6 : 4 < (q : Int)
  · have HNO : Hid (¬ PP) := Lib.hid (fun h => by have := (HPI.out.1 h).cel.h1; have := HQ.out; omega)
    go_enter Try.func57, Try.ntmps57
    go_wp2_with fail
    rw [← hw1]
    clear hw1
    refine (spprime_yes hP _).mono ?_
    rintro e w' ⟨rfl, rfl⟩
    go_wp2
    go_ret
    exact bb_false HX1.out.below HNO.out
  go_enter Try.func57, Try.ntmps57
  go_wp2_with fail
  rw [← hw1]
  clear hw1
  refine (spprime_yes hP _).mono ?_
  rintro e w' ⟨rfl, rfl⟩
  go_wp2
  clear hq0 h1 h2
  go_loopw [5, 6] (fun i _ wr => ∃ a : Nat, a ≤ n4 ∧ i = .int .i64 a ∧ w1 = wr ∧ Hid (∀ a', a' < a → (ds.getD a' []).length = q ∧ (ac.getD a' []).length = q ∧ (dn.getD a' []).length = q ∧ AllIn 0 4 (ds.getD a' []))) (fun i _ _ => n4 - (intOf i).toNat)
  case atStart => exact ⟨0, Nat.zero_le _, rfl, rfl, Lib.hid (fun _ h => absurd h (Nat.not_lt_zero _))⟩
  case round =>
    obtain ⟨a, ha, rfl, rfl, HA⟩ := hrel
    by_cases hlt : a < n4
    · have hlti : (a : Int) < (n4 : Int) := by omega
      have hai : (0 : Int) ≤ (a : Int) := by omega
      have hal : a < ds.length := by rw [← HM.out]; exact hlt
      have haa : a < ac.length := by rw [← HN1.out]; exact hlt
      have had : a < dn.length := by rw [← HN4.out]; exact hlt
      obtain ⟨ui, hui, hri⟩ := HCL.out a hal
      rw [← getD_of_lt [] hal] at hri
      obtain ⟨xi, yi, rfl⟩ := Sl.shape hri
      rcases HX1.out.dx.across with ⟨hx, _⟩ | ⟨ba, oa, ca2, hva, _, hpa, hca⟩
      · exact absurd (hx ▸ haa) (Nat.not_lt_zero _)
      injection hva with e1 e2 e3
      subst e1 e3
      clear e2
      rcases HX1.out.dx.down with ⟨hx, _⟩ | ⟨be, oe, ce2, hvd, _, hpd, hcd⟩
      · exact absurd (hx ▸ had) (Nat.not_lt_zero _)
      injection hvd with e1 e2 e3
      subst e1 e3
      clear e2
      obtain ⟨uj, huj, hrj⟩ := hca a haa
      obtain ⟨xj, yj, rfl⟩ := Sl.shape hrj
      obtain ⟨uk, huk, hrk⟩ := hcd a had
      obtain ⟨xk, yk, rfl⟩ := Sl.shape hrk
      have hui1 := later (B := w.heap.size) HX1.out.below (Nat.le_refl _) hui
      clear hui hpa hpd hca hcd hrj hrk
      obtain ⟨l1, hl1⟩ : ∃ l, l = (ds.getD a []).length := ⟨_, rfl⟩
      obtain ⟨l2, hl2⟩ : ∃ l, l = (ac[a]).length := ⟨_, rfl⟩
      obtain ⟨l3, hl3⟩ : ∃ l, l = (dn[a]).length := ⟨_, rfl⟩
      rw [← hl1] at hui1
      rw [← hl2] at huj
      rw [← hl3] at huk
      have HL1 : Hid (l1 = (ds.getD a []).length) := Lib.hid hl1
      have HL2 : Hid (l2 = (ac.getD a []).length) := Lib.hid (by rw [getD_of_lt _ haa]; exact hl2)
      have HL3 : Hid (l3 = (dn.getD a []).length) := Lib.hid (by rw [getD_of_lt _ had]; exact hl3)
      have HRI := Lib.hid hri
      have hl18 : l1 ≤ 1048576 := by rw [hl1, getD_of_lt _ hal]; exact HBD.out.2 _ (List.getElem_mem hal)
      clear hl1 hl2 hl3 hri
      by_cases k1 : l1 = q
      rotate_left
      · have HNO : Hid (¬ PP) := Lib.hid (fun h => k1 (by rw [HL1.out, HQ.out, getD_of_lt _ hal]; exact ((HPI.out.1 h).cel.col _ (List.getElem_mem hal)).1))
        clear hal haa had
        have hq1 : ((l1 : Int) != (q : Int)) = true := by have hz : (l1 : Int) ≠ (q : Int) := (by omega); simp [hz]
        go_wp2
        go_ret
        exact bb_false HX1.out.below HNO.out
      by_cases k2 : l2 = q
      rotate_left
      · have HNO : Hid (¬ PP) := Lib.hid (fun h => k2 (by rw [HL2.out, (HPI.out.1 h).tbs.ca a hal, getD_of_lt _ hal, ((HPI.out.1 h).cel.col _ (List.getElem_mem hal)).1]; exact HQ.out.symm))
        clear hal haa had
        subst k1
        have hq1 : ((l1 : Int) != (l1 : Int)) = false := by simp
        have hq2 : ((l2 : Int) != (l1 : Int)) = true := by have hz : (l2 : Int) ≠ (l1 : Int) := (by omega); simp [hz]
        go_wp2
        go_ret
        exact bb_false HX1.out.below HNO.out
      by_cases k3 : l3 = q
      rotate_left
      · have HNO : Hid (¬ PP) := Lib.hid (fun h => k3 (by rw [HL3.out, (HPI.out.1 h).tbs.cd a hal, getD_of_lt _ hal, ((HPI.out.1 h).cel.col _ (List.getElem_mem hal)).1]; exact HQ.out.symm))
        clear hal haa had
        subst k1
        subst k2
        have hq1 : ((l2 : Int) != (l2 : Int)) = false := by simp
        have hq2 : ((l3 : Int) != (l2 : Int)) = true := by have hz : (l3 : Int) ≠ (l2 : Int) := (by omega); simp [hz]
        go_wp2
        go_ret
        exact bb_false HX1.out.below HNO.out
      subst k1
      subst k2
      subst k3
      have hq1 : ((l3 : Int) != (l3 : Int)) = false := by simp
      have HAL := Lib.hid hal
      clear hal haa had
      go_wp2
      clear hq1
      go_loopw [6] (fun j wr => ∃ b : Nat, b ≤ l3 ∧ j = .int .i64 b ∧ w1 = wr ∧ Hid (∀ b', b' < b → 0 ≤ (ds.getD a []).getD b' 0 ∧ (ds.getD a []).getD b' 0 ≤ 4)) (fun j _ => l3 - (intOf j).toNat)
      case atStart => exact ⟨0, Nat.zero_le _, rfl, rfl, Lib.hid (fun _ h => absurd h (Nat.not_lt_zero _))⟩
      case round =>
        obtain ⟨b, hb, rfl, rfl, HB⟩ := hrel
        by_cases hltb : b < l3
        · have hltj : (b : Int) < (l3 : Int) := by omega
          have hbi : (0 : Int) ≤ (b : Int) := by omega
          have hbl : b < (ds.getD a []).length := by rw [← HL1.out]; exact hltb
          rcases HRI.out with ⟨hx, _⟩ | ⟨bi, oi, ci, hvi, _, hpi, hci⟩
          · rw [hx] at hbl; exact absurd hbl (Nat.not_lt_zero _)
          injection hvi with e1 e2 e3
          subst e1 e3
          clear e2
          obtain ⟨ue, hue, hre⟩ := hci b hbl
          obtain ⟨d, hd⟩ : ∃ d, d = (ds.getD a []).getD b 0 := ⟨_, rfl⟩
          have hre' : ue = .int .i64 d := by rw [hd, getD_of_lt _ hbl]; exact hre
          subst hre'
          have hue1 := later (B := w.heap.size) HX1.out.below (Nat.le_refl _) hue
          have HBL := Lib.hid hbl
          have HDD := Lib.hid hd
          clear hue hci hpi hre hd hbl
          by_cases k4 : 0 ≤ d ∧ d ≤ 4
          rotate_left
          · have HNO : Hid (¬ PP) := Lib.hid (fun h => k4 (by have h1 := ((HPI.out.1 h).cel.col (ds.getD a []) (by rw [getD_of_lt _ HAL.out]; exact List.getElem_mem HAL.out)).2 _ (List.getElem_mem HBL.out); rw [HDD.out, getD_of_lt _ HBL.out]; exact h1))
            go_wp2_with fail
            refine (spin_no k4 _).mono ?_
            rintro e w' ⟨rfl, rfl⟩
            go_wp2
            go_ret
            exact bb_false HX1.out.below HNO.out
          have HK4 := Lib.hid k4
          go_wp2_with fail
          refine (spin_yes k4 _).mono ?_
          rintro e w' ⟨rfl, rfl⟩
          clear k4
          have HNEW : Hid (∀ b', b' < b + 1 → 0 ≤ (ds.getD a []).getD b' 0 ∧ (ds.getD a []).getD b' 0 ≤ 4) := Lib.hid (fun b' hb' => by
            by_cases e : b' = b
            · subst e; rw [← HDD.out]; exact HK4.out
            · exact HB.out b' (by omega))
          go_wp2
          go_roundw
          case rel => exact ⟨b + 1, by omega, by go_num, (by first | trivial | rfl), HNEW⟩
          case measure => simp [intOf]; omega
        · obtain rfl : b = l3 := by omega
          have HNEW : Hid (∀ a', a' < a + 1 → (ds.getD a' []).length = b ∧ (ac.getD a' []).length = b ∧ (dn.getD a' []).length = b ∧ AllIn 0 4 (ds.getD a' [])) := Lib.hid (fun a' ha' => by
            by_cases e : a' = a
            · subst e
              refine ⟨HL1.out.symm, HL2.out.symm, HL3.out.symm, fun x hx => ?_⟩
              obtain ⟨k, hk, rfl⟩ := List.getElem_of_mem hx
              have := HB.out k (by rw [HL1.out]; exact hk)
              rwa [getD_of_lt _ hk] at this
            · exact HA.out a' (by omega))
          go_wp2
          go_roundw
          case rel => exact ⟨a + 1, by omega, by go_num, (by first | trivial | rfl), HNEW⟩
          case measure => simp [intOf]; omega
    · obtain rfl : a = n4 := by omega
      have hcel : DclOk ds := by
        have h00 := HA.out 0 (by omega)
        refine ⟨by rw [← HM.out]; omega, by rw [← HM.out]; omega, by rw [h00.1]; omega, by rw [h00.1]; omega, fun r hr => ?_⟩
        obtain ⟨k, hk, rfl⟩ := List.getElem_of_mem hr
        have := HA.out k (by rw [HM.out]; exact hk)
        rw [getD_of_lt _ hk] at this
        exact ⟨by rw [this.1, h00.1], this.2.2.2⟩
      have HCEL := Lib.hid hcel
      clear hcel
      have HLL : Hid (∀ a', a' < a → (ds.getD a' []).length = q ∧ (ac.getD a' []).length = q ∧ (dn.getD a' []).length = q) := Lib.hid (fun a' h => ⟨(HA.out a' h).1, (HA.out a' h).2.1, (HA.out a' h).2.2.1⟩)
      have HDIM : Hid (∀ W, Below w1.heap.size w1 W → ∀ x y : Int, -1000 ≤ x ∧ x ≤ 1000 → -1000 ≤ y ∧ y ≤ 1000 → Calls Try.prog 121 #[.agg #[.int .i64 p, .slice (some ⟨bb, o, none⟩) a cd, .slice aa a ca', .slice ae a ce'], .int .i64 x, .int .i64 y] W fun r w' => r = .returned (.int .i64 (dco ds x y)) ∧ Below w1.heap.size w1 w') := Lib.hid (fun W hb x y hx hy => by
        have h0 := (HX1.out.next hb).dx.dims
        exact (l03Dim_any p x y _ _ _ ds W h0 HCEL.out hx hy).mono fun _ _ hh => ⟨hh.1, hb.trans (hh.2.mono hb.size)⟩)
      clear HA
      have hq4 : q ≤ 4 := by omega
      have hq1' : 1 ≤ q := by omega
      go_wp2
      go_loopw [7, 8] (fun i _ wr => ∃ x : Nat, x ≤ a ∧ i = .int .i64 x ∧ Hid (Below w1.heap.size w1 wr) ∧ Hid (∀ c ∈ cellsTo ds ds.length, c.1 < x → DTab p ds ac dn c)) (fun i _ _ => a - (intOf i).toNat)
      case atStart => exact ⟨0, Nat.zero_le _, rfl, Lib.hid (Below.refl _ _), Lib.hid (fun _ _ h => absurd h (Nat.not_lt_zero _))⟩
      case round =>
        obtain ⟨x, hx, rfl, HBwx, HTX⟩ := hrel
        obtain ⟨wx, hwx⟩ : ∃ wx : World, wx = wr := ⟨_, rfl⟩
        subst hwx
        by_cases hltx : x < a
        · have hltx' : (x : Int) < (a : Int) := by omega
          go_wp2
          go_loopw [8] (fun j wr => ∃ y : Nat, y ≤ q ∧ j = .int .i64 y ∧ Hid (Below w1.heap.size w1 wr) ∧ Hid (∀ y', y' < y → DTab p ds ac dn (x, y'))) (fun j _ => q - (intOf j).toNat)
          case atStart => exact ⟨0, Nat.zero_le _, rfl, HBwx, Lib.hid (fun _ h => absurd h (Nat.not_lt_zero _))⟩
          case round =>
            clear HBwx
            obtain ⟨y, hy, rfl, HBwy, HTY⟩ := hrel
            obtain ⟨wy, hwy⟩ : ∃ wy : World, wy = wr := ⟨_, rfl⟩
            subst hwy
            by_cases hlty : y < q
            · have hlty' : (y : Int) < (q : Int) := by omega
              have hal : x < ds.length := by rw [← HM.out]; exact hltx
              have hia : x < ac.length := by rw [← HN1.out]; exact hltx
              have hid : x < dn.length := by rw [← HN4.out]; exact hltx
              obtain ⟨hll1, hll2, hll3⟩ := HLL.out x hltx
              have hc : (x, y) ∈ cellsTo ds ds.length := mem_cells.2 ⟨hal, by dsimp only; rw [hll1]; exact hlty⟩
              have HC := Lib.hid hc
              rw [getD_of_lt _ hal] at hll1
              rw [getD_of_lt _ hia] at hll2
              rw [getD_of_lt _ hid] at hll3
              have hja : y < (ac[x]).length := by rw [hll2]; exact hlty
              have hjd : y < (dn[x]).length := by rw [hll3]; exact hlty
              have hdxy := (HX1.out.next HBwy.out).dx
              have hbz := HBwy.out
              have hzz := hbz.size
              obtain ⟨ba, oa, ca, b2, o2, k2, ut, hva, hA1, hA2, hTl⟩ := l4_at hdxy.across hia hja
              obtain ⟨be, oe, ce, b5, o5, k5, us, hvd, hE1, hE2, hSl⟩ := l4_at hdxy.down hid hjd
              have hT1b : Bd2 1048576 (ac[x])[y] := (HBA.out.2 _ (List.getElem_mem hia)).2 _ (List.getElem_mem hja)
              have hT2b : Bd2 1048576 (dn[x])[y] := (HBV.out.2 _ (List.getElem_mem hid)).2 _ (List.getElem_mem hjd)
              have hTt : (ac[x])[y] = (ac.getD x []).getD y [] := by rw [getD_of_lt _ hia, getD_of_lt _ hja]
              have hTs : (dn[x])[y] = (dn.getD x []).getD y [] := by rw [getD_of_lt _ hid, getD_of_lt _ hjd]
              rw [hTt] at hTl hT1b
              rw [hTs] at hSl hT2b
              rw [hll2] at hA1
              rw [hll3] at hE1
              injection hva with e1 e2 e3
              injection hvd with e4 e5 e6
              have HE1' : Hid (aa = some ⟨ba, oa, none⟩) := Lib.hid e1
              have HE4' : Hid (ae = some ⟨be, oe, none⟩) := Lib.hid e4
              clear e1 e2 e3 e4 e5 e6
              obtain ⟨ta, tc, hut⟩ := Sl.shape hTl
              obtain ⟨sa, sc, hus⟩ := Sl.shape hSl
              obtain ⟨TA, hTA⟩ : ∃ t, t = (ac.getD x []).getD y [] := ⟨_, rfl⟩
              obtain ⟨TD, hTD⟩ : ∃ t, t = (dn.getD x []).getD y [] := ⟨_, rfl⟩
              rw [← hTA] at hTl hT1b hut
              rw [← hTD] at hSl hT2b hus
              obtain ⟨nt, hnt⟩ : ∃ n, n = TA.length := ⟨_, rfl⟩
              obtain ⟨ns, hns⟩ : ∃ n, n = TD.length := ⟨_, rfl⟩
              rw [← hnt] at hut
              rw [← hns] at hus
              subst hut hus
              have HA1 := Lib.hid hA1
              have HA2 := Lib.hid hA2
              have HE1 := Lib.hid hE1
              have HE2 := Lib.hid hE2
              have HTL := Lib.hid hTl
              have HSL := Lib.hid hSl
              have HT1 := Lib.hid hT1b
              have HT2 := Lib.hid hT2b
              obtain ⟨d, hd⟩ : ∃ d, d = (ds.getD x []).getD y 0 := ⟨_, rfl⟩
              obtain ⟨ui, hui, hri⟩ := HCL.out x hal
              have hbl : y < (ds[x]).length := by rw [hll1]; exact hlty
              rcases hri with ⟨hx0, _⟩ | ⟨bi, oi, ci, rfl, _, hpi, hci⟩
              · rw [hx0] at hbl; exact absurd hbl (Nat.not_lt_zero _)
              obtain ⟨ue, hue, hre⟩ := hci y hbl
              have hre' : ue = .int .i64 d := by rw [hd, getD_of_lt _ hal, getD_of_lt _ hbl]; exact hre
              subst hre'
              rw [hll1] at hui
              have HUI : Hid (∀ W, Below wy.heap.size wy W → W.cell? ⟨bb, o + x, none⟩ = some (.slice (some ⟨bi, oi, none⟩) q ci) ∧ W.cell? ⟨bi, oi + y, none⟩ = some (.int .i64 d)) := Lib.hid (fun W hb => ⟨later (HX1.out.below.trans ((HBwy.out.trans (hb.mono hzz)).mono HX1.out.below.size)) (Nat.le_refl _) hui, later (HX1.out.below.trans ((HBwy.out.trans (hb.mono hzz)).mono HX1.out.below.size)) (Nat.le_refl _) hue⟩)
              have hcd := dco_dcl HCEL.out hc
              dsimp only at hcd
              have HDT : Hid (DTab p ds ac dn (x, y) ↔ TabOk p d (dco ds ((x : Int) - 1) y) TA ∧ TabOk p d (dco ds x ((y : Int) - 1)) TD) := Lib.hid (by
                show (TabOk p (dcl ds x y) (dcl ds ((x : Int) - 1) y) ((ac.getD x []).getD y []) ∧ TabOk p (dcl ds x y) (dcl ds x ((y : Int) - 1)) ((dn.getD x []).getD y [])) ↔ _
                rw [hcd.1, hcd.2, hTA, hTD, dcl_nat, hd])
              clear hA1 hA2 hE1 hE2 hTl hSl hT1b hT2b hTt hTs hTA hTD hnt hns hd hui hue hre hci hpi hcd hc hdxy hbl hja hjd hia hid hll1 hll2 hll3 hal
              obtain ⟨dl, hdl⟩ : ∃ z, z = dco ds ((x : Int) - 1) y := ⟨_, rfl⟩
              obtain ⟨db, hdb⟩ : ∃ z, z = dco ds x ((y : Int) - 1) := ⟨_, rfl⟩
              rw [← hdl, ← hdb] at HDT
              have HNZ : Hid (∀ W, Below wy.heap.size wy W → DBx w W w.heap.size p (.slice (some ⟨bb, o, none⟩) a cd) (.slice aa a ca') (.slice ae a ce') ds ac dn ∧ Below w1.heap.size w1 W) := Lib.hid (fun W hb => ⟨HX1.out.next (HBwy.out.trans (hb.mono hzz)), HBwy.out.trans (hb.mono hzz)⟩)
              have HDL : Hid (∀ W, Below wy.heap.size wy W → Calls Try.prog 121 #[.agg #[.int .i64 p, .slice (some ⟨bb, o, none⟩) a cd, .slice aa a ca', .slice ae a ce'], .int .i64 ((x : Int) - 1), .int .i64 (y : Int)] W fun r w' => r = .returned (.int .i64 dl) ∧ Below W.heap.size W w') := Lib.hid (fun W hb => by
                rw [hdl]
                exact l03Dim_any p _ _ _ _ _ ds W (HNZ.out W hb).1.dx.dims HCEL.out ⟨by omega, by omega⟩ ⟨by omega, by omega⟩)
              have HDB : Hid (∀ W, Below wy.heap.size wy W → Calls Try.prog 121 #[.agg #[.int .i64 p, .slice (some ⟨bb, o, none⟩) a cd, .slice aa a ca', .slice ae a ce'], .int .i64 (x : Int), .int .i64 ((y : Int) - 1)] W fun r w' => r = .returned (.int .i64 db) ∧ Below W.heap.size W w') := Lib.hid (fun W hb => by
                rw [hdb]
                exact l03Dim_any p _ _ _ _ _ ds W (HNZ.out W hb).1.dx.dims HCEL.out ⟨by omega, by omega⟩ ⟨by omega, by omega⟩)
              have HTA1 : Hid (∀ W, Below wy.heap.size wy W → Calls Try.prog 120 #[.int .i64 p, .slice ta nt tc, .int .i64 d, .int .i64 dl] W (BW (TabOk p d dl TA) W)) := Lib.hid (fun W hb => l01Table_any p _ _ _ _ W HP.out (HTL.out.below hb) HT1.out)
              have HTD1 : Hid (∀ W, Below wy.heap.size wy W → Calls Try.prog 120 #[.int .i64 p, .slice sa ns sc, .int .i64 d, .int .i64 db] W (BW (TabOk p d db TD) W)) := Lib.hid (fun W hb => l01Table_any p _ _ _ _ W HP.out (HSL.out.below hb) HT2.out)
              clear hdl hdb
              have wi : IntKind.i64.wrap ((x : Int) - 1) = (x : Int) - 1 := IntWalk.i64_in _ (by omega)
              have wj : IntKind.i64.wrap ((y : Int) - 1) = (y : Int) - 1 := IntWalk.i64_in _ (by omega)
              go_upto_region 23 with fail
              refine wp_region_held (S := fun W => Below wy.heap.size wy W) (by kernel_rfl) ?_
              have S0 : Below wy.heap.size wy wy.drew := (Below.refl _ _).drew
              change wpAnyH _ _ _ _ _ _ _ _ wy.drew
              obtain ⟨wd, hwd⟩ : ∃ wd, wd = wy.drew := ⟨_, rfl⟩
              rw [← hwd] at S0 ⊢
              clear hwd
              refine held_take (i := 0) (v := .pointer (some ⟨w.heap.size, 0, none⟩)) (some 107) rfl rfl (by kernel_rfl) (by kernel_rfl) (by kernel_rfl) (fun _ _ _ h => h) (yieldsIf_run0 (by kernel_rfl) (fun W _ => by kernel_rfl)) S0 ?_
              refine held_take (i := 1) (v := .int .i64 p) (some 108) rfl rfl (by kernel_rfl) (by kernel_rfl) (by kernel_rfl) (fun _ _ _ h => h) (yieldsIf_cell (by kernel_rfl) rfl (by kernel_rfl) (fun W h => hloadIn W (HNZ.out W h).1.c0)) S0 ?_
              refine held_take (i := 2) (v := .pointer (some ⟨w.heap.size, 2, none⟩)) (some 109) rfl rfl (by kernel_rfl) (by kernel_rfl) (by kernel_rfl) (fun _ _ _ h => h) (yieldsIf_run0 (by kernel_rfl) (fun W _ => by kernel_rfl)) S0 ?_
              refine held_take (i := 3) (v := .slice aa a ca') (some 110) rfl rfl (by kernel_rfl) (by kernel_rfl) (by kernel_rfl) (fun _ _ _ h => h) (yieldsIf_cell (by kernel_rfl) rfl (by kernel_rfl) (fun W h => hload4 W (HNZ.out W h).1.c2)) S0 ?_
              refine held_take (i := 4) (v := .int .i64 (x : Int)) (some 111) rfl rfl (by kernel_rfl) (by kernel_rfl) (by kernel_rfl) (fun _ _ _ h => h) (yieldsIf_move (by kernel_rfl) rfl (by kernel_rfl)) S0 ?_
              refine held_take (i := 5) (v := .pointer (some ⟨ba, oa + x, none⟩)) (some 112) rfl rfl (by kernel_rfl) (by kernel_rfl) (by kernel_rfl) (fun _ _ _ h => h) (yieldsIf_index (by kernel_rfl) rfl (by kernel_rfl) (by kernel_rfl) (hidx4 (cap := ca') HE1'.out hltx)) S0 ?_
              refine held_take (i := 6) (v := .slice (some ⟨b2, o2, none⟩) q k2) (some 113) rfl rfl (by kernel_rfl) (by kernel_rfl) (by kernel_rfl) (fun _ _ _ h => h) (yieldsIf_cell (by kernel_rfl) rfl (by kernel_rfl) (fun W h => hload3s W (later h (Nat.le_refl _) HA1.out))) S0 ?_
              refine held_take (i := 7) (v := .int .i64 (y : Int)) (some 114) rfl rfl (by kernel_rfl) (by kernel_rfl) (by kernel_rfl) (fun _ _ _ h => h) (yieldsIf_move (by kernel_rfl) rfl (by kernel_rfl)) S0 ?_
              refine held_take (i := 8) (v := .pointer (some ⟨b2, o2 + y, none⟩)) (some 115) rfl rfl (by kernel_rfl) (by kernel_rfl) (by kernel_rfl) (fun _ _ _ h => h) (yieldsIf_index (by kernel_rfl) rfl (by kernel_rfl) (by kernel_rfl) (hidx3 b2 o2 k2 hlty)) S0 ?_
              refine held_take (i := 9) (v := .slice ta nt tc) (some 116) rfl rfl (by kernel_rfl) (by kernel_rfl) (by kernel_rfl) (fun _ _ _ h => h) (yieldsIf_cell (by kernel_rfl) rfl (by kernel_rfl) (fun W h => hload2s W (later h (Nat.le_refl _) HA2.out))) S0 ?_
              refine held_take (i := 10) (v := .pointer (some ⟨w.heap.size, 1, none⟩)) (some 117) rfl rfl (by kernel_rfl) (by kernel_rfl) (by kernel_rfl) (fun _ _ _ h => h) (yieldsIf_run0 (by kernel_rfl) (fun W _ => by kernel_rfl)) S0 ?_
              refine held_take (i := 11) (v := .slice (some ⟨bb, o, none⟩) a cd) (some 118) rfl rfl (by kernel_rfl) (by kernel_rfl) (by kernel_rfl) (fun _ _ _ h => h) (yieldsIf_cell (by kernel_rfl) rfl (by kernel_rfl) (fun W h => hload2s W (HNZ.out W h).1.c1)) S0 ?_
              refine held_take (i := 12) (v := .int .i64 (x : Int)) (some 119) rfl rfl (by kernel_rfl) (by kernel_rfl) (by kernel_rfl) (fun _ _ _ h => h) (yieldsIf_move (by kernel_rfl) rfl (by kernel_rfl)) S0 ?_
              refine held_take (i := 13) (v := .pointer (some ⟨bb, o + x, none⟩)) (some 120) rfl rfl (by kernel_rfl) (by kernel_rfl) (by kernel_rfl) (fun _ _ _ h => h) (yieldsIf_index (by kernel_rfl) rfl (by kernel_rfl) (by kernel_rfl) (hidxS bb o cd hltx)) S0 ?_
              refine held_take (i := 14) (v := .slice (some ⟨bi, oi, none⟩) q ci) (some 121) rfl rfl (by kernel_rfl) (by kernel_rfl) (by kernel_rfl) (fun _ _ _ h => h) (yieldsIf_cell (by kernel_rfl) rfl (by kernel_rfl) (fun W h => hloadD W (HUI.out W h).1)) S0 ?_
              refine held_take (i := 15) (v := .int .i64 (y : Int)) (some 122) rfl rfl (by kernel_rfl) (by kernel_rfl) (by kernel_rfl) (fun _ _ _ h => h) (yieldsIf_move (by kernel_rfl) rfl (by kernel_rfl)) S0 ?_
              refine held_take (i := 16) (v := .pointer (some ⟨bi, oi + y, none⟩)) (some 123) rfl rfl (by kernel_rfl) (by kernel_rfl) (by kernel_rfl) (fun _ _ _ h => h) (yieldsIf_index (by kernel_rfl) rfl (by kernel_rfl) (by kernel_rfl) (hidxI bi oi ci hlty)) S0 ?_
              refine held_take (i := 17) (v := .int .i64 d) (some 124) rfl rfl (by kernel_rfl) (by kernel_rfl) (by kernel_rfl) (fun _ _ _ h => h) (yieldsIf_cell (by kernel_rfl) rfl (by kernel_rfl) (fun W h => hloadIn W (HUI.out W h).2)) S0 ?_
              refine held_take (i := 18) (v := .agg #[.int .i64 p, .slice (some ⟨bb, o, none⟩) a cd, .slice aa a ca', .slice ae a ce']) (some 125) rfl rfl (by kernel_rfl) (by kernel_rfl) (by kernel_rfl) (fun _ _ _ h => h) (yieldsIf_cell (by kernel_rfl) rfl (by kernel_rfl) (fun W h => hloadDb W (HNZ.out W h).1)) S0 ?_
              refine held_take (i := 19) (v := .int .i64 (x : Int)) (some 126) rfl rfl (by kernel_rfl) (by kernel_rfl) (by kernel_rfl) (fun _ _ _ h => h) (yieldsIf_move (by kernel_rfl) rfl (by kernel_rfl)) S0 ?_
              refine held_take (i := 20) (v := .int .i64 ((x : Int) - 1)) (some 127) rfl rfl (by kernel_rfl) (by kernel_rfl) (by kernel_rfl) (fun _ _ _ h => h) (yieldsIf_bin (by kernel_rfl) rfl (by kernel_rfl) (by kernel_rfl) (fun _ => rfl) (hsubA wi)) S0 ?_
              refine held_take (i := 21) (v := .int .i64 (y : Int)) (some 128) rfl rfl (by kernel_rfl) (by kernel_rfl) (by kernel_rfl) (fun _ _ _ h => h) (yieldsIf_move (by kernel_rfl) rfl (by kernel_rfl)) S0 ?_
              refine held_enter (i := 22) (some 129) (f := 121) (args := #[.agg #[.int .i64 p, .slice (some ⟨bb, o, none⟩) a cd, .slice aa a ca', .slice ae a ce'], .int .i64 ((x : Int) - 1), .int .i64 (y : Int)]) (by kernel_rfl) rfl rfl rfl (by kernel_rfl) (HDL.out _ S0) ?_ (fun c w' h => by cases h.1) (fun w' h => by cases h.1)
              rintro e3 W3 ⟨he3, hb3⟩
              injection he3 with he3
              subst he3
              have S1 : Below wy.heap.size wy W3 := S0.trans (hb3.mono S0.size)
              refine ⟨S1, ?_⟩
              refine held_enter (i := 23) (some 130) (f := 120) (args := #[.int .i64 p, .slice ta nt tc, .int .i64 d, .int .i64 dl]) (by kernel_rfl) rfl rfl rfl (by kernel_rfl) (HTA1.out _ S1) ?_ (fun c w' h => by obtain ⟨_, h, _⟩ := h; cases h) (fun w' h => by obtain ⟨_, h, _⟩ := h; cases h)
              rintro e4 W4 ⟨t1, he4, hw4, ht1⟩
              injection he4 with he4
              subst he4
              subst hw4
              refine ⟨S1, ?_⟩
              have HT1B := Lib.hid ht1
              clear ht1
              cases t1
              · refine held_take (i := 24) (v := .bool true) (some 131) rfl rfl (by kernel_rfl) (by kernel_rfl) (by kernel_rfl) (fun _ _ _ h => h) (yieldsIf_run0 (by kernel_rfl) (fun W _ => by kernel_rfl)) S1 ?_
                refine held_take (i := 25) (v := .bool true) (some 132) rfl rfl (by kernel_rfl) (by kernel_rfl) (by kernel_rfl) (fun _ _ _ h => h) (yieldsIf_move (by kernel_rfl) rfl (by kernel_rfl)) S1 ?_
                refine held_skip0 (i := 26) (some 133) rfl rfl (by kernel_rfl) (by kernel_rfl) (by kernel_rfl) (fun _ _ _ h => h) (by kernel_rfl) S1 ?_
                refine held_skip0 (i := 27) (some 134) rfl rfl (by kernel_rfl) (by kernel_rfl) (by kernel_rfl) (fun _ _ _ h => h) (by kernel_rfl) S1 ?_
                refine held_skip0 (i := 28) (some 135) rfl rfl (by kernel_rfl) (by kernel_rfl) (by kernel_rfl) (fun _ _ _ h => h) (by kernel_rfl) S1 ?_
                refine held_skip0 (i := 29) (some 136) rfl rfl (by kernel_rfl) (by kernel_rfl) (by kernel_rfl) (fun _ _ _ h => h) (by kernel_rfl) S1 ?_
                refine held_skip0 (i := 30) (some 137) rfl rfl (by kernel_rfl) (by kernel_rfl) (by kernel_rfl) (fun _ _ _ h => h) (by kernel_rfl) S1 ?_
                refine held_skip0 (i := 31) (some 138) rfl rfl (by kernel_rfl) (by kernel_rfl) (by kernel_rfl) (fun _ _ _ h => h) (by kernel_rfl) S1 ?_
                refine held_skip0 (i := 32) (some 139) rfl rfl (by kernel_rfl) (by kernel_rfl) (by kernel_rfl) (fun _ _ _ h => h) (by kernel_rfl) S1 ?_
                refine held_skip0 (i := 33) (some 140) rfl rfl (by kernel_rfl) (by kernel_rfl) (by kernel_rfl) (fun _ _ _ h => h) (by kernel_rfl) S1 ?_
                refine held_skip0 (i := 34) (some 141) rfl rfl (by kernel_rfl) (by kernel_rfl) (by kernel_rfl) (fun _ _ _ h => h) (by kernel_rfl) S1 ?_
                refine held_skip0 (i := 35) (some 142) rfl rfl (by kernel_rfl) (by kernel_rfl) (by kernel_rfl) (fun _ _ _ h => h) (by kernel_rfl) S1 ?_
                refine held_skip0 (i := 36) (some 143) rfl rfl (by kernel_rfl) (by kernel_rfl) (by kernel_rfl) (fun _ _ _ h => h) (by kernel_rfl) S1 ?_
                refine held_skip0 (i := 37) (some 144) rfl rfl (by kernel_rfl) (by kernel_rfl) (by kernel_rfl) (fun _ _ _ h => h) (by kernel_rfl) S1 ?_
                refine held_skip0 (i := 38) (some 145) rfl rfl (by kernel_rfl) (by kernel_rfl) (by kernel_rfl) (fun _ _ _ h => h) (by kernel_rfl) S1 ?_
                refine held_skip0 (i := 39) (some 146) rfl rfl (by kernel_rfl) (by kernel_rfl) (by kernel_rfl) (fun _ _ _ h => h) (by kernel_rfl) S1 ?_
                refine held_skip0 (i := 40) (some 147) rfl rfl (by kernel_rfl) (by kernel_rfl) (by kernel_rfl) (fun _ _ _ h => h) (by kernel_rfl) S1 ?_
                refine held_skip0 (i := 41) (some 148) rfl rfl (by kernel_rfl) (by kernel_rfl) (by kernel_rfl) (fun _ _ _ h => h) (by kernel_rfl) S1 ?_
                refine held_skip0 (i := 42) (some 149) rfl rfl (by kernel_rfl) (by kernel_rfl) (by kernel_rfl) (fun _ _ _ h => h) (by kernel_rfl) S1 ?_
                refine held_skip0 (i := 43) (some 150) rfl rfl (by kernel_rfl) (by kernel_rfl) (by kernel_rfl) (fun _ _ _ h => h) (by kernel_rfl) S1 ?_
                refine held_skip0 (i := 44) (some 151) rfl rfl (by kernel_rfl) (by kernel_rfl) (by kernel_rfl) (fun _ _ _ h => h) (by kernel_rfl) S1 ?_
                refine held_skip0 (i := 45) (some 152) rfl rfl (by kernel_rfl) (by kernel_rfl) (by kernel_rfl) (fun _ _ _ h => h) (by kernel_rfl) S1 ?_
                refine held_skip0 (i := 46) (some 153) rfl rfl (by kernel_rfl) (by kernel_rfl) (by kernel_rfl) (fun _ _ _ h => h) (by kernel_rfl) S1 ?_
                refine held_skip0 (i := 47) (some 154) rfl rfl (by kernel_rfl) (by kernel_rfl) (by kernel_rfl) (fun _ _ _ h => h) (by kernel_rfl) S1 ?_
                refine held_skip0 (i := 48) (some 155) rfl rfl (by kernel_rfl) (by kernel_rfl) (by kernel_rfl) (fun _ _ _ h => h) (by kernel_rfl) S1 ?_
                refine held_skip0 (i := 49) (some 156) rfl rfl (by kernel_rfl) (by kernel_rfl) (by kernel_rfl) (fun _ _ _ h => h) (by kernel_rfl) S1 ?_
                refine held_skip0 (i := 50) (some 157) rfl rfl (by kernel_rfl) (by kernel_rfl) (by kernel_rfl) (fun _ _ _ h => h) (by kernel_rfl) S1 ?_
                refine held_take (i := 51) (v := .bool true) (some 158) rfl rfl (by kernel_rfl) (by kernel_rfl) (by kernel_rfl) (fun _ _ _ h => h) (yieldsIf_run0 (by kernel_rfl) (fun W _ => by kernel_rfl)) S1 ?_
                refine wpAnyH_done (by kernel_rfl) ?_ _
                simp only [Act.put, List.setIfInBounds_toArray, List.set_cons_zero, List.set_cons_succ]
                have HS1 := Lib.hid (HNZ.out _ S1).2
                have HNO : Hid (¬ PP) := Lib.hid (fun h => by have h1 := HDT.out.1 ((HPI.out.1 h).tbs.tab _ HC.out); exact absurd (HT1B.out.2 h1.1) (by simp))
                clear S0 S1 hb3
                go_wp2
                go_ret
                exact bb_false (HX1.out.below.trans (HS1.out.mono HX1.out.below.size)) HNO.out
              · refine held_take (i := 24) (v := .bool false) (some 131) rfl rfl (by kernel_rfl) (by kernel_rfl) (by kernel_rfl) (fun _ _ _ h => h) (yieldsIf_run0 (by kernel_rfl) (fun W _ => by kernel_rfl)) S1 ?_
                refine held_take (i := 25) (v := .bool false) (some 132) rfl rfl (by kernel_rfl) (by kernel_rfl) (by kernel_rfl) (fun _ _ _ h => h) (yieldsIf_move (by kernel_rfl) rfl (by kernel_rfl)) S1 ?_
                refine held_take (i := 26) (v := .pointer (some ⟨w.heap.size, 0, none⟩)) (some 133) rfl rfl (by kernel_rfl) (by kernel_rfl) (by kernel_rfl) (fun _ _ _ h => h) (yieldsIf_runG (by kernel_rfl) (fun W _ => by kernel_rfl)) S1 ?_
                refine held_take (i := 27) (v := .int .i64 p) (some 134) rfl rfl (by kernel_rfl) (by kernel_rfl) (by kernel_rfl) (fun _ _ _ h => h) (yieldsIf_cellG (by kernel_rfl) rfl (by kernel_rfl) (fun W h => hloadIn W (HNZ.out W h).1.c0)) S1 ?_
                refine held_take (i := 28) (v := .pointer (some ⟨w.heap.size, 3, none⟩)) (some 135) rfl rfl (by kernel_rfl) (by kernel_rfl) (by kernel_rfl) (fun _ _ _ h => h) (yieldsIf_runG (by kernel_rfl) (fun W _ => by kernel_rfl)) S1 ?_
                refine held_take (i := 29) (v := .slice ae a ce') (some 136) rfl rfl (by kernel_rfl) (by kernel_rfl) (by kernel_rfl) (fun _ _ _ h => h) (yieldsIf_cellG (by kernel_rfl) rfl (by kernel_rfl) (fun W h => hload4 W (HNZ.out W h).1.c3)) S1 ?_
                refine held_take (i := 30) (v := .int .i64 (x : Int)) (some 137) rfl rfl (by kernel_rfl) (by kernel_rfl) (by kernel_rfl) (fun _ _ _ h => h) (yieldsIf_runG (by kernel_rfl) (fun W _ => by kernel_rfl)) S1 ?_
                refine held_take (i := 31) (v := .pointer (some ⟨be, oe + x, none⟩)) (some 138) rfl rfl (by kernel_rfl) (by kernel_rfl) (by kernel_rfl) (fun _ _ _ h => h) (yieldsIf_indexD (by kernel_rfl) rfl (by kernel_rfl) (by kernel_rfl) (hidx4 (cap := ce') HE4'.out hltx)) S1 ?_
                refine held_take (i := 32) (v := .slice (some ⟨b5, o5, none⟩) q k5) (some 139) rfl rfl (by kernel_rfl) (by kernel_rfl) (by kernel_rfl) (fun _ _ _ h => h) (yieldsIf_cellG (by kernel_rfl) rfl (by kernel_rfl) (fun W h => hload3s W (later h (Nat.le_refl _) HE1.out))) S1 ?_
                refine held_take (i := 33) (v := .int .i64 (y : Int)) (some 140) rfl rfl (by kernel_rfl) (by kernel_rfl) (by kernel_rfl) (fun _ _ _ h => h) (yieldsIf_runG (by kernel_rfl) (fun W _ => by kernel_rfl)) S1 ?_
                refine held_take (i := 34) (v := .pointer (some ⟨b5, o5 + y, none⟩)) (some 141) rfl rfl (by kernel_rfl) (by kernel_rfl) (by kernel_rfl) (fun _ _ _ h => h) (yieldsIf_indexD (by kernel_rfl) rfl (by kernel_rfl) (by kernel_rfl) (hidx3 b5 o5 k5 hlty)) S1 ?_
                refine held_take (i := 35) (v := .slice sa ns sc) (some 142) rfl rfl (by kernel_rfl) (by kernel_rfl) (by kernel_rfl) (fun _ _ _ h => h) (yieldsIf_cellG (by kernel_rfl) rfl (by kernel_rfl) (fun W h => hload2s W (later h (Nat.le_refl _) HE2.out))) S1 ?_
                refine held_take (i := 36) (v := .pointer (some ⟨w.heap.size, 1, none⟩)) (some 143) rfl rfl (by kernel_rfl) (by kernel_rfl) (by kernel_rfl) (fun _ _ _ h => h) (yieldsIf_runG (by kernel_rfl) (fun W _ => by kernel_rfl)) S1 ?_
                refine held_take (i := 37) (v := .slice (some ⟨bb, o, none⟩) a cd) (some 144) rfl rfl (by kernel_rfl) (by kernel_rfl) (by kernel_rfl) (fun _ _ _ h => h) (yieldsIf_cellG (by kernel_rfl) rfl (by kernel_rfl) (fun W h => hload2s W (HNZ.out W h).1.c1)) S1 ?_
                refine held_take (i := 38) (v := .int .i64 (x : Int)) (some 145) rfl rfl (by kernel_rfl) (by kernel_rfl) (by kernel_rfl) (fun _ _ _ h => h) (yieldsIf_runG (by kernel_rfl) (fun W _ => by kernel_rfl)) S1 ?_
                refine held_take (i := 39) (v := .pointer (some ⟨bb, o + x, none⟩)) (some 146) rfl rfl (by kernel_rfl) (by kernel_rfl) (by kernel_rfl) (fun _ _ _ h => h) (yieldsIf_indexD (by kernel_rfl) rfl (by kernel_rfl) (by kernel_rfl) (hidxS bb o cd hltx)) S1 ?_
                refine held_take (i := 40) (v := .slice (some ⟨bi, oi, none⟩) q ci) (some 147) rfl rfl (by kernel_rfl) (by kernel_rfl) (by kernel_rfl) (fun _ _ _ h => h) (yieldsIf_cellG (by kernel_rfl) rfl (by kernel_rfl) (fun W h => hloadD W (HUI.out W h).1)) S1 ?_
                refine held_take (i := 41) (v := .int .i64 (y : Int)) (some 148) rfl rfl (by kernel_rfl) (by kernel_rfl) (by kernel_rfl) (fun _ _ _ h => h) (yieldsIf_runG (by kernel_rfl) (fun W _ => by kernel_rfl)) S1 ?_
                refine held_take (i := 42) (v := .pointer (some ⟨bi, oi + y, none⟩)) (some 149) rfl rfl (by kernel_rfl) (by kernel_rfl) (by kernel_rfl) (fun _ _ _ h => h) (yieldsIf_indexD (by kernel_rfl) rfl (by kernel_rfl) (by kernel_rfl) (hidxI bi oi ci hlty)) S1 ?_
                refine held_take (i := 43) (v := .int .i64 d) (some 150) rfl rfl (by kernel_rfl) (by kernel_rfl) (by kernel_rfl) (fun _ _ _ h => h) (yieldsIf_cellG (by kernel_rfl) rfl (by kernel_rfl) (fun W h => hloadIn W (HUI.out W h).2)) S1 ?_
                refine held_take (i := 44) (v := .agg #[.int .i64 p, .slice (some ⟨bb, o, none⟩) a cd, .slice aa a ca', .slice ae a ce']) (some 151) rfl rfl (by kernel_rfl) (by kernel_rfl) (by kernel_rfl) (fun _ _ _ h => h) (yieldsIf_cellG (by kernel_rfl) rfl (by kernel_rfl) (fun W h => hloadDb W (HNZ.out W h).1)) S1 ?_
                refine held_take (i := 45) (v := .int .i64 (x : Int)) (some 152) rfl rfl (by kernel_rfl) (by kernel_rfl) (by kernel_rfl) (fun _ _ _ h => h) (yieldsIf_runG (by kernel_rfl) (fun W _ => by kernel_rfl)) S1 ?_
                refine held_take (i := 46) (v := .int .i64 (y : Int)) (some 153) rfl rfl (by kernel_rfl) (by kernel_rfl) (by kernel_rfl) (fun _ _ _ h => h) (yieldsIf_runG (by kernel_rfl) (fun W _ => by kernel_rfl)) S1 ?_
                refine held_take (i := 47) (v := .int .i64 ((y : Int) - 1)) (some 154) rfl rfl (by kernel_rfl) (by kernel_rfl) (by kernel_rfl) (fun _ _ _ h => h) (yieldsIf_binG (by kernel_rfl) rfl (by kernel_rfl) (by kernel_rfl) (fun _ => by kernel_rfl) (hsubA wj)) S1 ?_
                refine held_enterG (i := 48) (some 155) (f := 121) (args := #[.agg #[.int .i64 p, .slice (some ⟨bb, o, none⟩) a cd, .slice aa a ca', .slice ae a ce'], .int .i64 (x : Int), .int .i64 ((y : Int) - 1)]) (by kernel_rfl) rfl (by kernel_rfl) rfl (by kernel_rfl) (HDB.out _ S1) ?_ (fun c w' h => by cases h.1) (fun w' h => by cases h.1)
                rintro e5 W5 ⟨he5, hb5⟩
                injection he5 with he5
                subst he5
                have S2 : Below wy.heap.size wy W5 := S1.trans (hb5.mono S1.size)
                refine ⟨S2, ?_⟩
                refine held_enterG (i := 49) (some 156) (f := 120) (args := #[.int .i64 p, .slice sa ns sc, .int .i64 d, .int .i64 db]) (by kernel_rfl) rfl (by kernel_rfl) rfl (by kernel_rfl) (HTD1.out _ S2) ?_ (fun c w' h => by obtain ⟨_, h, _⟩ := h; cases h) (fun w' h => by obtain ⟨_, h, _⟩ := h; cases h)
                rintro e6 W6 ⟨t2, he6, hw6, ht2⟩
                injection he6 with he6
                subst he6
                subst hw6
                refine ⟨S2, ?_⟩
                have HT2B := Lib.hid ht2
                clear ht2
                cases t2
                · refine held_take (i := 50) (v := .bool true) (some 157) rfl rfl (by kernel_rfl) (by kernel_rfl) (by kernel_rfl) (fun _ _ _ h => h) (yieldsIf_runG (by kernel_rfl) (fun W _ => by kernel_rfl)) S2 ?_
                  refine held_take (i := 51) (v := .bool true) (some 158) rfl rfl (by kernel_rfl) (by kernel_rfl) (by kernel_rfl) (fun _ _ _ h => h) (yieldsIf_run0 (by kernel_rfl) (fun W _ => by kernel_rfl)) S2 ?_
                  refine wpAnyH_done (by kernel_rfl) ?_ _
                  simp only [Act.put, List.setIfInBounds_toArray, List.set_cons_zero, List.set_cons_succ]
                  have HS1 := Lib.hid (HNZ.out _ S2).2
                  have HNO : Hid (¬ PP) := Lib.hid (fun h => by have h1 := HDT.out.1 ((HPI.out.1 h).tbs.tab _ HC.out); exact absurd (HT2B.out.2 h1.2) (by simp))
                  clear S0 S1 S2 hb3 hb5
                  go_wp2
                  go_ret
                  exact bb_false (HX1.out.below.trans (HS1.out.mono HX1.out.below.size)) HNO.out
                · refine held_take (i := 50) (v := .bool false) (some 157) rfl rfl (by kernel_rfl) (by kernel_rfl) (by kernel_rfl) (fun _ _ _ h => h) (yieldsIf_runG (by kernel_rfl) (fun W _ => by kernel_rfl)) S2 ?_
                  refine held_take (i := 51) (v := .bool false) (some 158) rfl rfl (by kernel_rfl) (by kernel_rfl) (by kernel_rfl) (fun _ _ _ h => h) (yieldsIf_run0 (by kernel_rfl) (fun W _ => by kernel_rfl)) S2 ?_
                  refine wpAnyH_done (by kernel_rfl) ?_ _
                  simp only [Act.put, List.setIfInBounds_toArray, List.set_cons_zero, List.set_cons_succ]
                  have HS1 := Lib.hid (HNZ.out _ S2).2
                  have HNEW : Hid (∀ y', y' < y + 1 → DTab p ds ac dn (x, y')) := Lib.hid (fun y' hy' => by
                    by_cases e : y' = y
                    · subst e; exact HDT.out.2 ⟨HT1B.out.1 (by simp), HT2B.out.1 (by simp)⟩
                    · exact HTY.out y' (by omega))
                  clear S0 S1 S2 hb3 hb5
                  go_wp2
                  go_roundw
                  case rel => exact ⟨y + 1, by omega, by go_num, HS1, HNEW⟩
                  case measure => simp [intOf]; omega
            · obtain rfl : y = q := by omega
              have HNEW : Hid (∀ c ∈ cellsTo ds ds.length, c.1 < x + 1 → DTab p ds ac dn c) := Lib.hid (fun c hc hca => by
                by_cases e : c.1 = x
                · obtain ⟨c1', c2'⟩ := c
                  dsimp only at e
                  subst e
                  refine HTY.out c2' ?_
                  have h1 := mem_cells.1 hc
                  dsimp only at h1
                  rw [(HLL.out c1' hltx).1] at h1
                  exact h1.2
                · exact HTX.out c hc (by omega))
              go_wp2
              go_roundw
              case rel => exact ⟨x + 1, by omega, by go_num, HBwy, HNEW⟩
              case measure => simp [intOf]; omega
        · obtain rfl : x = a := by omega
          have HTB : Hid (TbsOk p ds ac dn) := Lib.hid ⟨by rw [← HN1.out]; exact HM.out, by rw [← HN4.out]; exact HM.out, fun i hi => by rw [← HM.out] at hi; rw [(HLL.out i hi).2.1, (HLL.out i hi).1], fun i hi => by rw [← HM.out] at hi; rw [(HLL.out i hi).2.2, (HLL.out i hi).1], fun c hc => HTX.out c hc (by rw [HM.out]; exact (mem_cells.1 hc).1)⟩
          have hxn := HX1.out.next HBwx.out
          have HXN := Lib.hid hxn
          have c0 := hxn.c0
          have c1 := hxn.c1
          have c2 := hxn.c2
          have c3 := hxn.c3
          clear hxn
          go_wp2_with fail
          refine (l03Square_any p HP.out _ _ _ ds ac dn _ HXN.out.dx HCEL.out HTB.out).mono ?_
          rintro e w' ⟨bq, rfl, hbq, hq2⟩
          have HBQ := Lib.hid hbq
          have HQ2 := Lib.hid hq2
          clear hbq hq2 c0 c1 c2 c3
          go_wp2
          go_ret
          exact ⟨bq, rfl, HXN.out.below.trans (HBQ.out.mono HXN.out.below.size), HQ2.out.trans ((sq_iff HP.out HCEL.out HTB.out).trans ⟨fun h => HPI.out.2 ⟨HP.out, HCEL.out, HTB.out, h⟩, fun h => (HPI.out.1 h).cnd⟩)⟩

end Go.Proofs.Ytbadjfnelpfhcaa


namespace Go.Proofs.Ytbadjfnelpfhcaa
open Go.RowKit

set_option maxHeartbeats 6400000 in
set_option maxRecDepth 100000 in
theorem spColumnOf_any (p i : Int) (dv av vv : Value) (ds : List (List Int)) (ac dn : List (List (List (List Int)))) (w : World) (h : Dx 0 w dv av vv ds ac dn) (hbd : Bd2 1048576 ds) (hba : Bd4 1048576 ac) (hbv : Bd4 1048576 dn) :
    Calls Try.prog 25 #[.agg #[.int .i64 p, dv, av, vv], .int .i64 i] w (AnsS RsC (fun o => o = clO p ds dn i) (0, [], []) (clCode p ds ac dn i) w) := by
  have hres : Try.f25.results = #[.cell 4 40, .tmp 5] := by kernel_rfl
  have HRES := Lib.hid hres
  obtain ⟨w0, hw0⟩ : ∃ w0, w0 = (w.alloc (.cells #[.int .i64 p, dv, av, vv] 28)).alloc (.cells #[.int .i64 0, .slice none 0 0, .slice none 0 0] 40) := ⟨_, rfl⟩
  have HX0 : Hid (DBx w w0 w.heap.size p dv av vv ds ac dn) := Lib.hid (by rw [hw0]; exact (DBx.start 28 h).next (below_alloc1 _ _))
  have HS0 : Hid (w.heap.size + 1 < w0.heap.size) := Lib.hid (by rw [hw0]; simp)
  have HR0 : Hid (w0.heap[w.heap.size + 1]? = some (.cells #[.int .i64 0, .slice none 0 0, .slice none 0 0] 40)) := Lib.hid (by rw [hw0]; have := heap_alloc_new (w.alloc (.cells #[.int .i64 p, dv, av, vv] 28)) (.cells #[.int .i64 0, .slice none 0 0, .slice none 0 0] 40); simpa using this)
  have HID := Lib.hid (l03Is_any p dv av vv ds ac dn w0 HX0.out.dx hbd hba hbv)
  have c0 := HX0.out.c0
  have c1 := HX0.out.c1
  have c2 := HX0.out.c2
  have c3 := HX0.out.c3
  have hbl : ds.length ≤ 1048576 := hbd.1
  obtain ⟨cc, hcc⟩ : ∃ cc, cc = clCode p ds ac dn i := ⟨_, rfl⟩
  have HCC := Lib.hid hcc
  rw [← hcc]
  clear hres h hbd hba hbv hcc
  go_enter Try.func25, Try.ntmps25
  go_upto_region 1 with fail
  rw [← hw0]
  clear hw0
  go_wp2_with fail
  refine HID.out.mono ?_
  rintro e w1 ⟨bb, rfl, hb1, hbb⟩
  have HX1 := Lib.hid (HX0.out.next hb1)
  have HBB := Lib.hid hbb
  have HS1 : Hid (w.heap.size + 1 < w1.heap.size) := Lib.hid (by have := HS0.out; have := hb1.size; omega)
  have HR1 : Hid (w1.heap[w.heap.size + 1]? = some (.cells #[.int .i64 0, .slice none 0 0, .slice none 0 0] 40)) := Lib.hid ((hb1.block (w.heap.size + 1) HS0.out).trans HR0.out)
  have HRX : Hid (∃ x y z, w1.heap[w.heap.size + 1]? = some (.cells #[x, y, z] 40)) := Lib.hid ⟨_, _, _, HR1.out⟩
  clear hb1 hbb c0 c1 c2 c3 HID HR0 HX0 HS0
  cases bb with
  | false =>
    have hno : ¬ IsDb p ds ac dn := fun h => by have := HBB.out.2 h; cases this
    obtain rfl : cc = 1 := HCC.out.trans (clCode_1 hno)
    clear hno
    obtain ⟨x, y, z, hr⟩ := HRX.out
    have hrow : w1.rowIs (w.heap.size + 1) 40 3 (sel3 x y z) := rowIs3 hr
    have q0 : w1.cell? ⟨w.heap.size + 1, 0, none⟩ = some x := hrow.cell (i := 0) (by omega)
    have z0 : w1.frozen? ⟨w.heap.size + 1, 0, none⟩ = false := hrow.frozen 0
    have r1 := hrow.set 0 (.int .i64 0)
    have q1 : (w1.setCell ⟨w.heap.size + 1, 0, none⟩ (.int .i64 0)).cell? ⟨w.heap.size + 1, 1, none⟩ = some y := r1.cell (i := 1) (by omega)
    have z1 : (w1.setCell ⟨w.heap.size + 1, 0, none⟩ (.int .i64 0)).frozen? ⟨w.heap.size + 1, 1, none⟩ = false := r1.frozen 1
    have r2 := r1.set 1 (.slice none 0 0)
    have q2 : ((w1.setCell ⟨w.heap.size + 1, 0, none⟩ (.int .i64 0)).setCell ⟨w.heap.size + 1, 1, none⟩ (.slice none 0 0)).cell? ⟨w.heap.size + 1, 2, none⟩ = some z := r2.cell (i := 2) (by omega)
    have z2 : ((w1.setCell ⟨w.heap.size + 1, 0, none⟩ (.int .i64 0)).setCell ⟨w.heap.size + 1, 1, none⟩ (.slice none 0 0)).frozen? ⟨w.heap.size + 1, 2, none⟩ = false := r2.frozen 2
    have r3 := r2.set 2 (.slice none 0 0)
    obtain ⟨WF, hWF⟩ : ∃ W : World, W = (((w1.setCell ⟨w.heap.size + 1, 0, none⟩ (.int .i64 0)).setCell ⟨w.heap.size + 1, 1, none⟩ (.slice none 0 0)).setCell ⟨w.heap.size + 1, 2, none⟩ (.slice none 0 0)) := ⟨_, rfl⟩
    have hsF : WF.heap.size = w1.heap.size := by rw [hWF]; simp
    have hkF : ∀ lo hi, w.heap.size + 1 < lo → Same lo hi w1 WF := fun lo hi hl => by rw [hWF]; exact ((Same.set _ (Or.inl hl)).trans (Same.set _ (Or.inl hl))).trans (Same.set _ (Or.inl hl))
    have HB : Hid (Below w.heap.size w WF) := Lib.hid (by
      rw [hWF]
      exact (((HX1.out.below).setCell (by show w.heap.size ≤ w.heap.size + 1; omega) _).setCell (by show w.heap.size ≤ w.heap.size + 1; omega) _).setCell (by show w.heap.size ≤ w.heap.size + 1; omega) _)
    rw [← hWF] at r3
    have f0 : WF.cell? ⟨w.heap.size + 1, 0, none⟩ = some (.int .i64 0) := r3.cell (i := 0) (by omega)
    have f1 : WF.cell? ⟨w.heap.size + 1, 1, none⟩ = some (.slice none 0 0) := r3.cell (i := 1) (by omega)
    have f2 : WF.cell? ⟨w.heap.size + 1, 2, none⟩ = some (.slice none 0 0) := r3.cell (i := 2) (by omega)
    have HWF := Lib.hid hWF
    clear hr hrow r1 r2 r3 hWF
    go_wp2
    rw [← HWF.out]
    refine bodyPost_ret (v := .tuple #[.agg #[.int .i64 0, .slice none 0 0, .slice none 0 0], .int .i64 1]) ?_ rfl ?_
    · simp only [results, HRES.out]
      go_simp
    · exact ⟨_, (0, [], []), 1, rfl, RsC.nil _, HB.out, RsOut.of_no (by decide)⟩
  | true =>
    have HDB : Hid (IsDb p ds ac dn) := Lib.hid (HBB.out.1 rfl)
    have HOK := Lib.hid HDB.out.cel
    have hl4 := HOK.out.len1
    obtain ⟨m, hm⟩ : ∃ m, m = ds.length := ⟨_, rfl⟩
    have HM := Lib.hid hm
    obtain ⟨ad9, cd9, hdv⟩ := Sl.shape HX1.out.dx.dims
    rw [← hm] at hdv hl4
    have c1 := HX1.out.c1
    rw [hdv] at c1
    have HDV := Lib.hid hdv
    have hwm : IntKind.i64.wrap ((m : Int) - 1) = (m : Int) - 1 := IntWalk.i64_in _ (by omega)
    clear HBB hm hbl hdv
    by_cases hin : 0 ≤ i ∧ i ≤ (m : Int) - 1
    · have HSI : Hid (∀ W, Calls Try.prog 70 #[.int .i64 i, .int .i64 0, .int .i64 ((m : Int) - 1)] W (QW (.bool true) W)) := Lib.hid (fun W => spin_yes hin W)
      obtain rfl : cc = 0 := HCC.out.trans (clCode_0 HDB.out (by have := HM.out; omega))
      obtain ⟨k0, rfl⟩ := Int.eq_ofNat_of_zero_le hin.1
      have hkm : k0 < m := by omega
      have hkd : k0 < ds.length := by have := HM.out; omega
      have HKD := Lib.hid hkd
      have HTB := Lib.hid HDB.out.tbs
      have hkn : k0 < dn.length := by have := HTB.out.ld; omega
      have HSZ := Lib.hid (cl_sz HOK.out HTB.out hkd)
      have HBDC := Lib.hid (cl_bd HOK.out HTB.out hkd)
      have hml0 := cl_mlen HOK.out HTB.out hkd
      have hd6 := HSZ.out.len1
      obtain ⟨DS, hDS⟩ : ∃ x, x = clD ds k0 := ⟨_, rfl⟩
      obtain ⟨MS, hMS⟩ : ∃ x, x = clM dn k0 := ⟨_, rfl⟩
      obtain ⟨nd, hnd⟩ : ∃ nd, nd = DS.length := ⟨_, rfl⟩
      have HND := Lib.hid hnd
      have hml : MS.length + 1 = nd := by rw [hnd, hMS, hDS]; exact hml0
      have hdn : nd ≤ 6 := by rw [hnd, hDS]; exact hd6
      -- the cells
      have hdims := HX1.out.dx.dims
      rw [HDV.out] at hdims
      rcases hdims with ⟨hx, _⟩ | ⟨b, o, c2', hv, _, _, hcl⟩
      · exact absurd (hx ▸ hkd) (Nat.not_lt_zero _)
      injection hv with e1 e2 e3
      subst e1 e3
      rcases HX1.out.dx.down with ⟨hx, _⟩ | ⟨bd, od, cd', hvv, _, _, hcld⟩
      · exact absurd (hx ▸ hkn) (Nat.not_lt_zero _)
      obtain ⟨ur, hur, hrr⟩ := hcl k0 hkd
      obtain ⟨ud, hud, hrd⟩ := hcld k0 hkn
      have hrr' : L1 0 w1 ur DS := by rw [hDS]; unfold clD; rw [getD_of_lt _ hkd]; exact hrr
      obtain ⟨ad0, cd0, hus⟩ := Sl.shape hrr'
      rw [← hnd] at hus
      subst hus
      have hqd : (dn[k0]).length = nd := by have h1 := HTB.out.cd k0 hkd; rw [getD_of_lt _ hkn] at h1; rw [h1, hnd, hDS]; rfl
      rcases hrd with ⟨hx, _⟩ | ⟨b3, o3, c3, hud3, _, _, hcl3⟩
      · rw [hx] at hqd; simp at hqd; omega
      rw [hqd] at hud3
      subst hud3
      obtain ⟨md, hmd⟩ : ∃ m, m = dn.length := ⟨_, rfl⟩
      rw [← hmd] at hvv hkn
      have HVV := Lib.hid hvv
      have HHX : Hid (∀ W, Below w1.heap.size w1 W → W.cell? ⟨w.heap.size, 0, none⟩ = some (.int .i64 p) ∧ W.cell? ⟨w.heap.size, 1, none⟩ = some (.slice (some ⟨b, o, none⟩) m cd9) ∧ W.cell? ⟨w.heap.size, 3, none⟩ = some (.slice (some ⟨bd, od, none⟩) md cd')) := Lib.hid (fun W hb => let h := HX1.out.next hb; ⟨h.c0, h.c1.trans (by rw [HDV.out]), h.c3.trans (by rw [HVV.out])⟩)
      have HUR : Hid (∀ W, Below w1.heap.size w1 W → W.cell? ⟨b, o + k0, none⟩ = some (.slice ad0 nd cd0) ∧ W.cell? ⟨bd, od + k0, none⟩ = some (.slice (some ⟨b3, o3, none⟩) nd c3) ∧ L1 0 W (.slice ad0 nd cd0) DS) := Lib.hid (fun W hb => ⟨later hb (Nat.le_refl _) hur, later hb (Nat.le_refl _) hud, hrr'.below hb⟩)
      have HTBL : Hid (∀ k, k < MS.length → ∃ ut, w1.cell? ⟨b3, o3 + (k + 1), none⟩ = some ut ∧ L2 0 w1 ut (MS.getD k [])) := Lib.hid (fun k hk => by
        have hk1 : k + 1 < (dn[k0]).length := by omega
        obtain ⟨ut, h1, h2⟩ := hcl3 (k + 1) hk1
        refine ⟨ut, h1, ?_⟩
        rw [hMS, clM_at, getD_of_lt _ (by omega : k0 < dn.length), getD_of_lt _ hk1]
        exact h2)
      have HRZ : Hid (∀ W, Below w1.heap.size w1 W → W.heap[w.heap.size + 1]? = some (.cells #[.int .i64 0, .slice none 0 0, .slice none 0 0] 40)) := Lib.hid (fun W hb => (hb.block _ HS1.out).trans HR1.out)
      have HBX : Hid (∀ W, Below w1.heap.size w1 W → Below w.heap.size w W) := Lib.hid (fun W hb => (HX1.out.next hb).below)
      have HMM : Hid (∀ k, k < MS.length → (MS.getD k []).length ≤ 1048576 ∧ ∀ x ∈ MS.getD k [], x.length ≤ 1048576) := Lib.hid (fun k hk => by rw [getD_of_lt _ hk]; exact HBDC.out.2.2 _ (by show MS[k] ∈ clM dn k0; rw [← hMS]; exact List.getElem_mem hk))
      have HDS := Lib.hid hDS
      have HMS := Lib.hid hMS
      have hf0 : w1.cell? ⟨b, o + k0, none⟩ = some (.slice ad0 nd cd0) := hur
      clear hcl hcld hcl3 hrr hrr' hur hud hqd hmd hvv hnd hDS hMS hml0 hd6 hkd e2 hwm
      have hwm : IntKind.i64.wrap ((m : Int) - 1) = (m : Int) - 1 := IntWalk.i64_in _ (by omega)
      go_wp2_with fail
      refine (HSI.out _).mono ?_
      rintro e w' ⟨rfl, rfl⟩
      clear HSI hwm hin c1 hf0
      go_upto_region 5 with fail
      go_cut [6] from 22 to 31 (fun s3 wz => ∃ (bo bm cq : Nat) (aq : Option Addr), s3 = .pointer (some ⟨bo, 0, none⟩) ∧ Hid (Sq w1 wz bo p (.slice aq nd cq) (.slice (some ⟨bm, 0, none⟩) 0 0) DS 0 (fun _ => undef) (fun _ => []) (fun l => MS.getD l [])))
      case first =>
        refine wp_region_held (S := fun W => Below (w1.heap.size) w1 W) (by kernel_rfl) ?_
        have S0 : Below (w1.heap.size) w1 w1.drew := (Below.refl _ _).drew
        have hB0 : w1.heap.size ≤ w1.heap.size := Nat.le_refl _
        have hsd : w1.heap.size ≤ w1.drew.heap.size := Nat.le_refl _
        have hbd : Below w1.heap.size w1 w1.drew := (Below.refl _ _).drew
        change wpAnyH _ _ _ _ _ _ _ _ w1.drew
        obtain ⟨wd, hwd⟩ : ∃ wd, wd = w1.drew := ⟨_, rfl⟩
        rw [← hwd] at S0 hsd hbd ⊢
        clear hwd
        refine held_take (i := 0) (v := .pointer (some ⟨w.heap.size, 0, none⟩)) (some 22) rfl rfl (by kernel_rfl) (by kernel_rfl) (by kernel_rfl) (fun _ _ _ h => h) (yieldsIf_run (by kernel_rfl) (fun W _ => by kernel_rfl)) S0 ?_
        refine held_take (i := 1) (v := .int .i64 p) (some 23) rfl rfl (by kernel_rfl) (by kernel_rfl) (by kernel_rfl) (fun _ _ _ h => h) (yieldsIf_cell (by kernel_rfl) rfl (by kernel_rfl) (fun W h => hload W (HHX.out W h).1)) S0 ?_
        refine held_take (i := 2) (v := .pointer (some ⟨w.heap.size, 1, none⟩)) (some 24) rfl rfl (by kernel_rfl) (by kernel_rfl) (by kernel_rfl) (fun _ _ _ h => h) (yieldsIf_run (by kernel_rfl) (fun W _ => by kernel_rfl)) S0 ?_
        refine held_take (i := 3) (v := .slice (some ⟨b, o, none⟩) m cd9) (some 25) rfl rfl (by kernel_rfl) (by kernel_rfl) (by kernel_rfl) (fun _ _ _ h => h) (yieldsIf_cell (by kernel_rfl) rfl (by kernel_rfl) (fun W h => hload2s W (HHX.out W h).2.1)) S0 ?_
        refine held_take (i := 4) (v := .int .i64 (k0 : Int)) (some 26) rfl rfl (by kernel_rfl) (by kernel_rfl) (by kernel_rfl) (fun _ _ _ h => h) (yieldsIf_move (by kernel_rfl) rfl (by kernel_rfl)) S0 ?_
        refine held_take (i := 5) (v := .pointer (some ⟨b, o + k0, none⟩)) (some 27) rfl rfl (by kernel_rfl) (by kernel_rfl) (by kernel_rfl) (fun _ _ _ h => h) (yieldsIf_index (by kernel_rfl) rfl (by kernel_rfl) (by kernel_rfl) (hidx2s b o cd9 hkm)) S0 ?_
        refine held_take (i := 6) (v := (.slice ad0 nd cd0)) (some 28) rfl rfl (by kernel_rfl) (by kernel_rfl) (by kernel_rfl) (fun _ _ _ h => h) (yieldsIf_cell (by kernel_rfl) rfl (by kernel_rfl) (fun W h => hload1s W (HUR.out W h).1)) S0 ?_
        refine held_three (i := 7) (j := 8) (l := 10) (by kernel_rfl) ?_ ?_ ?_
        · refine op_enter (i := 7) (some 29) (f := 71) (args := #[(.slice ad0 nd cd0)]) rfl rfl rfl (by kernel_rfl) (l01Own_any _ DS wd (HUR.out wd S0).2.2 (by have := HND.out; omega)) ?_ (fun c w' h => by obtain ⟨_, h, _⟩ := h; cases h) (fun w' h => by obtain ⟨_, h, _⟩ := h; cases h)
          rintro ee W1 ⟨u1, he, hu1, hb1⟩
          injection he with he
          subst he
          obtain ⟨a1, c1, hv⟩ := Sl.shape hu1.l1
          rw [← HND.out] at hv
          subst hv
          have S1 : Below (w1.heap.size) w1 W1 := S0.trans (hb1.mono (Nat.le_trans hB0 S0.size))
          have hud1 := hu1.mono (Nat.le_trans hB0 S0.size)
          refine ⟨S1, ?_⟩
          refine held_two (i := 8) (j := 10) (by kernel_rfl) ?_ ?_
          · obtain ⟨W2, hW2⟩ : ∃ W', W' = W1.alloc (.cells #[] 22) := ⟨_, rfl⟩
            have hb2 : Below W1.heap.size W1 W2 := by rw [hW2]; exact below_alloc1 _ _
            have hAm2 : Rz W2 W1.heap.size 22 #[] := by rw [hW2]; exact Rz.new _ _ _
            have S2 : Below (w1.heap.size) w1 W2 := S1.trans (hb2.mono (Nat.le_trans hB0 S1.size))
            have hGm : w1.heap.size ≤ W1.heap.size := Nat.le_trans hB0 S1.size
            have hue2 := hud1.below hb2
            refine op_mem (i := 8) (v := .slice (some ⟨W1.heap.size, 0, none⟩) 0 0) (w' := W2) (some 30) rfl rfl rfl (by rw [hW2]; go_simp) ?_
            refine ⟨S2, ?_⟩
            refine held_take (i := 9) (v := .agg #[.int .i64 p, .slice a1 nd c1, .slice (some ⟨W1.heap.size, 0, none⟩) 0 0]) (some 31) rfl rfl (by kernel_rfl) (by kernel_rfl) (by kernel_rfl) (fun _ _ _ h => h) (yieldsIf_run (by kernel_rfl) (fun W _ => by kernel_rfl)) S2 ?_
            refine held_one (i := 10) (by kernel_rfl) ?_
            · obtain ⟨W3, hW3⟩ : ∃ W', W' = W2.alloc (.cells #[.int .i64 0, .slice none 0 0, .slice none 0 0] 40) := ⟨_, rfl⟩
              have hb3 : Below W2.heap.size W2 W3 := by rw [hW3]; exact below_alloc1 _ _
              have hAg3 : Rz W3 W2.heap.size 40 #[.int .i64 0, .slice none 0 0, .slice none 0 0] := by rw [hW3]; exact Rz.new _ _ _
              have S3 : Below (w1.heap.size) w1 W3 := S2.trans (hb3.mono (Nat.le_trans hB0 S2.size))
              have hGg : w1.heap.size ≤ W2.heap.size := Nat.le_trans hB0 S2.size
              have hne : W1.heap.size ≠ W2.heap.size := Nat.ne_of_lt hAm2.lt
              have hAm3 := hAm2.next hb3
              have hue3 := hue2.below hb3
              refine op_mem (i := 10) (v := .pointer (some ⟨W2.heap.size, 0, none⟩)) (w' := W3) (some 6) rfl rfl rfl (by rw [hW3]; go_simp) ?_
              refine ⟨S3, ?_⟩
              have hdF := gb_offRowC hue3 hAg3 #[.int .i64 p, .slice a1 nd c1, .slice (some ⟨W1.heap.size, 0, none⟩) 0 0]
              have S4 : Below (w1.heap.size) w1 (W3.setRow (W2.heap.size) #[.int .i64 p, .slice a1 nd c1, .slice (some ⟨W1.heap.size, 0, none⟩) 0 0]) := below_setRow S3 hGg _
              refine held_one (i := 11) (by kernel_rfl) ?_
              refine op_row (i := 11) rfl rfl rfl 40 (.tmp 6) (.tmp 31) rfl (W2.heap.size) #[.int .i64 p, .slice a1 nd c1, .slice (some ⟨W1.heap.size, 0, none⟩) 0 0] (by kernel_rfl) (by kernel_rfl) 40 _ hAg3 (infoCo _ _ _) (by kernel_rfl) (by kernel_rfl) ?_
              refine ⟨S4, ?_⟩
              have hAm4 := hAm3.off (by first | exact hne | exact hne.symm) #[.int .i64 p, .slice a1 nd c1, .slice (some ⟨W1.heap.size, 0, none⟩) 0 0]
              have hAg4 := hAg3.set #[.int .i64 p, .slice a1 nd c1, .slice (some ⟨W1.heap.size, 0, none⟩) 0 0]
              refine wpAnyH_done (by kernel_rfl) ?_ _
              simp only [Act.put, List.setIfInBounds_toArray, List.set_cons_zero, List.set_cons_succ]
              go_wp2
              go_meet
              exact ⟨W2.heap.size, W1.heap.size, c1, a1, rfl, Lib.hid ⟨S4, hGg, rowIs3 hAg4, ⟨hdF, gtq_nil hAm4 hGm _ _ _, fun k hk => absurd hk (Nat.not_lt_zero _)⟩⟩⟩
          · obtain ⟨W5, hW5⟩ : ∃ W', W' = W1.alloc (.cells #[.int .i64 0, .slice none 0 0, .slice none 0 0] 40) := ⟨_, rfl⟩
            have hb5 : Below W1.heap.size W1 W5 := by rw [hW5]; exact below_alloc1 _ _
            have hAg5 : Rz W5 W1.heap.size 40 #[.int .i64 0, .slice none 0 0, .slice none 0 0] := by rw [hW5]; exact Rz.new _ _ _
            have S5 : Below (w1.heap.size) w1 W5 := S1.trans (hb5.mono (Nat.le_trans hB0 S1.size))
            have hGg : w1.heap.size ≤ W1.heap.size := Nat.le_trans hB0 S1.size
            have hue5 := hud1.below hb5
            refine op_mem (i := 10) (v := .pointer (some ⟨W1.heap.size, 0, none⟩)) (w' := W5) (some 6) rfl rfl rfl (by rw [hW5]; go_simp) ?_
            refine ⟨S5, ?_⟩
            refine held_one (i := 8) (by kernel_rfl) ?_
            · obtain ⟨W6, hW6⟩ : ∃ W', W' = W5.alloc (.cells #[] 22) := ⟨_, rfl⟩
              have hb6 : Below W5.heap.size W5 W6 := by rw [hW6]; exact below_alloc1 _ _
              have hAm6 : Rz W6 W5.heap.size 22 #[] := by rw [hW6]; exact Rz.new _ _ _
              have S6 : Below (w1.heap.size) w1 W6 := S5.trans (hb6.mono (Nat.le_trans hB0 S5.size))
              have hGm : w1.heap.size ≤ W5.heap.size := Nat.le_trans hB0 S5.size
              have hne : W1.heap.size ≠ W5.heap.size := Nat.ne_of_lt hAg5.lt
              have hAg6 := hAg5.next hb6
              have hue6 := hue5.below hb6
              refine op_mem (i := 8) (v := .slice (some ⟨W5.heap.size, 0, none⟩) 0 0) (w' := W6) (some 30) rfl rfl rfl (by rw [hW6]; go_simp) ?_
              refine ⟨S6, ?_⟩
              refine held_take (i := 9) (v := .agg #[.int .i64 p, .slice a1 nd c1, .slice (some ⟨W5.heap.size, 0, none⟩) 0 0]) (some 31) rfl rfl (by kernel_rfl) (by kernel_rfl) (by kernel_rfl) (fun _ _ _ h => h) (yieldsIf_run (by kernel_rfl) (fun W _ => by kernel_rfl)) S6 ?_
              have hdF := gb_offRowC hue6 hAg6 #[.int .i64 p, .slice a1 nd c1, .slice (some ⟨W5.heap.size, 0, none⟩) 0 0]
              have S7 : Below (w1.heap.size) w1 (W6.setRow (W1.heap.size) #[.int .i64 p, .slice a1 nd c1, .slice (some ⟨W5.heap.size, 0, none⟩) 0 0]) := below_setRow S6 hGg _
              refine held_one (i := 11) (by kernel_rfl) ?_
              refine op_row (i := 11) rfl rfl rfl 40 (.tmp 6) (.tmp 31) rfl (W1.heap.size) #[.int .i64 p, .slice a1 nd c1, .slice (some ⟨W5.heap.size, 0, none⟩) 0 0] (by kernel_rfl) (by kernel_rfl) 40 _ hAg6 (infoCo _ _ _) (by kernel_rfl) (by kernel_rfl) ?_
              refine ⟨S7, ?_⟩
              have hAg7 := hAg6.set #[.int .i64 p, .slice a1 nd c1, .slice (some ⟨W5.heap.size, 0, none⟩) 0 0]
              have hAm7 := hAm6.off (by first | exact hne | exact hne.symm) #[.int .i64 p, .slice a1 nd c1, .slice (some ⟨W5.heap.size, 0, none⟩) 0 0]
              refine wpAnyH_done (by kernel_rfl) ?_ _
              simp only [Act.put, List.setIfInBounds_toArray, List.set_cons_zero, List.set_cons_succ]
              go_wp2
              go_meet
              exact ⟨W1.heap.size, W5.heap.size, c1, a1, rfl, Lib.hid ⟨S7, hGg, rowIs3 hAg7, ⟨hdF, gtq_nil hAm7 hGm _ _ _, fun k hk => absurd hk (Nat.not_lt_zero _)⟩⟩⟩
        · obtain ⟨W8, hW8⟩ : ∃ W', W' = wd.alloc (.cells #[] 22) := ⟨_, rfl⟩
          have hb8 : Below wd.heap.size wd W8 := by rw [hW8]; exact below_alloc1 _ _
          have hAm8 : Rz W8 wd.heap.size 22 #[] := by rw [hW8]; exact Rz.new _ _ _
          have S8 : Below (w1.heap.size) w1 W8 := S0.trans (hb8.mono (Nat.le_trans hB0 S0.size))
          have hGm : w1.heap.size ≤ wd.heap.size := Nat.le_trans hB0 S0.size
          refine op_mem (i := 8) (v := .slice (some ⟨wd.heap.size, 0, none⟩) 0 0) (w' := W8) (some 30) rfl rfl rfl (by rw [hW8]; go_simp) ?_
          refine ⟨S8, ?_⟩
          refine held_two (i := 7) (j := 10) (by kernel_rfl) ?_ ?_
          · refine op_enter (i := 7) (some 29) (f := 71) (args := #[(.slice ad0 nd cd0)]) rfl rfl rfl (by kernel_rfl) (l01Own_any _ DS W8 (HUR.out W8 S8).2.2 (by have := HND.out; omega)) ?_ (fun c w' h => by obtain ⟨_, h, _⟩ := h; cases h) (fun w' h => by obtain ⟨_, h, _⟩ := h; cases h)
            rintro ee W9 ⟨u9, he, hu9, hb9⟩
            injection he with he
            subst he
            obtain ⟨a9, c9, hv⟩ := Sl.shape hu9.l1
            rw [← HND.out] at hv
            subst hv
            have S9 : Below (w1.heap.size) w1 W9 := S8.trans (hb9.mono (Nat.le_trans hB0 S8.size))
            have hAm9 := hAm8.next hb9
            have hud9 := hu9.mono (Nat.le_trans hB0 S8.size)
            refine ⟨S9, ?_⟩
            refine held_take (i := 9) (v := .agg #[.int .i64 p, .slice a9 nd c9, .slice (some ⟨wd.heap.size, 0, none⟩) 0 0]) (some 31) rfl rfl (by kernel_rfl) (by kernel_rfl) (by kernel_rfl) (fun _ _ _ h => h) (yieldsIf_run (by kernel_rfl) (fun W _ => by kernel_rfl)) S9 ?_
            refine held_one (i := 10) (by kernel_rfl) ?_
            · obtain ⟨W10, hW10⟩ : ∃ W', W' = W9.alloc (.cells #[.int .i64 0, .slice none 0 0, .slice none 0 0] 40) := ⟨_, rfl⟩
              have hb10 : Below W9.heap.size W9 W10 := by rw [hW10]; exact below_alloc1 _ _
              have hAg10 : Rz W10 W9.heap.size 40 #[.int .i64 0, .slice none 0 0, .slice none 0 0] := by rw [hW10]; exact Rz.new _ _ _
              have S10 : Below (w1.heap.size) w1 W10 := S9.trans (hb10.mono (Nat.le_trans hB0 S9.size))
              have hGg : w1.heap.size ≤ W9.heap.size := Nat.le_trans hB0 S9.size
              have hne : wd.heap.size ≠ W9.heap.size := Nat.ne_of_lt hAm9.lt
              have hAm10 := hAm9.next hb10
              have hue10 := hud9.below hb10
              refine op_mem (i := 10) (v := .pointer (some ⟨W9.heap.size, 0, none⟩)) (w' := W10) (some 6) rfl rfl rfl (by rw [hW10]; go_simp) ?_
              refine ⟨S10, ?_⟩
              have hdF := gb_offRowC hue10 hAg10 #[.int .i64 p, .slice a9 nd c9, .slice (some ⟨wd.heap.size, 0, none⟩) 0 0]
              have S11 : Below (w1.heap.size) w1 (W10.setRow (W9.heap.size) #[.int .i64 p, .slice a9 nd c9, .slice (some ⟨wd.heap.size, 0, none⟩) 0 0]) := below_setRow S10 hGg _
              refine held_one (i := 11) (by kernel_rfl) ?_
              refine op_row (i := 11) rfl rfl rfl 40 (.tmp 6) (.tmp 31) rfl (W9.heap.size) #[.int .i64 p, .slice a9 nd c9, .slice (some ⟨wd.heap.size, 0, none⟩) 0 0] (by kernel_rfl) (by kernel_rfl) 40 _ hAg10 (infoCo _ _ _) (by kernel_rfl) (by kernel_rfl) ?_
              refine ⟨S11, ?_⟩
              have hAm11 := hAm10.off (by first | exact hne | exact hne.symm) #[.int .i64 p, .slice a9 nd c9, .slice (some ⟨wd.heap.size, 0, none⟩) 0 0]
              have hAg11 := hAg10.set #[.int .i64 p, .slice a9 nd c9, .slice (some ⟨wd.heap.size, 0, none⟩) 0 0]
              refine wpAnyH_done (by kernel_rfl) ?_ _
              simp only [Act.put, List.setIfInBounds_toArray, List.set_cons_zero, List.set_cons_succ]
              go_wp2
              go_meet
              exact ⟨W9.heap.size, wd.heap.size, c9, a9, rfl, Lib.hid ⟨S11, hGg, rowIs3 hAg11, ⟨hdF, gtq_nil hAm11 hGm _ _ _, fun k hk => absurd hk (Nat.not_lt_zero _)⟩⟩⟩
          · obtain ⟨W12, hW12⟩ : ∃ W', W' = W8.alloc (.cells #[.int .i64 0, .slice none 0 0, .slice none 0 0] 40) := ⟨_, rfl⟩
            have hb12 : Below W8.heap.size W8 W12 := by rw [hW12]; exact below_alloc1 _ _
            have hAg12 : Rz W12 W8.heap.size 40 #[.int .i64 0, .slice none 0 0, .slice none 0 0] := by rw [hW12]; exact Rz.new _ _ _
            have S12 : Below (w1.heap.size) w1 W12 := S8.trans (hb12.mono (Nat.le_trans hB0 S8.size))
            have hGg : w1.heap.size ≤ W8.heap.size := Nat.le_trans hB0 S8.size
            have hne : wd.heap.size ≠ W8.heap.size := Nat.ne_of_lt hAm8.lt
            have hAm12 := hAm8.next hb12
            refine op_mem (i := 10) (v := .pointer (some ⟨W8.heap.size, 0, none⟩)) (w' := W12) (some 6) rfl rfl rfl (by rw [hW12]; go_simp) ?_
            refine ⟨S12, ?_⟩
            refine held_one (i := 7) (by kernel_rfl) ?_
            · refine op_enter (i := 7) (some 29) (f := 71) (args := #[(.slice ad0 nd cd0)]) rfl rfl rfl (by kernel_rfl) (l01Own_any _ DS W12 (HUR.out W12 S12).2.2 (by have := HND.out; omega)) ?_ (fun c w' h => by obtain ⟨_, h, _⟩ := h; cases h) (fun w' h => by obtain ⟨_, h, _⟩ := h; cases h)
              rintro ee W13 ⟨u13, he, hu13, hb13⟩
              injection he with he
              subst he
              obtain ⟨a13, c13, hv⟩ := Sl.shape hu13.l1
              rw [← HND.out] at hv
              subst hv
              have S13 : Below (w1.heap.size) w1 W13 := S12.trans (hb13.mono (Nat.le_trans hB0 S12.size))
              have hAm13 := hAm12.next hb13
              have hAg13 := hAg12.next hb13
              have hud13 := hu13.mono (Nat.le_trans hB0 S12.size)
              refine ⟨S13, ?_⟩
              refine held_take (i := 9) (v := .agg #[.int .i64 p, .slice a13 nd c13, .slice (some ⟨wd.heap.size, 0, none⟩) 0 0]) (some 31) rfl rfl (by kernel_rfl) (by kernel_rfl) (by kernel_rfl) (fun _ _ _ h => h) (yieldsIf_run (by kernel_rfl) (fun W _ => by kernel_rfl)) S13 ?_
              have hdF := gb_offRowC hud13 hAg13 #[.int .i64 p, .slice a13 nd c13, .slice (some ⟨wd.heap.size, 0, none⟩) 0 0]
              have S14 : Below (w1.heap.size) w1 (W13.setRow (W8.heap.size) #[.int .i64 p, .slice a13 nd c13, .slice (some ⟨wd.heap.size, 0, none⟩) 0 0]) := below_setRow S13 hGg _
              refine held_one (i := 11) (by kernel_rfl) ?_
              refine op_row (i := 11) rfl rfl rfl 40 (.tmp 6) (.tmp 31) rfl (W8.heap.size) #[.int .i64 p, .slice a13 nd c13, .slice (some ⟨wd.heap.size, 0, none⟩) 0 0] (by kernel_rfl) (by kernel_rfl) 40 _ hAg13 (infoCo _ _ _) (by kernel_rfl) (by kernel_rfl) ?_
              refine ⟨S14, ?_⟩
              have hAm14 := hAm13.off (by first | exact hne | exact hne.symm) #[.int .i64 p, .slice a13 nd c13, .slice (some ⟨wd.heap.size, 0, none⟩) 0 0]
              have hAg14 := hAg13.set #[.int .i64 p, .slice a13 nd c13, .slice (some ⟨wd.heap.size, 0, none⟩) 0 0]
              refine wpAnyH_done (by kernel_rfl) ?_ _
              simp only [Act.put, List.setIfInBounds_toArray, List.set_cons_zero, List.set_cons_succ]
              go_wp2
              go_meet
              exact ⟨W8.heap.size, wd.heap.size, c13, a13, rfl, Lib.hid ⟨S14, hGg, rowIs3 hAg14, ⟨hdF, gtq_nil hAm14 hGm _ _ _, fun k hk => absurd hk (Nat.not_lt_zero _)⟩⟩⟩
        · obtain ⟨W15, hW15⟩ : ∃ W', W' = wd.alloc (.cells #[.int .i64 0, .slice none 0 0, .slice none 0 0] 40) := ⟨_, rfl⟩
          have hb15 : Below wd.heap.size wd W15 := by rw [hW15]; exact below_alloc1 _ _
          have hAg15 : Rz W15 wd.heap.size 40 #[.int .i64 0, .slice none 0 0, .slice none 0 0] := by rw [hW15]; exact Rz.new _ _ _
          have S15 : Below (w1.heap.size) w1 W15 := S0.trans (hb15.mono (Nat.le_trans hB0 S0.size))
          have hGg : w1.heap.size ≤ wd.heap.size := Nat.le_trans hB0 S0.size
          refine op_mem (i := 10) (v := .pointer (some ⟨wd.heap.size, 0, none⟩)) (w' := W15) (some 6) rfl rfl rfl (by rw [hW15]; go_simp) ?_
          refine ⟨S15, ?_⟩
          refine held_two (i := 7) (j := 8) (by kernel_rfl) ?_ ?_
          · refine op_enter (i := 7) (some 29) (f := 71) (args := #[(.slice ad0 nd cd0)]) rfl rfl rfl (by kernel_rfl) (l01Own_any _ DS W15 (HUR.out W15 S15).2.2 (by have := HND.out; omega)) ?_ (fun c w' h => by obtain ⟨_, h, _⟩ := h; cases h) (fun w' h => by obtain ⟨_, h, _⟩ := h; cases h)
            rintro ee W16 ⟨u16, he, hu16, hb16⟩
            injection he with he
            subst he
            obtain ⟨a16, c16, hv⟩ := Sl.shape hu16.l1
            rw [← HND.out] at hv
            subst hv
            have S16 : Below (w1.heap.size) w1 W16 := S15.trans (hb16.mono (Nat.le_trans hB0 S15.size))
            have hAg16 := hAg15.next hb16
            have hud16 := hu16.mono (Nat.le_trans hB0 S15.size)
            refine ⟨S16, ?_⟩
            refine held_one (i := 8) (by kernel_rfl) ?_
            · obtain ⟨W17, hW17⟩ : ∃ W', W' = W16.alloc (.cells #[] 22) := ⟨_, rfl⟩
              have hb17 : Below W16.heap.size W16 W17 := by rw [hW17]; exact below_alloc1 _ _
              have hAm17 : Rz W17 W16.heap.size 22 #[] := by rw [hW17]; exact Rz.new _ _ _
              have S17 : Below (w1.heap.size) w1 W17 := S16.trans (hb17.mono (Nat.le_trans hB0 S16.size))
              have hGm : w1.heap.size ≤ W16.heap.size := Nat.le_trans hB0 S16.size
              have hne : wd.heap.size ≠ W16.heap.size := Nat.ne_of_lt hAg16.lt
              have hAg17 := hAg16.next hb17
              have hue17 := hud16.below hb17
              refine op_mem (i := 8) (v := .slice (some ⟨W16.heap.size, 0, none⟩) 0 0) (w' := W17) (some 30) rfl rfl rfl (by rw [hW17]; go_simp) ?_
              refine ⟨S17, ?_⟩
              refine held_take (i := 9) (v := .agg #[.int .i64 p, .slice a16 nd c16, .slice (some ⟨W16.heap.size, 0, none⟩) 0 0]) (some 31) rfl rfl (by kernel_rfl) (by kernel_rfl) (by kernel_rfl) (fun _ _ _ h => h) (yieldsIf_run (by kernel_rfl) (fun W _ => by kernel_rfl)) S17 ?_
              have hdF := gb_offRowC hue17 hAg17 #[.int .i64 p, .slice a16 nd c16, .slice (some ⟨W16.heap.size, 0, none⟩) 0 0]
              have S18 : Below (w1.heap.size) w1 (W17.setRow (wd.heap.size) #[.int .i64 p, .slice a16 nd c16, .slice (some ⟨W16.heap.size, 0, none⟩) 0 0]) := below_setRow S17 hGg _
              refine held_one (i := 11) (by kernel_rfl) ?_
              refine op_row (i := 11) rfl rfl rfl 40 (.tmp 6) (.tmp 31) rfl (wd.heap.size) #[.int .i64 p, .slice a16 nd c16, .slice (some ⟨W16.heap.size, 0, none⟩) 0 0] (by kernel_rfl) (by kernel_rfl) 40 _ hAg17 (infoCo _ _ _) (by kernel_rfl) (by kernel_rfl) ?_
              refine ⟨S18, ?_⟩
              have hAg18 := hAg17.set #[.int .i64 p, .slice a16 nd c16, .slice (some ⟨W16.heap.size, 0, none⟩) 0 0]
              have hAm18 := hAm17.off (by first | exact hne | exact hne.symm) #[.int .i64 p, .slice a16 nd c16, .slice (some ⟨W16.heap.size, 0, none⟩) 0 0]
              refine wpAnyH_done (by kernel_rfl) ?_ _
              simp only [Act.put, List.setIfInBounds_toArray, List.set_cons_zero, List.set_cons_succ]
              go_wp2
              go_meet
              exact ⟨wd.heap.size, W16.heap.size, c16, a16, rfl, Lib.hid ⟨S18, hGg, rowIs3 hAg18, ⟨hdF, gtq_nil hAm18 hGm _ _ _, fun k hk => absurd hk (Nat.not_lt_zero _)⟩⟩⟩
          · obtain ⟨W19, hW19⟩ : ∃ W', W' = W15.alloc (.cells #[] 22) := ⟨_, rfl⟩
            have hb19 : Below W15.heap.size W15 W19 := by rw [hW19]; exact below_alloc1 _ _
            have hAm19 : Rz W19 W15.heap.size 22 #[] := by rw [hW19]; exact Rz.new _ _ _
            have S19 : Below (w1.heap.size) w1 W19 := S15.trans (hb19.mono (Nat.le_trans hB0 S15.size))
            have hGm : w1.heap.size ≤ W15.heap.size := Nat.le_trans hB0 S15.size
            have hne : wd.heap.size ≠ W15.heap.size := Nat.ne_of_lt hAg15.lt
            have hAg19 := hAg15.next hb19
            refine op_mem (i := 8) (v := .slice (some ⟨W15.heap.size, 0, none⟩) 0 0) (w' := W19) (some 30) rfl rfl rfl (by rw [hW19]; go_simp) ?_
            refine ⟨S19, ?_⟩
            refine held_one (i := 7) (by kernel_rfl) ?_
            · refine op_enter (i := 7) (some 29) (f := 71) (args := #[(.slice ad0 nd cd0)]) rfl rfl rfl (by kernel_rfl) (l01Own_any _ DS W19 (HUR.out W19 S19).2.2 (by have := HND.out; omega)) ?_ (fun c w' h => by obtain ⟨_, h, _⟩ := h; cases h) (fun w' h => by obtain ⟨_, h, _⟩ := h; cases h)
              rintro ee W20 ⟨u20, he, hu20, hb20⟩
              injection he with he
              subst he
              obtain ⟨a20, c20, hv⟩ := Sl.shape hu20.l1
              rw [← HND.out] at hv
              subst hv
              have S20 : Below (w1.heap.size) w1 W20 := S19.trans (hb20.mono (Nat.le_trans hB0 S19.size))
              have hAg20 := hAg19.next hb20
              have hAm20 := hAm19.next hb20
              have hud20 := hu20.mono (Nat.le_trans hB0 S19.size)
              refine ⟨S20, ?_⟩
              refine held_take (i := 9) (v := .agg #[.int .i64 p, .slice a20 nd c20, .slice (some ⟨W15.heap.size, 0, none⟩) 0 0]) (some 31) rfl rfl (by kernel_rfl) (by kernel_rfl) (by kernel_rfl) (fun _ _ _ h => h) (yieldsIf_run (by kernel_rfl) (fun W _ => by kernel_rfl)) S20 ?_
              have hdF := gb_offRowC hud20 hAg20 #[.int .i64 p, .slice a20 nd c20, .slice (some ⟨W15.heap.size, 0, none⟩) 0 0]
              have S21 : Below (w1.heap.size) w1 (W20.setRow (wd.heap.size) #[.int .i64 p, .slice a20 nd c20, .slice (some ⟨W15.heap.size, 0, none⟩) 0 0]) := below_setRow S20 hGg _
              refine held_one (i := 11) (by kernel_rfl) ?_
              refine op_row (i := 11) rfl rfl rfl 40 (.tmp 6) (.tmp 31) rfl (wd.heap.size) #[.int .i64 p, .slice a20 nd c20, .slice (some ⟨W15.heap.size, 0, none⟩) 0 0] (by kernel_rfl) (by kernel_rfl) 40 _ hAg20 (infoCo _ _ _) (by kernel_rfl) (by kernel_rfl) ?_
              refine ⟨S21, ?_⟩
              have hAg21 := hAg20.set #[.int .i64 p, .slice a20 nd c20, .slice (some ⟨W15.heap.size, 0, none⟩) 0 0]
              have hAm21 := hAm20.off (by first | exact hne | exact hne.symm) #[.int .i64 p, .slice a20 nd c20, .slice (some ⟨W15.heap.size, 0, none⟩) 0 0]
              refine wpAnyH_done (by kernel_rfl) ?_ _
              simp only [Act.put, List.setIfInBounds_toArray, List.set_cons_zero, List.set_cons_succ]
              go_wp2
              go_meet
              exact ⟨wd.heap.size, W15.heap.size, c20, a20, rfl, Lib.hid ⟨S21, hGg, rowIs3 hAg21, ⟨hdF, gtq_nil hAm21 hGm _ _ _, fun k hk => absurd hk (Nat.not_lt_zero _)⟩⟩⟩
      case rest =>
        obtain ⟨bo, bm, cq, aq, rfl, HS0⟩ := hcut
        obtain ⟨wz, hwz⟩ : ∃ wz : World, wz = wc := ⟨_, rfl⟩
        subst hwz
        go_upto_region 6 with fail
        go_wp2
        go_loopw [7] (fun i wr => ∃ (k : Nat) (am : Option Addr) (cm : Nat), k ≤ MS.length ∧ i = .int .i64 ((k + 1 : Nat) : Int) ∧ Hid (∃ U V, Sq w1 wr bo p (.slice aq nd cq) (.slice am k cm) DS k U V (fun l => MS.getD l []))) (fun i _ => nd - (intOf i).toNat)
        case atStart => exact ⟨0, _, _, Nat.zero_le _, rfl, Lib.hid ⟨_, _, HS0.out⟩⟩
        case round =>
          clear HS0
          obtain ⟨k, am, cm, hk, rfl, HSE⟩ := hrel
          obtain ⟨wx, hwx⟩ : ∃ wx : World, wx = wr := ⟨_, rfl⟩
          subst hwx
          obtain ⟨U, V, hS⟩ := HSE.out
          have HS := Lib.hid hS
          clear hS HSE
          have c1 := (HHX.out _ HS.out.below).2.1
          have c9 := (HUR.out _ HS.out.below).1
          by_cases hlt : k < MS.length
          · have hkl : ((k + 1 : Nat) : Int) < (nd : Int) := by omega
            have hk1n : k + 1 < nd := by omega
            obtain ⟨ut, hut0, hrt⟩ := HTBL.out k hlt
            obtain ⟨t, ht⟩ : ∃ t, t = MS.getD k [] := ⟨_, rfl⟩
            rw [← ht] at hrt
            obtain ⟨at', ct, rfl⟩ := Sl.shape hrt
            have HUT := Lib.hid hut0
            have HRT := Lib.hid hrt
            have HTB2 : Hid (t.length ≤ 1048576 ∧ ∀ x ∈ t, x.length ≤ 1048576) := Lib.hid (by rw [ht]; exact HMM.out k hlt)
            have HTT : Hid (MS.getD k [] = t) := Lib.hid ht.symm
            have hsx : w1.heap.size ≤ wx.heap.size := HS.out.below.size
            have hgx : bo < wx.heap.size := HS.out.box.lt
            obtain ⟨wd, hwd⟩ : ∃ wd : World, wd = wx.drew := ⟨_, rfl⟩
            have HSD : Hid (Sq w1 wd bo p (.slice aq nd cq) (.slice am k cm) DS k U V (fun l => MS.getD l [])) := Lib.hid (by rw [hwd]; exact HS.out.next (Below.refl _ _).drew)
            have hsd : wd.heap.size = wx.heap.size := by rw [hwd]; rfl
            have S0 : Hid (Below w1.heap.size w1 wd ∧ wd.cell? ⟨bo, 2, none⟩ = some (.slice am k cm)) := Lib.hid ⟨HSD.out.below, HSD.out.box.cell (i := 2) (by omega)⟩
            clear hut0 hrt ht
            go_upto_region 9 with fail
            refine wp_region_last (fun W => Hid (Below w1.heap.size w1 W ∧ W.cell? ⟨bo, 2, none⟩ = some (.slice am k cm))) 14 (by kernel_rfl) rfl (by kernel_rfl) ?_
            rw [← hwd]
            clear c1 c9 hwd
            refine held_take (i := 0) (v := .pointer (some ⟨bo, 2, none⟩)) (some 42) rfl rfl (by kernel_rfl) (by kernel_rfl) (by kernel_rfl) (fun _ _ _ h => h) (yieldsIf_run (by kernel_rfl) (fun W _ => by kernel_rfl)) S0 ?_
            refine held_take (i := 1) (v := .slice am k cm) (some 43) rfl rfl (by kernel_rfl) (by kernel_rfl) (by kernel_rfl) (fun _ _ _ h => h) (yieldsIf_cell (by kernel_rfl) rfl (by kernel_rfl) (fun W h => hloadSSS W h.out.2)) S0 ?_
            refine held_take (i := 2) (v := .pointer (some ⟨w.heap.size, 3, none⟩)) (some 44) rfl rfl (by kernel_rfl) (by kernel_rfl) (by kernel_rfl) (fun _ _ _ h => h) (yieldsIf_run (by kernel_rfl) (fun W _ => by kernel_rfl)) S0 ?_
            refine held_take (i := 3) (v := .slice (some ⟨bd, od, none⟩) md cd') (some 45) rfl rfl (by kernel_rfl) (by kernel_rfl) (by kernel_rfl) (fun _ _ _ h => h) (yieldsIf_cell (by kernel_rfl) rfl (by kernel_rfl) (fun W h => hload4 W (HHX.out W h.out.1).2.2)) S0 ?_
            refine held_take (i := 4) (v := .int .i64 (k0 : Int)) (some 46) rfl rfl (by kernel_rfl) (by kernel_rfl) (by kernel_rfl) (fun _ _ _ h => h) (yieldsIf_move (by kernel_rfl) rfl (by kernel_rfl)) S0 ?_
            refine held_take (i := 5) (v := .pointer (some ⟨bd, od + k0, none⟩)) (some 47) rfl rfl (by kernel_rfl) (by kernel_rfl) (by kernel_rfl) (fun _ _ _ h => h) (yieldsIf_index (by kernel_rfl) rfl (by kernel_rfl) (by kernel_rfl) (hidx4 (cap := cd') rfl hkn)) S0 ?_
            refine held_take (i := 6) (v := .slice (some ⟨b3, o3, none⟩) nd c3) (some 48) rfl rfl (by kernel_rfl) (by kernel_rfl) (by kernel_rfl) (fun _ _ _ h => h) (yieldsIf_cell (by kernel_rfl) rfl (by kernel_rfl) (fun W h => hload3s W (HUR.out W h.out.1).2.1)) S0 ?_
            refine held_take (i := 7) (v := .int .i64 ((k + 1 : Nat) : Int)) (some 49) rfl rfl (by kernel_rfl) (by kernel_rfl) (by kernel_rfl) (fun _ _ _ h => h) (yieldsIf_move (by kernel_rfl) rfl (by kernel_rfl)) S0 ?_
            refine held_take (i := 8) (v := .pointer (some ⟨b3, o3 + (k + 1), none⟩)) (some 50) rfl rfl (by kernel_rfl) (by kernel_rfl) (by kernel_rfl) (fun _ _ _ h => h) (yieldsIf_index (by kernel_rfl) rfl (by kernel_rfl) (by kernel_rfl) (hidx3 b3 o3 c3 hk1n)) S0 ?_
            refine held_take (i := 9) (v := .slice at' t.length ct) (some 51) rfl rfl (by kernel_rfl) (by kernel_rfl) (by kernel_rfl) (fun _ _ _ h => h) (yieldsIf_cell (by kernel_rfl) rfl (by kernel_rfl) (fun W h => hloadSS W (later h.out.1 (Nat.le_refl _) HUT.out))) S0 ?_
            refine held_enter (i := 10) (some 52) (f := 72) (args := #[.slice at' t.length ct]) (by kernel_rfl) rfl rfl rfl (by kernel_rfl) (l01Rows_q _ t wd (HRT.out.below S0.out.1) HTB2.out.1 HTB2.out.2) ?_ (fun c w' h => by obtain ⟨_, h, _⟩ := h; cases h) (fun w' h => by obtain ⟨_, h, _⟩ := h; cases h)
            rintro v5 w5 ⟨u5, he5, ⟨vs, hq5⟩, hb5⟩
            injection he5 with he5
            subst he5
            obtain ⟨a5, c5, hus⟩ := Sl.shape hq5.gs.l2
            subst hus
            have hs5 : wd.heap.size ≤ w5.heap.size := hb5.size
            have HS5 := Lib.hid (HSD.out.next hb5)
            have S1 : Hid (Below w1.heap.size w1 w5 ∧ w5.cell? ⟨bo, 2, none⟩ = some (.slice am k cm)) := Lib.hid ⟨HS5.out.below, HS5.out.box.cell (i := 2) (by omega)⟩
            refine ⟨S1, ?_⟩
            obtain ⟨we, hwe⟩ : ∃ we : World, we = w5.alloc (.cells #[.slice a5 t.length c5] 22) := ⟨_, rfl⟩
            have hbe : Below w5.heap.size w5 we := by rw [hwe]; exact below_alloc1 _ _
            have hve : we.cell? ⟨w5.heap.size, 0, none⟩ = some (.slice a5 t.length c5) := by rw [hwe]; exact cell_alloc1 w5 _ _
            have HS6 := Lib.hid (HS5.out.next hbe)
            have HQ6 := Lib.hid ((hq5.below hbe).mono (show w1.heap.size ≤ wd.heap.size by omega))
            have HQL : Hid (∀ i (hi : i < vs.length) g, vs[i].ownBlock = some g → wd.heap.size ≤ g) := Lib.hid (fun i hi g hg => (hq5.lt hi hg).1)
            have HVL : Hid (∀ l, l < k → ∀ i (hi : i < (V l).length) g, (V l)[i].ownBlock = some g → g < wd.heap.size) := Lib.hid (fun l hl i hi g hg => ((HSD.out.cy.maps.tabs l hl).lt hi hg).2)
            have HDL : Hid (∀ g, (Value.slice aq nd cq).ownBlock = some g → g < wd.heap.size) := Lib.hid (fun g hg => (HSD.out.cy.dims.lt g hg).2)
            have S2 : Hid (Below w1.heap.size w1 we ∧ we.cell? ⟨bo, 2, none⟩ = some (.slice am k cm)) := Lib.hid ⟨HS6.out.below, HS6.out.box.cell (i := 2) (by omega)⟩
            refine held_mem (i := 11) (v := .slice (some ⟨w5.heap.size, 0, none⟩) 1 1) (w' := we) (some 53) (by kernel_rfl) rfl rfl rfl (by rw [hwe]; go_simp) S2 ?_
            refine held_call (i := 12) (by kernel_rfl) rfl rfl ?_
            obtain ⟨iSS, hiSS, hz, hs1', hb1'⟩ := info_parts Try.infoSS
            refine wp_append_lies we (.tmp 43) (.tmp 53) 38 (by kernel_rfl) w1.heap.size 22 iSS _ 1 24 Try.underlying38 hiSS hz hs1' hb1' rfl (by decide) (.slice am k cm) k ((List.range k).map U) (by kernel_rfl) HS6.out.cy.maps.own ⟨w5.heap.size, 0, none⟩ 1 1 [.slice a5 t.length c5] (by kernel_rfl) rfl ?ap1 ?ap2 (by omega) (by unfold maxLen; omega) (by omega) HS6.out.below.size _ rfl (fun g9 c9 w9 hn hgw _ _ => ?ap3)
            case ap1 =>
              intro j u hj
              match j, hj with
              | 0, hj =>
                simp at hj
                subst hj
                exact hve
            case ap2 =>
              intro u hu
              simp at hu
              subst hu
              rfl
            case ap3 =>
              have hpush := HS6.out.cy.maps.push hn hgw HQ6.out (fun l hl i hi j hj g e1 e2 => by have := HVL.out l hl i hi g e1; have := HQL.out j hj g e2; omega)
              have hTT : (fun l => if l = k then t else MS.getD l []) = (fun l => MS.getD l []) := by
                funext l
                by_cases e : l = k
                · rw [if_pos e, e, HTT.out]
                · rw [if_neg e]
              rw [hTT] at hpush
              have HS9 := Lib.hid (HS6.out.stepM hgw hpush (fun l hl i hi g hg => by
                by_cases e : l = k
                · simp only [e, if_true] at hi hg
                  exact fun h2 => by have := HQL.out i hi g hg; have := HDL.out g h2; omega
                · simp only [e, if_false] at hi hg
                  exact HS6.out.cy.dap l (by omega) i hi g hg))
              have hrb := row_grown HS6.out.box HS6.out.cy.maps.own coT.2.2 hgw
              have z1 : w9.cell? ⟨bo, 2, none⟩ = some (.slice am k cm) := hrb.cell (i := 2) (by omega)
              have z2 : w9.frozen? ⟨bo, 2, none⟩ = false := hrb.frozen 2
              have S3 : Hid (Below w1.heap.size w1 w9 ∧ w9.cell? ⟨bo, 2, none⟩ = some (.slice am k cm)) := Lib.hid ⟨HS6.out.below.grown hgw HS6.out.below.size (fun g hg => (HS6.out.cy.maps.own.lt g hg).1), z1⟩
              clear hn hgw hrb hpush hTT
              refine ⟨S3, ?_⟩
              refine held_take (i := 13) (v := .pointer (some ⟨bo, 2, none⟩)) (some 55) rfl rfl (by kernel_rfl) (by kernel_rfl) (by kernel_rfl) (fun _ _ _ h => h) (yieldsIf_run (by kernel_rfl) (fun W _ => by kernel_rfl)) S3 ?_
              refine held_none (i := 14) (v := .bool false) rfl rfl (by kernel_rfl) (by kernel_rfl) (by kernel_rfl) (fun _ _ _ h => h) (yieldsIf_move (by kernel_rfl) rfl (by kernel_rfl)) S3 ?_
              refine wpAnyH_done (by kernel_rfl) (lastQ_of rfl (by kernel_rfl) ?_) _
              simp only [Act.put, List.setIfInBounds_toArray, List.set_cons_zero, List.set_cons_succ]
              clear S0 S1 S2 hve hwe hbe
              go_simp
              go_wp2
              go_roundw
              case rel => exact ⟨k + 1, _, _, by omega, by go_num, Lib.hid ⟨_, _, HS9.out⟩⟩
              case measure => simp [intOf]; omega
          · have hkl : ¬ ((k + 1 : Nat) : Int) < (nd : Int) := by omega
            obtain rfl : k = MS.length := by omega
            have g0 : wx.cell? ⟨bo, 0, none⟩ = some (.int .i64 p) := HS.out.box.cell (i := 0) (by omega)
            have g1 : wx.cell? ⟨bo, 1, none⟩ = some (.slice aq nd cq) := HS.out.box.cell (i := 1) (by omega)
            have g2 : wx.cell? ⟨bo, 2, none⟩ = some (.slice am MS.length cm) := HS.out.box.cell (i := 2) (by omega)
            have hr : wx.heap[w.heap.size + 1]? = some (.cells #[.int .i64 0, .slice none 0 0, .slice none 0 0] 40) := HRZ.out _ HS.out.below
            have hrow := rowIs3 hr
            have q0 := hrow.cell (i := 0) (by omega)
            have z0 := hrow.frozen 0
            have r1 := hrow.set 0 (.int .i64 p)
            have q1 := r1.cell (i := 1) (by omega)
            have z1 := r1.frozen 1
            have r2 := r1.set 1 (.slice aq nd cq)
            have q2 := r2.cell (i := 2) (by omega)
            have z2 := r2.frozen 2
            have r3 := r2.set 2 (.slice am MS.length cm)
            obtain ⟨WF, hWF⟩ : ∃ W : World, W = (((wx.setCell ⟨w.heap.size + 1, 0, none⟩ (.int .i64 p)).setCell ⟨w.heap.size + 1, 1, none⟩ (.slice aq nd cq)).setCell ⟨w.heap.size + 1, 2, none⟩ (.slice am MS.length cm)) := ⟨_, rfl⟩
            have HCF : Hid (Cyq w1.heap.size WF (.slice aq nd cq) (.slice am MS.length cm) DS MS.length U V (fun l => MS.getD l [])) := Lib.hid (by rw [hWF]; exact ((HS.out.cy.offC hrow _ _).offC r1 _ _).offC r2 _ _)
            have HBF : Hid (Below w.heap.size w WF) := Lib.hid (by rw [hWF]; exact ((((HBX.out _ HS.out.below).setCell (by show w.heap.size ≤ w.heap.size + 1; omega) _).setCell (by show w.heap.size ≤ w.heap.size + 1; omega) _).setCell (by show w.heap.size ≤ w.heap.size + 1; omega) _))
            rw [← hWF] at r3
            have f0 : WF.cell? ⟨w.heap.size + 1, 0, none⟩ = some (.int .i64 p) := r3.cell (i := 0) (by omega)
            have f1 : WF.cell? ⟨w.heap.size + 1, 1, none⟩ = some (.slice aq nd cq) := r3.cell (i := 1) (by omega)
            have f2 : WF.cell? ⟨w.heap.size + 1, 2, none⟩ = some (.slice am MS.length cm) := r3.cell (i := 2) (by omega)
            have HWF := Lib.hid hWF
            clear hr hrow r1 r2 r3 hWF
            go_wp2
            rw [← HWF.out]
            refine bodyPost_ret (v := .tuple #[.agg #[.int .i64 p, .slice aq nd cq, .slice am MS.length cm], .int .i64 0]) ?_ rfl ?_
            · simp only [results, HRES.out]
              go_simp
            · have hms : (List.range MS.length).map (fun l => MS.getD l []) = MS := List.ext_getElem (by simp) (fun i h1 h2 => by simp [h2])
              have hgt := HCF.out.maps.gt.l3
              rw [hms] at hgt
              refine ⟨_, clO p ds dn (k0 : Int), 0, rfl, ⟨aq, cq, am, cm, ?_, ?_⟩, HBF.out, RsOut.of_yes rfl rfl⟩
              · show _ = Value.agg #[.int .i64 p, .slice aq (clD ds k0).length cq, .slice am (clM dn k0).length cm]
                rw [← HDS.out, ← HMS.out, ← HND.out]
              · show Cx 0 WF (.slice aq (clD ds k0).length cq) (.slice am (clM dn k0).length cm) (clD ds k0) (clM dn k0)
                rw [← HDS.out, ← HMS.out, ← HND.out]
                exact ⟨Sl.lower (Nat.zero_le _) (fun _ _ _ h => h) HCF.out.dims.l1, Sl.lower (Nat.zero_le _) (fun _ _ _ h => h) hgt⟩
    · have HSI : Hid (∀ W, Calls Try.prog 70 #[.int .i64 i, .int .i64 0, .int .i64 ((m : Int) - 1)] W (QW (.bool false) W)) := Lib.hid (fun W => spin_no hin W)
      obtain rfl : cc = 2 := HCC.out.trans (clCode_2 HDB.out (by have := HM.out; omega))
      have hwm : IntKind.i64.wrap ((m : Int) - 1) = (m : Int) - 1 := IntWalk.i64_in _ (by omega)
      go_wp2_with fail
      refine (HSI.out _).mono ?_
      rintro e w' ⟨rfl, rfl⟩
      clear HSI
      obtain ⟨x, y, z, hr⟩ := HRX.out
      have hrow : w1.rowIs (w.heap.size + 1) 40 3 (sel3 x y z) := rowIs3 hr
      have q0 : w1.cell? ⟨w.heap.size + 1, 0, none⟩ = some x := hrow.cell (i := 0) (by omega)
      have z0 : w1.frozen? ⟨w.heap.size + 1, 0, none⟩ = false := hrow.frozen 0
      have r1 := hrow.set 0 (.int .i64 0)
      have q1 : (w1.setCell ⟨w.heap.size + 1, 0, none⟩ (.int .i64 0)).cell? ⟨w.heap.size + 1, 1, none⟩ = some y := r1.cell (i := 1) (by omega)
      have z1 : (w1.setCell ⟨w.heap.size + 1, 0, none⟩ (.int .i64 0)).frozen? ⟨w.heap.size + 1, 1, none⟩ = false := r1.frozen 1
      have r2 := r1.set 1 (.slice none 0 0)
      have q2 : ((w1.setCell ⟨w.heap.size + 1, 0, none⟩ (.int .i64 0)).setCell ⟨w.heap.size + 1, 1, none⟩ (.slice none 0 0)).cell? ⟨w.heap.size + 1, 2, none⟩ = some z := r2.cell (i := 2) (by omega)
      have z2 : ((w1.setCell ⟨w.heap.size + 1, 0, none⟩ (.int .i64 0)).setCell ⟨w.heap.size + 1, 1, none⟩ (.slice none 0 0)).frozen? ⟨w.heap.size + 1, 2, none⟩ = false := r2.frozen 2
      have r3 := r2.set 2 (.slice none 0 0)
      obtain ⟨WF, hWF⟩ : ∃ W : World, W = (((w1.setCell ⟨w.heap.size + 1, 0, none⟩ (.int .i64 0)).setCell ⟨w.heap.size + 1, 1, none⟩ (.slice none 0 0)).setCell ⟨w.heap.size + 1, 2, none⟩ (.slice none 0 0)) := ⟨_, rfl⟩
      have hsF : WF.heap.size = w1.heap.size := by rw [hWF]; simp
      have hkF : ∀ lo hi, w.heap.size + 1 < lo → Same lo hi w1 WF := fun lo hi hl => by rw [hWF]; exact ((Same.set _ (Or.inl hl)).trans (Same.set _ (Or.inl hl))).trans (Same.set _ (Or.inl hl))
      have HB : Hid (Below w.heap.size w WF) := Lib.hid (by
        rw [hWF]
        exact (((HX1.out.below).setCell (by show w.heap.size ≤ w.heap.size + 1; omega) _).setCell (by show w.heap.size ≤ w.heap.size + 1; omega) _).setCell (by show w.heap.size ≤ w.heap.size + 1; omega) _)
      rw [← hWF] at r3
      have f0 : WF.cell? ⟨w.heap.size + 1, 0, none⟩ = some (.int .i64 0) := r3.cell (i := 0) (by omega)
      have f1 : WF.cell? ⟨w.heap.size + 1, 1, none⟩ = some (.slice none 0 0) := r3.cell (i := 1) (by omega)
      have f2 : WF.cell? ⟨w.heap.size + 1, 2, none⟩ = some (.slice none 0 0) := r3.cell (i := 2) (by omega)
      have HWF := Lib.hid hWF
      clear hr hrow r1 r2 r3 hWF
      go_wp2
      rw [← HWF.out]
      refine bodyPost_ret (v := .tuple #[.agg #[.int .i64 0, .slice none 0 0, .slice none 0 0], .int .i64 2]) ?_ rfl ?_
      · simp only [results, HRES.out]
        go_simp
      · exact ⟨_, (0, [], []), 2, rfl, RsC.nil _, HB.out, RsOut.of_no (by decide)⟩
end Go.Proofs.Ytbadjfnelpfhcaa


namespace Go.Proofs.Ytbadjfnelpfhcaa
open Go.RowKit
theorem columnOfK_any (p i : Int) (dv av vv : Value) (ds : List (List Int)) (ac dn : List (List (List (List Int)))) (w : World) (h : Dc 0 w dv av vv ds ac dn) (hb : DcB 1048576 ds ac dn) :
    Calls Try.prog 26 #[.agg #[.int .i64 p, dv, av, vv], .int .i64 i] w (AnsW RwC (fun o => o = clO p ds dn i) (0, [], []) (clCode p ds ac dn i) w) := columnOf_any p i dv av vv ds ac dn w ⟨h.fd, h.fa, h.fv.l4⟩ h.fv hb.bd hb.ba hb.bv
theorem spColumnOfK_any (p i : Int) (dv av vv : Value) (ds : List (List Int)) (ac dn : List (List (List (List Int)))) (w : World) (h : Dc 0 w dv av vv ds ac dn) (hb : DcB 1048576 ds ac dn) :
    Calls Try.prog 25 #[.agg #[.int .i64 p, dv, av, vv], .int .i64 i] w (AnsS RsC (fun o => o = clO p ds dn i) (0, [], []) (clCode p ds ac dn i) w) := spColumnOf_any p i dv av vv ds ac dn w ⟨h.fd, h.fa, h.fv.l4⟩ hb.bd hb.ba hb.bv
theorem clo_bd {p i : Int} {ds : List (List Int)} {ac dn : List (List (List (List Int)))} (h : clCode p ds ac dn i = 0) : CoB (clO p ds dn i) := by
  obtain ⟨h1, h2, h3⟩ := clCode_zero h
  exact cl_bd h1.cel h1.tbs (by omega)
end Go.Proofs.Ytbadjfnelpfhcaa


namespace Go.Proofs.Ytbadjfnelpfhcaa
open Go.RowKit

set_option maxHeartbeats 6400000 in
set_option maxRecDepth 100000 in
theorem lawCof_any (p0 : Int) (dv0 av0 vv0 : Value) (dl0 : List (List Int)) (al0 : List (List (List (List Int)))) (vl0 : List (List (List (List Int)))) (n1 : Int) (w : World) (h0 : Dc 0 w dv0 av0 vv0 dl0 al0 vl0) (hml0 : DcB 9223372036854775807 dl0 al0 vl0) :
    Calls Try.prog 6 #[.agg #[.int .i64 p0, dv0, av0, vv0], .int .i64 n1] w (BR (.bool true) w) := by
  obtain ⟨W0, hW0⟩ : ∃ W0, W0 = (w.alloc (.cells #[.int .i64 p0, dv0, av0, vv0] 25)) := ⟨_, rfl⟩
  have HS0 : Hid (W0.heap.size = w.heap.size + 1) := Lib.hid (by rw [hW0]; simp)
  have HZ0 : Hid (Below w.heap.size w W0) := Lib.hid (by rw [hW0]; exact below_alloc1 _ _)
  have HK0 : Hid (BxDc w W0 w.heap.size p0 dv0 av0 vv0 dl0 al0 vl0) := Lib.hid (by rw [hW0]; exact BxDc.start _ h0)
  have HN0 : Hid (∀ W, Below (w.heap.size + 1) W0 W → BxDc w W w.heap.size p0 dv0 av0 vv0 dl0 al0 vl0) := Lib.hid (fun W hb => HK0.out.next (by rw [HS0.out]; exact hb))
  have HNW : Hid (∀ W, Below (w.heap.size + 1) W0 W → Below w.heap.size w W) := Lib.hid (fun W hb => HZ0.out.trans (hb.mono (by omega)))
  have HB : Hid (Below (w.heap.size + 1) W0 W0) := Lib.hid (Below.refl _ _)
  have hs0 : w.heap.size + 1 ≤ W0.heap.size := by have := HS0.out; omega
  have HML0 := Lib.hid hml0
  clear h0 hml0 HK0
  go_enter Try.func6, Try.ntmps6
  go_upto_region 1 with fail
  rw [← hW0]
  clear hW0
  have c00 := (HN0.out _ HB.out).c0
  have c01 := (HN0.out _ HB.out).c1
  have c02 := (HN0.out _ HB.out).c2
  have c03 := (HN0.out _ HB.out).c3
  go_wp2_with fail
  refine (sztDoublec_any p0 dv0 av0 vv0 dl0 al0 vl0 1048576 _ (HN0.out _ HB.out).cx (by omega) (by omega) HML0.out).mono ?_
  rintro e wz0 ⟨sz0, rfl, hb, hpost⟩
  have hsz0 : W0.heap.size ≤ wz0.heap.size := hb.size
  have HB' := Lib.hid (HB.out.trans (hb.mono (by omega)))
  clear c00 c01 c02 c03
  clear hb HB
  have HB := HB'
  clear HB'
  rcases hpost with rfl | ⟨hp00, hp01, hpm0⟩
  · go_wp2
    go_ret
    exact ⟨rfl, HNW.out _ HB.out⟩
  have HMS0 := Lib.hid hpm0
  clear hpm0
  have c00 := (HN0.out _ HB.out).c0
  have c01 := (HN0.out _ HB.out).c1
  have c02 := (HN0.out _ HB.out).c2
  have c03 := (HN0.out _ HB.out).c3
  have HQd : Hid (Below wz0.heap.size wz0 wz0) := Lib.hid (Below.refl _ _)
  go_wp2_with fail
  refine (toDoublec_any p0 dv0 av0 vv0 dl0 al0 vl0 _ (HN0.out _ HB.out).cx HMS0.out.b).mono ?_
  rintro e wS0 ⟨xdv0S, xav0S, xvv0S, rfl, hc, hb⟩
  have hsS0 : wz0.heap.size ≤ wS0.heap.size := hb.size
  have HBS0 := Lib.hid (HB.out.trans (hb.mono (by omega)))
  have HQ0 := Lib.hid (HQd.out.trans (hb.mono (by omega)))
  have HXS0 := Lib.hid hc.zero
  clear hb hc
  clear c00 c01 c02 c03
  go_wp2_with fail
  refine (spColumnOfK_any p0 n1 xdv0S xav0S xvv0S dl0 al0 vl0 _ (HXS0.out) HMS0.out.b).mono ?_
  rintro e wSr ⟨uS, oS, kS, rfl, hrS, hb, hoS⟩
  have hsSr : wS0.heap.size ≤ wSr.heap.size := hb.size
  have HQr := Lib.hid (HQ0.out.trans (hb.mono (by omega)))
  have HRS := Lib.hid hrS
  have HOS := Lib.hid hoS
  clear hb hrS hoS
  have hb := HQr.out
  clear HQd HQr HQ0 HXS0 HBS0
  have HB' := Lib.hid (HB.out.trans (hb.mono (by omega)))
  clear hb HB
  have HB := HB'
  clear HB'
  obtain ⟨pS, dsS, msS⟩ := oS
  obtain ⟨aSd, cSd, aSm, cSm, huS, hcS⟩ := HRS.out
  have huS : uS = .agg #[.int .i64 pS, .slice aSd dsS.length cSd, .slice aSm msS.length cSm] := huS
  subst huS
  have HXS : Hid (Cx 0 wSr (.slice aSd dsS.length cSd) (.slice aSm msS.length cSm) dsS msS) := Lib.hid hcS
  clear hcS HRS
  have HBD : Hid (CoB (pS, dsS, msS)) := Lib.hid (HOS.out.all (Q := CoB) ⟨by simp, by simp, by simp⟩ (fun h0 a ha => by rw [show a = _ from ha]; exact clo_bd h0))
  have hbd1 : dsS.length ≤ 1048576 := HBD.out.1
  obtain ⟨wbS, hwb⟩ : ∃ wbS, wbS = wSr.alloc (.cells #[.int .i64 pS, .slice aSd dsS.length cSd, .slice aSm msS.length cSm] 40) := ⟨_, rfl⟩
  have hb : Below wSr.heap.size wSr wbS := by rw [hwb]; exact below_alloc1 _ _
  have hsbS : wSr.heap.size + 1 = wbS.heap.size := by rw [hwb]; simp
  have hsBS : wSr.heap.size ≤ wbS.heap.size := by omega
  have HYS : Hid (Bq wbS wSr.heap.size pS (.slice aSd dsS.length cSd) (.slice aSm msS.length cSm) dsS msS) := Lib.hid (by rw [hwb]; exact (Bx.start _ HXS.out).bq)
  have HB' := Lib.hid (HB.out.trans (hb.mono (by omega)))
  clear hb HB
  have HB := HB'
  clear HB'
  go_upto_region 6 with fail
  rw [← hwb]
  clear hwb
  clear HXS
  have HK : Hid (Below wbS.heap.size wbS wbS) := Lib.hid (Below.refl _ _)
  have c00 := (HN0.out _ HB.out).c0
  have c01 := (HN0.out _ HB.out).c1
  have c02 := (HN0.out _ HB.out).c2
  have c03 := (HN0.out _ HB.out).c3
  go_wp2_with fail
  refine (toDoublecw_any p0 dv0 av0 vv0 dl0 al0 vl0 _ (HN0.out _ HB.out).cx HMS0.out.b).mono ?_
  rintro e wc0 ⟨ydv0, yav0, yvv0, rfl, hc, hb⟩
  have hsc0 : wbS.heap.size ≤ wc0.heap.size := hb.size
  clear c00 c01 c02 c03
  have HB' := Lib.hid (HB.out.trans (hb.mono (by omega)))
  have HK' := Lib.hid (HK.out.trans (hb.mono (by omega)))
  clear hb HB HK
  have HB := HB'
  have HK := HK'
  clear HB' HK'
  have HC0 := Lib.hid hc
  obtain ⟨⟨ya0d, yc0d, rfl⟩, ⟨ya0a, yc0a, rfl⟩, ⟨ya0v, yc0v, rfl⟩⟩ := hc.cx.shapes
  clear hc
  obtain ⟨wb0, hwb⟩ : ∃ wb0, wb0 = wc0.alloc (.cells #[.int .i64 p0, .slice ya0d dl0.length yc0d, .slice ya0a al0.length yc0a, .slice ya0v vl0.length yc0v] 28) := ⟨_, rfl⟩
  have hb : Below wc0.heap.size wc0 wb0 := by rw [hwb]; exact below_alloc1 _ _
  have hsb0 : wc0.heap.size + 1 = wb0.heap.size := by rw [hwb]; simp
  have hsB0 : wc0.heap.size ≤ wb0.heap.size := by omega
  have HY0 : Hid (BqDc wb0 wc0.heap.size p0 (.slice ya0d dl0.length yc0d) (.slice ya0a al0.length yc0a) (.slice ya0v vl0.length yc0v) dl0 al0 vl0) := Lib.hid (by rw [hwb]; exact (BxDc.start _ HC0.out.cx.zero).bq)
  have HB' := Lib.hid (HB.out.trans (hb.mono (by omega)))
  have HK' := Lib.hid (HK.out.trans (hb.mono (by omega)))
  have HC0' := Lib.hid (HC0.out.same (Same.of_below hb (by omega)))
  clear hb HB HK HC0
  have HB := HB'
  have HK := HK'
  have HC0 := HC0'
  clear HB' HK' HC0'
  go_upto_region 7 with fail
  rw [← hwb]
  clear hwb
  have d00 := HY0.out.c0
  have d01 := HY0.out.c1
  have d02 := HY0.out.c2
  have d03 := HY0.out.c3
  go_wp2_with fail
  refine (columnOfK_any p0 n1 _ _ _ dl0 al0 vl0 _ (HC0.out.cx.zero) HMS0.out.b).mono ?_
  rintro e w7 ⟨u7, o7, k7, rfl, hw7, hb, hout7⟩
  obtain ⟨rfl, rfl⟩ := RsOut.unique (fun _ a b ha hb => ha.trans hb.symm) HOS.out hout7
  have hs7 : wb0.heap.size ≤ w7.heap.size := hb.size
  clear d00 d01 d02 d03
  have HB' := Lib.hid (HB.out.trans (hb.mono (by omega)))
  have HK' := Lib.hid (HK.out.trans (hb.mono (by omega)))
  have HC0' := Lib.hid (HC0.out.same (Same.of_below hb (by omega)))
  have HY0' := Lib.hid (HY0.out.next hb)
  clear hb HB HK HC0 HY0
  have HB := HB'
  have HK := HK'
  have HC0 := HC0'
  have HY0 := HY0'
  clear HB' HK' HC0' HY0'
  obtain ⟨aGd, cGd, aGm, cGm, hu7, hG⟩ := hw7
  have hu7 : u7 = .agg #[.int .i64 pS, .slice aGd dsS.length cGd, .slice aGm msS.length cGm] := hu7
  subst hu7
  have HG : Hid (RcW wb0.heap.size w7.heap.size w7 (.slice aGd dsS.length cGd) (.slice aGm msS.length cGm) dsS msS) := Lib.hid hG
  clear hG hout7
  obtain ⟨wbG, hwb⟩ : ∃ wbG, wbG = w7.alloc (.cells #[.int .i64 pS, .slice aGd dsS.length cGd, .slice aGm msS.length cGm] 40) := ⟨_, rfl⟩
  have hb : Below w7.heap.size w7 wbG := by rw [hwb]; exact below_alloc1 _ _
  have hsbG : w7.heap.size + 1 = wbG.heap.size := by rw [hwb]; simp
  have hsBG : w7.heap.size ≤ wbG.heap.size := by omega
  have HCG0 : Hid (Bc wbG w7.heap.size pS (.slice aGd dsS.length cGd) (.slice aGm msS.length cGm)) := Lib.hid (by rw [hwb]; exact Bc.start _ _ _ _ _)
  have HB' := Lib.hid (HB.out.trans (hb.mono (by omega)))
  have HK' := Lib.hid (HK.out.trans (hb.mono (by omega)))
  have HC0' := Lib.hid (HC0.out.same (Same.of_below hb (by omega)))
  have HY0' := Lib.hid (HY0.out.next hb)
  have HG' := Lib.hid (HG.out.same (Same.of_below hb (by omega)))
  clear hb HB HK HC0 HY0 HG
  have HB := HB'
  have HK := HK'
  have HC0 := HC0'
  have HY0 := HY0'
  have HG := HG'
  clear HB' HK' HC0' HY0' HG'
  have HCG := HCG0
  clear HCG0
  go_upto_region 8 with fail
  rw [← hwb]
  clear hwb
  have hcode : (kS != kS) = false := by simp
  have s0 := (HYS.out.next HK.out).c0
  have s1 := (HYS.out.next HK.out).c1
  have s2 := (HYS.out.next HK.out).c2
  have g0 := HCG.out.c0
  have g1 := HCG.out.c1
  have g2 := HCG.out.c2
  go_wp2_with fail
  refine (eqComplex_true pS _ _ _ _ dsS msS _ HG.out.cx (HYS.out.next HK.out).cx hbd1 HBD.out.2).mono ?_
  rintro e we1 ⟨rfl, hb⟩
  have hse1 : wbG.heap.size ≤ we1.heap.size := hb.size
  clear s0 s1 s2 g0 g1 g2
  have HB' := Lib.hid (HB.out.trans (hb.mono (by omega)))
  have HK' := Lib.hid (HK.out.trans (hb.mono (by omega)))
  have HC0' := Lib.hid (HC0.out.same (Same.of_below hb (by omega)))
  have HY0' := Lib.hid (HY0.out.next hb)
  have HG' := Lib.hid (HG.out.same (Same.of_below hb (by omega)))
  have HCG' := Lib.hid (HCG.out.next hb)
  clear hb HB HK HC0 HY0 HG HCG
  have HB := HB'
  have HK := HK'
  have HC0 := HC0'
  have HY0 := HY0'
  have HG := HG'
  have HCG := HCG'
  clear HB' HK' HC0' HY0' HG' HCG'
  have c00 := (HN0.out _ HB.out).c0
  have c01 := (HN0.out _ HB.out).c1
  have c02 := (HN0.out _ HB.out).c2
  have c03 := (HN0.out _ HB.out).c3
  have d00 := HY0.out.c0
  have d01 := HY0.out.c1
  have d02 := HY0.out.c2
  have d03 := HY0.out.c3
  have HCX := Lib.hid ((HN0.out _ HB.out).cx.below (Below.refl _ _).drew)
  have HCC := Lib.hid (HY0.out.cx.below (Below.refl _ _).drew)
  go_wp2_with fail
  go_region_held3 (fun w' => w'.cell? ⟨w.heap.size, 0, none⟩ = some (.int .i64 p0) ∧ w'.cell? ⟨w.heap.size, 1, none⟩ = some (dv0) ∧ w'.cell? ⟨w.heap.size, 2, none⟩ = some (av0) ∧ w'.cell? ⟨w.heap.size, 3, none⟩ = some (vv0) ∧ w'.cell? ⟨wc0.heap.size, 0, none⟩ = some (.int .i64 p0) ∧ w'.cell? ⟨wc0.heap.size, 1, none⟩ = some (.slice ya0d dl0.length yc0d) ∧ w'.cell? ⟨wc0.heap.size, 2, none⟩ = some (.slice ya0a al0.length yc0a) ∧ w'.cell? ⟨wc0.heap.size, 3, none⟩ = some (.slice ya0v vl0.length yc0v))
    (first | exact ⟨c00, c01, c02, c03, d00, d01, d02, d03⟩ | exact HS9.out | exact HSA.out | go_keep)
    (first
      | (go_at_call 16; refine (toDoublec_any p0 dv0 av0 vv0 dl0 al0 vl0 _ HCX.out HMS0.out.b).mono ?_; rintro e w9 ⟨dv09, av09, vv09, rfl, hcx9, hb9⟩; have HS9 := Lib.hid (And.intro (later hb9 (Nat.le_refl _) c00) (And.intro (later hb9 (Nat.le_refl _) c01) (And.intro (later hb9 (Nat.le_refl _) c02) (And.intro (later hb9 (Nat.le_refl _) c03) (And.intro (later hb9 (Nat.le_refl _) d00) (And.intro (later hb9 (Nat.le_refl _) d01) (And.intro (later hb9 (Nat.le_refl _) d02) (later hb9 (Nat.le_refl _) d03)))))))); have HX9 := Lib.hid (And.intro hcx9 (And.intro (HCC.out.below hb9) (Below.trans ((Below.refl we1.heap.size we1).drew) hb9))); clear hcx9 hb9)
      | (go_at_call 18; refine (eqDoublec_true p0 _ _ _ dv09 av09 vv09 dl0 al0 vl0 _ HX9.out.2.1 HX9.out.1.zero HMS0.out.b).mono ?_; rintro e wA0 ⟨rfl, hbA⟩; have HSA := Lib.hid (And.intro (later hbA (Nat.le_refl _) HS9.out.1) (And.intro (later hbA (Nat.le_refl _) HS9.out.2.1) (And.intro (later hbA (Nat.le_refl _) HS9.out.2.2.1) (And.intro (later hbA (Nat.le_refl _) HS9.out.2.2.2.1) (And.intro (later hbA (Nat.le_refl _) HS9.out.2.2.2.2.1) (And.intro (later hbA (Nat.le_refl _) HS9.out.2.2.2.2.2.1) (And.intro (later hbA (Nat.le_refl _) HS9.out.2.2.2.2.2.2.1) (later hbA (Nat.le_refl _) HS9.out.2.2.2.2.2.2.2)))))))); have HXA := Lib.hid (Below.trans HX9.out.2.2 (hbA.mono HX9.out.2.2.size)); clear hbA))
  have hsa0 : we1.heap.size ≤ wA0.heap.size := HXA.out.size
  have hb := HXA.out
  clear c00 c01 c02 c03
  clear d00 d01 d02 d03
  clear HXA HSA HS9 HX9 HCX HCC
  have HB' := Lib.hid (HB.out.trans (hb.mono (by omega)))
  have HK' := Lib.hid (HK.out.trans (hb.mono (by omega)))
  have HC0' := Lib.hid (HC0.out.same (Same.of_below hb (by omega)))
  have HY0' := Lib.hid (HY0.out.next hb)
  have HG' := Lib.hid (HG.out.same (Same.of_below hb (by omega)))
  have HCG' := Lib.hid (HCG.out.next hb)
  clear hb HB HK HC0 HY0 HG HCG
  have HB := HB'
  have HK := HK'
  have HC0 := HC0'
  have HY0 := HY0'
  have HG := HG'
  have HCG := HCG'
  clear HB' HK' HC0' HY0' HG' HCG'
  have d00 := HY0.out.c0
  have d01 := HY0.out.c1
  have d02 := HY0.out.c2
  have d03 := HY0.out.c3
  go_wp2_with fail
  refine (markDoublecK_any 1 p0 _ _ _ dl0 al0 vl0 _ HC0.out (by omega) HMS0.out (by omega) (by omega)).mono ?_
  rintro e wD0 ⟨r0, wM, rfl, hr00, hr01, hb, hoM, htM⟩
  have hsM0 : wA0.heap.size ≤ wM.heap.size := hb.size
  have hsD0 : wD0.heap.size = wM.heap.size := hoM.size
  have hsE0 : wA0.heap.size ≤ wD0.heap.size := by omega
  clear d00 d01 d02 d03
  have HB' := Lib.hid ((HB.out.trans (hb.mono (by omega))).trans (hoM.below (by omega)))
  have HK' := Lib.hid ((HK.out.trans (hb.mono (by omega))).trans (hoM.below (by omega)))
  have HG' := Lib.hid (HG.out.same ((Same.of_below hb (by omega)).trans (hoM.same (by omega))))
  have HCG' := Lib.hid ((HCG.out.next hb).only hoM (by omega))
  clear hoM htM hb HC0 HY0 HB HK HG HCG
  have HB := HB'
  have HK := HK'
  have HG := HG'
  have HCG := HCG'
  clear HB' HK' HG' HCG'
  have hneg0 : ¬ r0 < 0 := by omega
  have s0 := (HYS.out.next HK.out).c0
  have s1 := (HYS.out.next HK.out).c1
  have s2 := (HYS.out.next HK.out).c2
  have g0 := HCG.out.c0
  have g1 := HCG.out.c1
  have g2 := HCG.out.c2
  go_wp2_with fail
  refine (eqComplex_true pS _ _ _ _ dsS msS _ HG.out.cx (HYS.out.next HK.out).cx hbd1 HBD.out.2).mono ?_
  rintro e we2 ⟨rfl, hb⟩
  have hse2 : wD0.heap.size ≤ we2.heap.size := hb.size
  clear s0 s1 s2 g0 g1 g2
  have HB' := Lib.hid (HB.out.trans (hb.mono (by omega)))
  have HK' := Lib.hid (HK.out.trans (hb.mono (by omega)))
  have HG' := Lib.hid (HG.out.same (Same.of_below hb (by omega)))
  have HCG' := Lib.hid (HCG.out.next hb)
  clear hb HB HK HG HCG
  have HB := HB'
  have HK := HK'
  have HG := HG'
  have HCG := HCG'
  clear HB' HK' HG' HCG'
  have g0 := HCG.out.c0
  have g1 := HCG.out.c1
  have g2 := HCG.out.c2
  go_wp2_with fail
  refine (markRC_any pS _ _ dsS msS _ HG.out (by omega)).mono ?_
  rintro e wG ⟨mm, wM2, rfl, hm0, hm1, hb, hoG, hmk⟩
  have hsM2 : we2.heap.size ≤ wM2.heap.size := hb.size
  have hsG0 : wG.heap.size = wM2.heap.size := hoG.size
  have hsG : we2.heap.size ≤ wG.heap.size := by omega
  clear g0 g1 g2
  have HB' := Lib.hid ((HB.out.trans (hb.mono (by omega))).trans (hoG.below (by omega)))
  have HK' := Lib.hid ((HK.out.trans (hb.mono (by omega))).trans (hoG.below (by omega)))
  have HCG' := Lib.hid ((HCG.out.next hb).only hoG (by omega))
  have HG' := Lib.hid hmk
  clear hoG hmk hb HB HK HG HCG
  have HB := HB'
  have HK := HK'
  have HG := HG'
  have HCG := HCG'
  clear HB' HK' HG' HCG'
  have hneg : ¬ mm < 0 := by omega
  have hsum : (mm != mm) = false := by simp
  have g0 := HCG.out.c0
  have g1 := HCG.out.c1
  have g2 := HCG.out.c2
  go_wp2_with fail
  refine (heldRC_any pS _ _ mm _ HG.out (by omega)).mono ?_
  rintro e wH1 ⟨rfl, hb⟩
  have hsH1 : wG.heap.size ≤ wH1.heap.size := hb.size
  clear g0 g1 g2
  have HB' := Lib.hid (HB.out.trans (hb.mono (by omega)))
  have HK' := Lib.hid (HK.out.trans (hb.mono (by omega)))
  have HG' := Lib.hid (HG.out.same (Same.of_below hb (by omega)))
  have HCG' := Lib.hid (HCG.out.next hb)
  clear hb HB HK HG HCG
  have HB := HB'
  have HK := HK'
  have HG := HG'
  have HCG := HCG'
  clear HB' HK' HG' HCG'
  have c00 := (HN0.out _ HB.out).c0
  have c01 := (HN0.out _ HB.out).c1
  have c02 := (HN0.out _ HB.out).c2
  have c03 := (HN0.out _ HB.out).c3
  have HQd : Hid (Below wH1.heap.size wH1 wH1) := Lib.hid (Below.refl _ _)
  go_wp2_with fail
  refine (toDoublec_any p0 dv0 av0 vv0 dl0 al0 vl0 _ (HN0.out _ HB.out).cx HMS0.out.b).mono ?_
  rintro e wJ0 ⟨xdv0J, xav0J, xvv0J, rfl, hc, hb⟩
  have hsJ0 : wH1.heap.size ≤ wJ0.heap.size := hb.size
  have HBJ0 := Lib.hid (HB.out.trans (hb.mono (by omega)))
  have HQ0 := Lib.hid (HQd.out.trans (hb.mono (by omega)))
  have HXJ0 := Lib.hid hc.zero
  clear hb hc
  clear c00 c01 c02 c03
  go_wp2_with fail
  refine (columnOfK_any p0 n1 xdv0J xav0J xvv0J dl0 al0 vl0 _ (HXJ0.out) HMS0.out.b).mono ?_
  rintro e wJr ⟨uJ, oJ, kJ, rfl, hrJ, hb, hoJ⟩
  have hsJr : wJ0.heap.size ≤ wJr.heap.size := hb.size
  have HQr := Lib.hid (HQ0.out.trans (hb.mono (by omega)))
  have HRJ := Lib.hid hrJ
  have HOJ := Lib.hid hoJ
  clear hb hrJ hoJ
  have hb := HQr.out
  clear HQd HQr HQ0 HXJ0 HBJ0
  have HB' := Lib.hid (HB.out.trans (hb.mono (by omega)))
  have HK' := Lib.hid (HK.out.trans (hb.mono (by omega)))
  have HG' := Lib.hid (HG.out.same (Same.of_below hb (by omega)))
  have HCG' := Lib.hid (HCG.out.next hb)
  clear hb HB HK HG HCG
  have HB := HB'
  have HK := HK'
  have HG := HG'
  have HCG := HCG'
  clear HB' HK' HG' HCG'
  obtain ⟨rfl, rfl⟩ := RsOut.unique (fun _ a b ha hb => ha.trans hb.symm) HOS.out HOJ.out
  obtain ⟨aJd, cJd, aJm, cJm, huJ, hcJ⟩ := HRJ.out
  have huJ : uJ = .agg #[.int .i64 pS, .slice aJd dsS.length cJd, .slice aJm msS.length cJm] := huJ
  subst huJ
  have HXJ : Hid (Cx 0 wJr (.slice aJd dsS.length cJd) (.slice aJm msS.length cJm) dsS msS) := Lib.hid hcJ.cx
  clear hcJ HRJ HOJ
  obtain ⟨wbJ, hwb⟩ : ∃ wbJ, wbJ = wJr.alloc (.cells #[.int .i64 pS, .slice aJd dsS.length cJd, .slice aJm msS.length cJm] 40) := ⟨_, rfl⟩
  have hb : Below wJr.heap.size wJr wbJ := by rw [hwb]; exact below_alloc1 _ _
  have hsbJ : wJr.heap.size + 1 = wbJ.heap.size := by rw [hwb]; simp
  have hsBJ : wJr.heap.size ≤ wbJ.heap.size := by omega
  have HYJ : Hid (Bq wbJ wJr.heap.size pS (.slice aJd dsS.length cJd) (.slice aJm msS.length cJm) dsS msS) := Lib.hid (by rw [hwb]; exact (Bx.start _ HXJ.out).bq)
  have HB' := Lib.hid (HB.out.trans (hb.mono (by omega)))
  have HK' := Lib.hid (HK.out.trans (hb.mono (by omega)))
  have HG' := Lib.hid (HG.out.same (Same.of_below hb (by omega)))
  have HCG' := Lib.hid (HCG.out.next hb)
  clear hb HB HK HG HCG
  have HB := HB'
  have HK := HK'
  have HG := HG'
  have HCG := HCG'
  clear HB' HK' HG' HCG'
  go_upto_region 25 with fail
  rw [← hwb]
  clear hwb
  clear HXJ
  have s0 := (HYS.out.next HK.out).c0
  have s1 := (HYS.out.next HK.out).c1
  have s2 := (HYS.out.next HK.out).c2
  have j0 := HYJ.out.c0
  have j1 := HYJ.out.c1
  have j2 := HYJ.out.c2
  go_wp2_with fail
  refine (eqComplex_true pS _ _ _ _ dsS msS _ HYJ.out.cx (HYS.out.next HK.out).cx hbd1 HBD.out.2).mono ?_
  rintro e wK ⟨rfl, hb⟩
  have hsK : wbJ.heap.size ≤ wK.heap.size := hb.size
  clear s0 s1 s2 j0 j1 j2
  clear HYJ
  have HB' := Lib.hid (HB.out.trans (hb.mono (by omega)))
  have HK' := Lib.hid (HK.out.trans (hb.mono (by omega)))
  have HG' := Lib.hid (HG.out.same (Same.of_below hb (by omega)))
  have HCG' := Lib.hid (HCG.out.next hb)
  clear hb HB HK HG HCG
  have HB := HB'
  have HK := HK'
  have HG := HG'
  have HCG := HCG'
  clear HB' HK' HG' HCG'
  have g0 := HCG.out.c0
  have g1 := HCG.out.c1
  have g2 := HCG.out.c2
  go_wp2_with fail
  refine (heldRC_any pS _ _ mm _ HG.out (by omega)).mono ?_
  rintro e wH2 ⟨rfl, hb⟩
  have hsH2 : wK.heap.size ≤ wH2.heap.size := hb.size
  clear g0 g1 g2
  have HB' := Lib.hid (HB.out.trans (hb.mono (by omega)))
  have HK' := Lib.hid (HK.out.trans (hb.mono (by omega)))
  have HG' := Lib.hid (HG.out.same (Same.of_below hb (by omega)))
  have HCG' := Lib.hid (HCG.out.next hb)
  clear hb HB HK HG HCG
  have HB := HB'
  have HK := HK'
  have HG := HG'
  have HCG := HCG'
  clear HB' HK' HG' HCG'
  go_wp2
  go_ret
  exact ⟨rfl, HNW.out _ HB.out⟩
end Go.Proofs.Ytbadjfnelpfhcaa

