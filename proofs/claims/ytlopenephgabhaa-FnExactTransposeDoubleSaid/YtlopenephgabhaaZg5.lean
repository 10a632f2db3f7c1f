/-
  Texts that ProofTzl needs, part 5.
-/
import Derived.Test.YtlopenephgabhaaZg4
namespace Go.Proofs.Ytlopenephgabhaa
open Go.RowKit

theorem l4_at {w : World} {av : Value} {ac : List (List (List (List Int)))} {i j : Nat} (h : L4 0 w av ac) (hi : i < ac.length) (hj : j < (ac[i]).length) :
    ∃ ba oa ca b2 o2 c2 u, av = .slice (some ⟨ba, oa, none⟩) ac.length ca ∧ w.cell? ⟨ba, oa + i, none⟩ = some (.slice (some ⟨b2, o2, none⟩) (ac[i]).length c2) ∧ w.cell? ⟨b2, o2 + j, none⟩ = some u ∧ L2 0 w u (ac[i])[j] := by
  rcases h with ⟨hx, _⟩ | ⟨ba, oa, ca, rfl, _, _, hcl⟩
  · exact absurd (hx ▸ hi) (Nat.not_lt_zero _)
  obtain ⟨u1, hu1, hr1⟩ := hcl i hi
  rcases hr1 with ⟨hx, _⟩ | ⟨b2, o2, c2, rfl, _, _, hcl2⟩
  · rw [hx] at hj; exact absurd hj (Nat.not_lt_zero _)
  obtain ⟨u2, hu2, hr2⟩ := hcl2 j hj
  exact ⟨ba, oa, ca, b2, o2, c2, u2, rfl, hu1, hu2, hr2⟩

set_option maxRecDepth 100000 in
set_option maxHeartbeats 4000000 in
theorem l03Step_out (b : Bool) (p i j : Int) (dv av vv va : Value) (ds : List (List Int)) (ac dn : List (List (List (List Int)))) (c : Nat) (w : World) (h : Dx 0 w dv av vv ds ac dn) (hok : DclOk ds) (hi : -1 ≤ i ∧ i ≤ 4) (hj : -1 ≤ j ∧ j ≤ 4)
    (hno : ¬ (0 ≤ i ∧ i < ds.length ∧ 0 ≤ j ∧ j < (ds.getD 0 []).length)) (hc : (if b = true then dco ds (i - 1) j else dco ds i (j - 1)) = (c : Int)) (hc4 : c ≤ 4) :
    Calls Try.prog 116 #[.agg #[.int .i64 p, dv, av, vv], .int .i64 i, .int .i64 j, va, .bool b] w fun e w' => ∃ u, e = .returned u ∧ L1 0 w' u (List.replicate c 0) ∧ Below w.heap.size w w' := by
  have hcel := hok
  have HOK := Lib.hid hok
  have hm4 := hok.len1
  have hm1 := hok.len0
  have hq1 := hok.h0
  have hq4 := hok.h1
  clear hok hcel
  have HX := Lib.hid h
  rcases h.dims with ⟨hx, _⟩ | ⟨bb, o, cd, rfl, _, hpos, hcl⟩
  · subst hx; simp at hm1
  obtain ⟨u0, hu0, hr0⟩ := hcl 0 hpos
  rw [Nat.add_zero] at hu0
  obtain ⟨a0, z0, rfl⟩ := Sl.shape hr0
  rw [← getD_of_lt [] hpos] at hu0
  clear hcl hr0 h
  obtain ⟨m, hm⟩ : ∃ m, m = ds.length := ⟨_, rfl⟩
  obtain ⟨q, hq⟩ : ∃ q, q = (ds.getD 0 []).length := ⟨_, rfl⟩
  have hx0 := DBx.start (p := p) 28 HX.out
  rw [← hm] at hm4 hm1 hpos hx0 ⊢
  rw [← hq] at hq1 hq4 hu0
  have hB : Below w.heap.size w (w.alloc (.cells #[.int .i64 p, .slice (some ⟨bb, o, none⟩) m cd, av, vv] 28)) := (Below.refl _ _).alloc (Nat.le_refl _) _
  have hu1 := later hB (Nat.le_refl _) hu0
  clear hB hu0
  obtain ⟨w1, hw1⟩ : ∃ w1, w1 = w.alloc (.cells #[.int .i64 p, .slice (some ⟨bb, o, none⟩) m cd, av, vv] 28) := ⟨_, rfl⟩
  rw [← hw1] at hx0 hu1
  have HM := Lib.hid hm
  have HQ := Lib.hid hq
  have HX1 := Lib.hid hx0
  have HU1 := Lib.hid hu1
  have HNX : Hid (∀ W, Below w1.heap.size w1 W → DBx w W w.heap.size p (.slice (some ⟨bb, o, none⟩) m cd) av vv ds ac dn ∧ W.cell? ⟨bb, o, none⟩ = some (.slice a0 q z0)) := Lib.hid (fun W hb => ⟨HX1.out.next hb, later hb (Nat.le_refl _) HU1.out⟩)
  have HDIM : Hid (∀ W, Below w1.heap.size w1 W → ∀ a e : Int, -1000 ≤ a ∧ a ≤ 1000 → -1000 ≤ e ∧ e ≤ 1000 → Calls Try.prog 90 #[.agg #[.int .i64 p, .slice (some ⟨bb, o, none⟩) m cd, av, vv], .int .i64 a, .int .i64 e] W fun r w' => r = .returned (.int .i64 (dco ds a e)) ∧ Below w1.heap.size w1 w') := Lib.hid (fun W hb a e ha he => by
    have h0 := (HNX.out W hb).1.dx.dims
    rw [HM.out] at h0 ⊢
    exact (l03Dim_any p a e _ av vv ds W h0 HOK.out ha he).mono fun _ _ hh => ⟨hh.1, hb.trans (hh.2.mono hb.size)⟩)
  have c0 := hx0.c0
  have c1 := hx0.c1
  have c2 := hx0.c2
  have c3 := hx0.c3
  have wj : IntKind.i64.wrap (j - 1) = j - 1 := IntWalk.i64_in _ (by omega)
  have wi : IntKind.i64.wrap (i - 1) = i - 1 := IntWalk.i64_in _ (by omega)
  have wm : IntKind.i64.wrap ((m : Int) - 1) = (m : Int) - 1 := IntWalk.i64_in _ (by omega)
  have wq : IntKind.i64.wrap ((q : Int) - 1) = (q : Int) - 1 := IntWalk.i64_in _ (by omega)
  clear hm hq hx0 hu1
  cases b
  · have hce : dco ds i (j - 1) = (c : Int) := by simpa using hc
    have hmk := run_make_row' (P := Try.prog) 35 2 (.int .i64 0) 8 Try.underlying35 Try.infoI rfl .i64 .i64 c (by omega) (by omega)
    have HEND : Hid (∀ W, Below w1.heap.size w1 W → ∃ u, Ending.returned (Value.slice (some ⟨W.heap.size, 0, none⟩) c c) = .returned u ∧ L1 0 (W.alloc (.cells (madeCells #[.int .i64 0] c) 2)) u (List.replicate c 0) ∧ Below w.heap.size w (W.alloc (.cells (madeCells #[.int .i64 0] c) 2))) := Lib.hid (fun W hb => ⟨_, rfl, l1_zeros _ _, (HX1.out.below.trans (hb.mono HX1.out.below.size)).alloc (by have := HX1.out.below.size; have := hb.size; omega) _⟩)
    go_enter Try.func116, Try.ntmps116
    go_wp2_with fail
    rw [← hw1]
    refine (HDIM.out w1 (Below.refl _ _) i (j - 1) (by omega) (by omega)).mono ?_
    rintro r W1 ⟨rfl, hb1⟩
    obtain ⟨W2, hW2⟩ : ∃ W2, W2 = W1 := ⟨_, rfl⟩
    rw [← hW2] at hb1 ⊢
    clear c0 c1 c2 c3 hW2 hw1
    have hb2 := hb1
    clear hb1
    have HB2 := Lib.hid hb2
    have hnx2 := HNX.out W2 hb2
    have c0 := hnx2.1.c0
    have c1 := hnx2.1.c1
    have c2 := hnx2.1.c2
    have c3 := hnx2.1.c3
    have hu2 := hnx2.2
    clear hb2 hnx2
    rw [hce]
    clear hce
    by_cases h1 : 0 ≤ i ∧ i ≤ (m : Int) - 1
    · have h2 : ¬ (0 ≤ j ∧ j ≤ (q : Int) - 1) := fun h => hno ⟨h1.1, by have := HM.out; omega, h.1, by have := HQ.out; omega⟩
      have I1 : Hid (∀ W, Calls Try.prog 54 #[.int .i64 i, .int .i64 0, .int .i64 ((m : Int) - 1)] W (QW (.bool true) W)) := Lib.hid (fun W => spin_yes h1 W)
      have I2 : Hid (∀ W, Calls Try.prog 54 #[.int .i64 j, .int .i64 0, .int .i64 ((q : Int) - 1)] W (QW (.bool false) W)) := Lib.hid (fun W => spin_no h2 W)
      clear h1 h2
      go_wp2_with fail
      refine (I1.out _).mono ?_
      rintro e w' ⟨rfl, rfl⟩
      go_wp2_with fail
      refine (I2.out _).mono ?_
      rintro e w' ⟨rfl, rfl⟩
      go_wp2
      go_ret
      exact HEND.out _ HB2.out
    · have I1 : Hid (∀ W, Calls Try.prog 54 #[.int .i64 i, .int .i64 0, .int .i64 ((m : Int) - 1)] W (QW (.bool false) W)) := Lib.hid (fun W => spin_no h1 W)
      clear h1
      go_wp2_with fail
      refine (I1.out _).mono ?_
      rintro e w' ⟨rfl, rfl⟩
      go_wp2
      go_ret
      exact HEND.out _ HB2.out
  · have hce : dco ds (i - 1) j = (c : Int) := by simpa using hc
    have hmk := run_make_row' (P := Try.prog) 35 2 (.int .i64 0) 8 Try.underlying35 Try.infoI rfl .i64 .i64 c (by omega) (by omega)
    have HEND : Hid (∀ W, Below w1.heap.size w1 W → ∃ u, Ending.returned (Value.slice (some ⟨W.heap.size, 0, none⟩) c c) = .returned u ∧ L1 0 (W.alloc (.cells (madeCells #[.int .i64 0] c) 2)) u (List.replicate c 0) ∧ Below w.heap.size w (W.alloc (.cells (madeCells #[.int .i64 0] c) 2))) := Lib.hid (fun W hb => ⟨_, rfl, l1_zeros _ _, (HX1.out.below.trans (hb.mono HX1.out.below.size)).alloc (by have := HX1.out.below.size; have := hb.size; omega) _⟩)
    go_enter Try.func116, Try.ntmps116
    go_wp2_with fail
    rw [← hw1]
    refine (HDIM.out w1 (Below.refl _ _) i (j - 1) (by omega) (by omega)).mono ?_
    rintro r W1 ⟨rfl, hb1⟩
    clear c0 c1 c2 c3 hw1
    have HB1 := Lib.hid hb1
    have hnx1 := HNX.out W1 hb1
    have c0 := hnx1.1.c0
    have c1 := hnx1.1.c1
    have c2 := hnx1.1.c2
    have c3 := hnx1.1.c3
    have hu1 := hnx1.2
    clear hb1 hnx1
    go_wp2_with fail
    refine (HDIM.out W1 HB1.out (i - 1) j (by omega) (by omega)).mono ?_
    rintro r W2 ⟨rfl, hb2⟩
    clear c0 c1 c2 c3 hu1
    have HB2 := Lib.hid hb2
    have hnx2 := HNX.out W2 hb2
    have c0 := hnx2.1.c0
    have c1 := hnx2.1.c1
    have c2 := hnx2.1.c2
    have c3 := hnx2.1.c3
    have hu2 := hnx2.2
    clear hb2 hnx2
    rw [hce]
    clear hce
    by_cases h1 : 0 ≤ i ∧ i ≤ (m : Int) - 1
    · have h2 : ¬ (0 ≤ j ∧ j ≤ (q : Int) - 1) := fun h => hno ⟨h1.1, by have := HM.out; omega, h.1, by have := HQ.out; omega⟩
      have I1 : Hid (∀ W, Calls Try.prog 54 #[.int .i64 i, .int .i64 0, .int .i64 ((m : Int) - 1)] W (QW (.bool true) W)) := Lib.hid (fun W => spin_yes h1 W)
      have I2 : Hid (∀ W, Calls Try.prog 54 #[.int .i64 j, .int .i64 0, .int .i64 ((q : Int) - 1)] W (QW (.bool false) W)) := Lib.hid (fun W => spin_no h2 W)
      clear h1 h2
      go_wp2_with fail
      refine (I1.out _).mono ?_
      rintro e w' ⟨rfl, rfl⟩
      go_wp2_with fail
      refine (I2.out _).mono ?_
      rintro e w' ⟨rfl, rfl⟩
      go_wp2
      go_ret
      exact HEND.out _ HB2.out
    · have I1 : Hid (∀ W, Calls Try.prog 54 #[.int .i64 i, .int .i64 0, .int .i64 ((m : Int) - 1)] W (QW (.bool false) W)) := Lib.hid (fun W => spin_no h1 W)
      clear h1
      go_wp2_with fail
      refine (I1.out _).mono ?_
      rintro e w' ⟨rfl, rfl⟩
      go_wp2
      go_ret
      exact HEND.out _ HB2.out

set_option maxRecDepth 100000 in
set_option maxHeartbeats 4000000 in
theorem l03Step_in (b : Bool) (p i j : Int) (dv av vv va : Value) (ds : List (List Int)) (ac dn : List (List (List (List Int)))) (c : Nat) (v : List Int) (w : World) (h : Dx 0 w dv av vv ds ac dn) (hok : DclOk ds) (htb : TbsOk p ds ac dn) (hv : L1 0 w va v) (hv40 : v.length ≤ 40)
    (hin : 0 ≤ i ∧ i < ds.length ∧ 0 ≤ j ∧ j < (ds.getD 0 []).length) (hc : (if b = true then dco ds (i - 1) j else dco ds i (j - 1)) = (c : Int)) (hc4 : c ≤ 4) (hap : ApOk p c v (tbl (if b = true then ac else dn) (i.toNat, j.toNat))) :
    Calls Try.prog 116 #[.agg #[.int .i64 p, dv, av, vv], .int .i64 i, .int .i64 j, va, .bool b] w fun e w' => ∃ u, e = .returned u ∧ L1 0 w' u (apT p c v (tbl (if b = true then ac else dn) (i.toNat, j.toNat))) ∧ Below w.heap.size w w' := by
  have HAP := Lib.hid hap
  have HV1 := Lib.hid hv
  have HTB := Lib.hid htb
  have hi4 : i ≤ 4 := by have := hok.len1; omega
  have hj4 : j ≤ 4 := by have := hok.h1; omega
  obtain ⟨av0, vc0, hvs⟩ := Sl.shape hv
  obtain ⟨vn, hvn⟩ : ∃ n, n = v.length := ⟨_, rfl⟩
  rw [← hvn] at hvs
  clear hap hv htb hvn
  have hcel := hok
  have HOK := Lib.hid hok
  have hm4 := hok.len1
  have hm1 := hok.len0
  have hq1 := hok.h0
  have hq4 := hok.h1
  clear hok hcel
  have HX := Lib.hid h
  rcases h.dims with ⟨hx, _⟩ | ⟨bb, o, cd, rfl, _, hpos, hcl⟩
  · subst hx; simp at hm1
  obtain ⟨u0, hu0, hr0⟩ := hcl 0 hpos
  rw [Nat.add_zero] at hu0
  obtain ⟨a0, z0, rfl⟩ := Sl.shape hr0
  rw [← getD_of_lt [] hpos] at hu0
  clear hcl hr0 h
  obtain ⟨m, hm⟩ : ∃ m, m = ds.length := ⟨_, rfl⟩
  obtain ⟨q, hq⟩ : ∃ q, q = (ds.getD 0 []).length := ⟨_, rfl⟩
  have hx0 := DBx.start (p := p) 28 HX.out
  rw [← hm] at hm4 hm1 hpos hx0 ⊢
  rw [← hq] at hq1 hq4 hu0
  have hB : Below w.heap.size w (w.alloc (.cells #[.int .i64 p, .slice (some ⟨bb, o, none⟩) m cd, av, vv] 28)) := (Below.refl _ _).alloc (Nat.le_refl _) _
  have hu1 := later hB (Nat.le_refl _) hu0
  clear hB hu0
  obtain ⟨w1, hw1⟩ : ∃ w1, w1 = w.alloc (.cells #[.int .i64 p, .slice (some ⟨bb, o, none⟩) m cd, av, vv] 28) := ⟨_, rfl⟩
  rw [← hw1] at hx0 hu1
  have HM := Lib.hid hm
  have HQ := Lib.hid hq
  have HX1 := Lib.hid hx0
  have HU1 := Lib.hid hu1
  have HNX : Hid (∀ W, Below w1.heap.size w1 W → DBx w W w.heap.size p (.slice (some ⟨bb, o, none⟩) m cd) av vv ds ac dn ∧ W.cell? ⟨bb, o, none⟩ = some (.slice a0 q z0)) := Lib.hid (fun W hb => ⟨HX1.out.next hb, later hb (Nat.le_refl _) HU1.out⟩)
  have HDIM : Hid (∀ W, Below w1.heap.size w1 W → ∀ a e : Int, -1000 ≤ a ∧ a ≤ 1000 → -1000 ≤ e ∧ e ≤ 1000 → Calls Try.prog 90 #[.agg #[.int .i64 p, .slice (some ⟨bb, o, none⟩) m cd, av, vv], .int .i64 a, .int .i64 e] W fun r w' => r = .returned (.int .i64 (dco ds a e)) ∧ Below w1.heap.size w1 w') := Lib.hid (fun W hb a e ha he => by
    have h0 := (HNX.out W hb).1.dx.dims
    rw [HM.out] at h0 ⊢
    exact (l03Dim_any p a e _ av vv ds W h0 HOK.out ha he).mono fun _ _ hh => ⟨hh.1, hb.trans (hh.2.mono hb.size)⟩)
  have c0 := hx0.c0
  have c1 := hx0.c1
  have c2 := hx0.c2
  have c3 := hx0.c3
  have wj : IntKind.i64.wrap (j - 1) = j - 1 := IntWalk.i64_in _ (by omega)
  have wi : IntKind.i64.wrap (i - 1) = i - 1 := IntWalk.i64_in _ (by omega)
  have wm : IntKind.i64.wrap ((m : Int) - 1) = (m : Int) - 1 := IntWalk.i64_in _ (by omega)
  have wq : IntKind.i64.wrap ((q : Int) - 1) = (q : Int) - 1 := IntWalk.i64_in _ (by omega)
  clear hm hq hx0 hu1
  cases b
  · simp only [Bool.false_eq_true, if_false]
    subst hvs
    have hce : dco ds i (j - 1) = (c : Int) := by simpa using hc
    obtain ⟨i, rfl⟩ : ∃ a : Nat, i = (a : Int) := ⟨i.toNat, by omega⟩
    obtain ⟨j, rfl⟩ : ∃ a : Nat, j = (a : Int) := ⟨j.toNat, by omega⟩
    have himn : i < m := by have := HM.out; omega
    have hjqn : j < q := by have := HQ.out; omega
    have hia : i < dn.length := by rw [HTB.out.ld, ← HM.out]; exact himn
    have hja : j < (dn[i]).length := by have h1 := HTB.out.cd i (by rw [← HM.out]; exact himn); rw [getD_of_lt _ hia, getD_of_lt _ (show i < ds.length by rw [← HM.out]; exact himn), (HOK.out.col _ (List.getElem_mem _)).1, ← HQ.out] at h1; omega
    obtain ⟨ba, oa, ca, b2, o2, k2, ut, hva, hA1, hA2, hTl⟩ := l4_at HX1.out.dx.down hia hja
    subst hva
    have hTt : (dn[i])[j] = tbl dn (i, j) := by unfold tbl; dsimp only; rw [getD_of_lt _ hia, getD_of_lt _ hja]
    rw [hTt] at hTl
    obtain ⟨n1, hn1⟩ : ∃ n, n = dn.length := ⟨_, rfl⟩
    obtain ⟨n2, hn2⟩ : ∃ n, n = (dn[i]).length := ⟨_, rfl⟩
    rw [← hn1] at HX1 HNX HDIM c3 hw1 ⊢
    rw [← hn2] at hA1
    have hi1 : i < n1 := by omega
    have hj2 : j < n2 := by omega
    have HA1 := Lib.hid hA1
    have HA2 := Lib.hid hA2
    have HTL := Lib.hid hTl
    clear hn1 hn2 hA1 hA2 hTl hTt hia hja
    obtain ⟨ta, tc, hut⟩ := Sl.shape HTL.out
    obtain ⟨n3, hn3⟩ : ∃ n, n = (tbl dn (i, j)).length := ⟨_, rfl⟩
    rw [← hn3] at hut
    subst hut
    clear hn3
    have HAP2 : Hid (ApOk p c v (tbl dn (i, j))) := Lib.hid (by simpa using HAP.out)
    have hi0 : (0 : Int) ≤ (i : Int) := by omega
    have hj0 : (0 : Int) ≤ (j : Int) := by omega
    go_enter Try.func116, Try.ntmps116
    go_wp2_with fail
    rw [← hw1]
    refine (HDIM.out w1 (Below.refl _ _) i (j - 1) (by omega) (by omega)).mono ?_
    rintro r W1 ⟨rfl, hb1⟩
    obtain ⟨W2, hW2⟩ : ∃ W2, W2 = W1 := ⟨_, rfl⟩
    rw [← hW2] at hb1 ⊢
    clear c0 c1 c2 c3 hW2 hw1
    have hb2 := hb1
    clear hb1
    have HB2 := Lib.hid hb2
    have hnx2 := HNX.out W2 hb2
    have c0 := hnx2.1.c0
    have c1 := hnx2.1.c1
    have c2 := hnx2.1.c2
    have c3 := hnx2.1.c3
    have hu2 := hnx2.2
    clear hb2 hnx2
    rw [hce]
    clear hce
    have I1 : Hid (∀ W, Calls Try.prog 54 #[.int .i64 (i : Int), .int .i64 0, .int .i64 ((m : Int) - 1)] W (QW (.bool true) W)) := Lib.hid (fun W => spin_yes ⟨by omega, by omega⟩ W)
    have I2 : Hid (∀ W, Calls Try.prog 54 #[.int .i64 (j : Int), .int .i64 0, .int .i64 ((q : Int) - 1)] W (QW (.bool true) W)) := Lib.hid (fun W => spin_yes ⟨by omega, by omega⟩ W)
    go_wp2_with fail
    refine (I1.out _).mono ?_
    rintro e w' ⟨rfl, rfl⟩
    go_wp2_with fail
    refine (I2.out _).mono ?_
    rintro e w' ⟨rfl, rfl⟩
    go_upto_region 8 with fail
    refine wp_region_held (S := fun W => Below w1.heap.size w1 W) (by kernel_rfl) ?_
    have S0 : Below w1.heap.size w1 W2.drew := HB2.out.drew
    change wpAnyH _ _ _ _ _ _ _ _ W2.drew
    obtain ⟨wd, hwd⟩ : ∃ wd, wd = W2.drew := ⟨_, rfl⟩
    rw [← hwd] at S0 ⊢
    clear hwd
    refine held_take (i := 0) (v := .pointer (some ⟨w.heap.size, 0, none⟩)) (some 57) rfl rfl (by kernel_rfl) (by kernel_rfl) (by kernel_rfl) (fun _ _ _ h => h) (yieldsIf_run (by kernel_rfl) (fun W _ => by kernel_rfl)) S0 ?_
    refine held_take (i := 1) (v := .int .i64 p) (some 58) rfl rfl (by kernel_rfl) (by kernel_rfl) (by kernel_rfl) (fun _ _ _ h => h) (yieldsIf_cell (by kernel_rfl) rfl (by kernel_rfl) (fun W h => hloadIn W (HNX.out W h).1.c0)) S0 ?_
    refine held_take (i := 2) (v := .pointer (some ⟨w.heap.size, 3, none⟩)) (some 59) rfl rfl (by kernel_rfl) (by kernel_rfl) (by kernel_rfl) (fun _ _ _ h => h) (yieldsIf_run (by kernel_rfl) (fun W _ => by kernel_rfl)) S0 ?_
    refine held_take (i := 3) (v := .slice (some ⟨ba, oa, none⟩) n1 ca) (some 60) rfl rfl (by kernel_rfl) (by kernel_rfl) (by kernel_rfl) (fun _ _ _ h => h) (yieldsIf_cell (by kernel_rfl) rfl (by kernel_rfl) (fun W h => hload4 W (HNX.out W h).1.c3)) S0 ?_
    refine held_take (i := 4) (v := .int .i64 (i : Int)) (some 61) rfl rfl (by kernel_rfl) (by kernel_rfl) (by kernel_rfl) (fun _ _ _ h => h) (yieldsIf_move (by kernel_rfl) rfl (by kernel_rfl)) S0 ?_
    refine held_take (i := 5) (v := .pointer (some ⟨ba, oa + i, none⟩)) (some 62) rfl rfl (by kernel_rfl) (by kernel_rfl) (by kernel_rfl) (fun _ _ _ h => h) (yieldsIf_index (by kernel_rfl) rfl (by kernel_rfl) (by kernel_rfl) (hidx4 (cap := ca) rfl hi1)) S0 ?_
    refine held_take (i := 6) (v := .slice (some ⟨b2, o2, none⟩) n2 k2) (some 63) rfl rfl (by kernel_rfl) (by kernel_rfl) (by kernel_rfl) (fun _ _ _ h => h) (yieldsIf_cell (by kernel_rfl) rfl (by kernel_rfl) (fun W h => hload3s W (later h (Nat.le_refl _) HA1.out))) S0 ?_
    refine held_take (i := 7) (v := .int .i64 (j : Int)) (some 64) rfl rfl (by kernel_rfl) (by kernel_rfl) (by kernel_rfl) (fun _ _ _ h => h) (yieldsIf_move (by kernel_rfl) rfl (by kernel_rfl)) S0 ?_
    refine held_take (i := 8) (v := .pointer (some ⟨b2, o2 + j, none⟩)) (some 65) rfl rfl (by kernel_rfl) (by kernel_rfl) (by kernel_rfl) (fun _ _ _ h => h) (yieldsIf_index (by kernel_rfl) rfl (by kernel_rfl) (by kernel_rfl) (hidx3 b2 o2 k2 hj2)) S0 ?_
    refine held_take (i := 9) (v := .slice ta n3 tc) (some 66) rfl rfl (by kernel_rfl) (by kernel_rfl) (by kernel_rfl) (fun _ _ _ h => h) (yieldsIf_cell (by kernel_rfl) rfl (by kernel_rfl) (fun W h => hload2s W (later h (Nat.le_refl _) HA2.out))) S0 ?_
    refine held_take (i := 10) (v := .slice av0 vn vc0) (some 67) rfl rfl (by kernel_rfl) (by kernel_rfl) (by kernel_rfl) (fun _ _ _ h => h) (yieldsIf_move (by kernel_rfl) rfl (by kernel_rfl)) S0 ?_
    refine held_take (i := 11) (v := .int .i64 (c : Int)) (some 68) rfl rfl (by kernel_rfl) (by kernel_rfl) (by kernel_rfl) (fun _ _ _ h => h) (yieldsIf_move (by kernel_rfl) rfl (by kernel_rfl)) S0 ?_
    have HAPP : Hid (∀ W, Below w1.heap.size w1 W → Calls Try.prog 109 #[.int .i64 p, .slice ta n3 tc, .slice av0 vn vc0, .int .i64 (c : Int)] W (ApR p c v (tbl dn (i, j)) W)) := Lib.hid (fun W hb => l01Apply_any p c _ _ v _ W HAP2.out (HV1.out.below (HX1.out.below.trans (hb.mono HX1.out.below.size))) (HTL.out.below hb) (by omega) (by omega))
    refine held_enter (i := 12) (some 69) (f := 109) (args := #[.int .i64 p, .slice ta n3 tc, .slice av0 vn vc0, .int .i64 (c : Int)]) (by kernel_rfl) rfl rfl rfl (by kernel_rfl) (HAPP.out _ S0) ?_ (fun c w' h => by obtain ⟨_, h, _⟩ := h; cases h) (fun w' h => by obtain ⟨_, h, _⟩ := h; cases h)
    rintro e3 W3 ⟨u3, he3, hl3, hb3⟩
    injection he3 with he3
    subst he3
    have S1 : Below w1.heap.size w1 W3 := S0.trans (hb3.mono S0.size)
    refine ⟨S1, ?_⟩
    obtain ⟨a3, k3, hu3'⟩ := Sl.shape hl3
    obtain ⟨n4, hn4⟩ : ∃ n, n = (apT p c v (tbl dn (i, j))).length := ⟨_, rfl⟩
    rw [← hn4] at hu3'
    subst hu3'
    clear hn4
    refine held_take (i := 13) (v := .slice a3 n4 k3) (some 10) rfl rfl (by kernel_rfl) (by kernel_rfl) (by kernel_rfl) (fun _ _ _ h => h) (yieldsIf_assign (by kernel_rfl) rfl (by kernel_rfl)) S1 ?_
    refine wpAnyH_done (by kernel_rfl) ?_ _
    simp only [Act.put, List.setIfInBounds_toArray, List.set_cons_zero, List.set_cons_succ]
    have HL3 : Hid (L1 0 W3 (.slice a3 n4 k3) (apT p c v (tbl dn (i, j)))) := Lib.hid (hl3.lower (Nat.zero_le _))
    have HS1 := Lib.hid S1
    clear S0 S1 hl3 hb3
    go_wp2
    go_ret
    exact ⟨_, rfl, HL3.out, HX1.out.below.trans (HS1.out.mono HX1.out.below.size)⟩
  · simp only [if_true]
    subst hvs
    have hce : dco ds (i - 1) j = (c : Int) := by simpa using hc
    obtain ⟨i, rfl⟩ : ∃ a : Nat, i = (a : Int) := ⟨i.toNat, by omega⟩
    obtain ⟨j, rfl⟩ : ∃ a : Nat, j = (a : Int) := ⟨j.toNat, by omega⟩
    have himn : i < m := by have := HM.out; omega
    have hjqn : j < q := by have := HQ.out; omega
    have hia : i < ac.length := by rw [HTB.out.la, ← HM.out]; exact himn
    have hja : j < (ac[i]).length := by have h1 := HTB.out.ca i (by rw [← HM.out]; exact himn); rw [getD_of_lt _ hia, getD_of_lt _ (show i < ds.length by rw [← HM.out]; exact himn), (HOK.out.col _ (List.getElem_mem _)).1, ← HQ.out] at h1; omega
    obtain ⟨ba, oa, ca, b2, o2, k2, ut, hva, hA1, hA2, hTl⟩ := l4_at HX1.out.dx.across hia hja
    subst hva
    have hTt : (ac[i])[j] = tbl ac (i, j) := by unfold tbl; dsimp only; rw [getD_of_lt _ hia, getD_of_lt _ hja]
    rw [hTt] at hTl
    obtain ⟨n1, hn1⟩ : ∃ n, n = ac.length := ⟨_, rfl⟩
    obtain ⟨n2, hn2⟩ : ∃ n, n = (ac[i]).length := ⟨_, rfl⟩
    rw [← hn1] at HX1 HNX HDIM c2 hw1 ⊢
    rw [← hn2] at hA1
    have hi1 : i < n1 := by omega
    have hj2 : j < n2 := by omega
    have HA1 := Lib.hid hA1
    have HA2 := Lib.hid hA2
    have HTL := Lib.hid hTl
    clear hn1 hn2 hA1 hA2 hTl hTt hia hja
    obtain ⟨ta, tc, hut⟩ := Sl.shape HTL.out
    obtain ⟨n3, hn3⟩ : ∃ n, n = (tbl ac (i, j)).length := ⟨_, rfl⟩
    rw [← hn3] at hut
    subst hut
    clear hn3
    have HAP2 : Hid (ApOk p c v (tbl ac (i, j))) := Lib.hid (by simpa using HAP.out)
    have hi0 : (0 : Int) ≤ (i : Int) := by omega
    have hj0 : (0 : Int) ≤ (j : Int) := by omega
    go_enter Try.func116, Try.ntmps116
    go_wp2_with fail
    rw [← hw1]
    refine (HDIM.out w1 (Below.refl _ _) i (j - 1) (by omega) (by omega)).mono ?_
    rintro r W1 ⟨rfl, hb1⟩
    clear c0 c1 c2 c3 hw1
    have HB1 := Lib.hid hb1
    have hnx1 := HNX.out W1 hb1
    have c0 := hnx1.1.c0
    have c1 := hnx1.1.c1
    have c2 := hnx1.1.c2
    have c3 := hnx1.1.c3
    have hu1 := hnx1.2
    clear hb1 hnx1
    go_wp2_with fail
    refine (HDIM.out W1 HB1.out (i - 1) j (by omega) (by omega)).mono ?_
    rintro r W2 ⟨rfl, hb2⟩
    clear c0 c1 c2 c3 hu1
    have HB2 := Lib.hid hb2
    have hnx2 := HNX.out W2 hb2
    have c0 := hnx2.1.c0
    have c1 := hnx2.1.c1
    have c2 := hnx2.1.c2
    have c3 := hnx2.1.c3
    have hu2 := hnx2.2
    clear hb2 hnx2
    rw [hce]
    clear hce
    have I1 : Hid (∀ W, Calls Try.prog 54 #[.int .i64 (i : Int), .int .i64 0, .int .i64 ((m : Int) - 1)] W (QW (.bool true) W)) := Lib.hid (fun W => spin_yes ⟨by omega, by omega⟩ W)
    have I2 : Hid (∀ W, Calls Try.prog 54 #[.int .i64 (j : Int), .int .i64 0, .int .i64 ((q : Int) - 1)] W (QW (.bool true) W)) := Lib.hid (fun W => spin_yes ⟨by omega, by omega⟩ W)
    go_wp2_with fail
    refine (I1.out _).mono ?_
    rintro e w' ⟨rfl, rfl⟩
    go_wp2_with fail
    refine (I2.out _).mono ?_
    rintro e w' ⟨rfl, rfl⟩
    go_upto_region 7 with fail
    refine wp_region_held (S := fun W => Below w1.heap.size w1 W) (by kernel_rfl) ?_
    have S0 : Below w1.heap.size w1 W2.drew := HB2.out.drew
    change wpAnyH _ _ _ _ _ _ _ _ W2.drew
    obtain ⟨wd, hwd⟩ : ∃ wd, wd = W2.drew := ⟨_, rfl⟩
    rw [← hwd] at S0 ⊢
    clear hwd
    refine held_take (i := 0) (v := .pointer (some ⟨w.heap.size, 0, none⟩)) (some 44) rfl rfl (by kernel_rfl) (by kernel_rfl) (by kernel_rfl) (fun _ _ _ h => h) (yieldsIf_run (by kernel_rfl) (fun W _ => by kernel_rfl)) S0 ?_
    refine held_take (i := 1) (v := .int .i64 p) (some 45) rfl rfl (by kernel_rfl) (by kernel_rfl) (by kernel_rfl) (fun _ _ _ h => h) (yieldsIf_cell (by kernel_rfl) rfl (by kernel_rfl) (fun W h => hloadIn W (HNX.out W h).1.c0)) S0 ?_
    refine held_take (i := 2) (v := .pointer (some ⟨w.heap.size, 2, none⟩)) (some 46) rfl rfl (by kernel_rfl) (by kernel_rfl) (by kernel_rfl) (fun _ _ _ h => h) (yieldsIf_run (by kernel_rfl) (fun W _ => by kernel_rfl)) S0 ?_
    refine held_take (i := 3) (v := .slice (some ⟨ba, oa, none⟩) n1 ca) (some 47) rfl rfl (by kernel_rfl) (by kernel_rfl) (by kernel_rfl) (fun _ _ _ h => h) (yieldsIf_cell (by kernel_rfl) rfl (by kernel_rfl) (fun W h => hload4 W (HNX.out W h).1.c2)) S0 ?_
    refine held_take (i := 4) (v := .int .i64 (i : Int)) (some 48) rfl rfl (by kernel_rfl) (by kernel_rfl) (by kernel_rfl) (fun _ _ _ h => h) (yieldsIf_move (by kernel_rfl) rfl (by kernel_rfl)) S0 ?_
    refine held_take (i := 5) (v := .pointer (some ⟨ba, oa + i, none⟩)) (some 49) rfl rfl (by kernel_rfl) (by kernel_rfl) (by kernel_rfl) (fun _ _ _ h => h) (yieldsIf_index (by kernel_rfl) rfl (by kernel_rfl) (by kernel_rfl) (hidx4 (cap := ca) rfl hi1)) S0 ?_
    refine held_take (i := 6) (v := .slice (some ⟨b2, o2, none⟩) n2 k2) (some 50) rfl rfl (by kernel_rfl) (by kernel_rfl) (by kernel_rfl) (fun _ _ _ h => h) (yieldsIf_cell (by kernel_rfl) rfl (by kernel_rfl) (fun W h => hload3s W (later h (Nat.le_refl _) HA1.out))) S0 ?_
    refine held_take (i := 7) (v := .int .i64 (j : Int)) (some 51) rfl rfl (by kernel_rfl) (by kernel_rfl) (by kernel_rfl) (fun _ _ _ h => h) (yieldsIf_move (by kernel_rfl) rfl (by kernel_rfl)) S0 ?_
    refine held_take (i := 8) (v := .pointer (some ⟨b2, o2 + j, none⟩)) (some 52) rfl rfl (by kernel_rfl) (by kernel_rfl) (by kernel_rfl) (fun _ _ _ h => h) (yieldsIf_index (by kernel_rfl) rfl (by kernel_rfl) (by kernel_rfl) (hidx3 b2 o2 k2 hj2)) S0 ?_
    refine held_take (i := 9) (v := .slice ta n3 tc) (some 53) rfl rfl (by kernel_rfl) (by kernel_rfl) (by kernel_rfl) (fun _ _ _ h => h) (yieldsIf_cell (by kernel_rfl) rfl (by kernel_rfl) (fun W h => hload2s W (later h (Nat.le_refl _) HA2.out))) S0 ?_
    refine held_take (i := 10) (v := .slice av0 vn vc0) (some 54) rfl rfl (by kernel_rfl) (by kernel_rfl) (by kernel_rfl) (fun _ _ _ h => h) (yieldsIf_move (by kernel_rfl) rfl (by kernel_rfl)) S0 ?_
    refine held_take (i := 11) (v := .int .i64 (c : Int)) (some 55) rfl rfl (by kernel_rfl) (by kernel_rfl) (by kernel_rfl) (fun _ _ _ h => h) (yieldsIf_move (by kernel_rfl) rfl (by kernel_rfl)) S0 ?_
    have HAPP : Hid (∀ W, Below w1.heap.size w1 W → Calls Try.prog 109 #[.int .i64 p, .slice ta n3 tc, .slice av0 vn vc0, .int .i64 (c : Int)] W (ApR p c v (tbl ac (i, j)) W)) := Lib.hid (fun W hb => l01Apply_any p c _ _ v _ W HAP2.out (HV1.out.below (HX1.out.below.trans (hb.mono HX1.out.below.size))) (HTL.out.below hb) (by omega) (by omega))
    refine held_enter (i := 12) (some 56) (f := 109) (args := #[.int .i64 p, .slice ta n3 tc, .slice av0 vn vc0, .int .i64 (c : Int)]) (by kernel_rfl) rfl rfl rfl (by kernel_rfl) (HAPP.out _ S0) ?_ (fun c w' h => by obtain ⟨_, h, _⟩ := h; cases h) (fun w' h => by obtain ⟨_, h, _⟩ := h; cases h)
    rintro e3 W3 ⟨u3, he3, hl3, hb3⟩
    injection he3 with he3
    subst he3
    have S1 : Below w1.heap.size w1 W3 := S0.trans (hb3.mono S0.size)
    refine ⟨S1, ?_⟩
    obtain ⟨a3, k3, hu3'⟩ := Sl.shape hl3
    obtain ⟨n4, hn4⟩ : ∃ n, n = (apT p c v (tbl ac (i, j))).length := ⟨_, rfl⟩
    rw [← hn4] at hu3'
    subst hu3'
    clear hn4
    refine held_take (i := 13) (v := .slice a3 n4 k3) (some 10) rfl rfl (by kernel_rfl) (by kernel_rfl) (by kernel_rfl) (fun _ _ _ h => h) (yieldsIf_assign (by kernel_rfl) rfl (by kernel_rfl)) S1 ?_
    refine wpAnyH_done (by kernel_rfl) ?_ _
    simp only [Act.put, List.setIfInBounds_toArray, List.set_cons_zero, List.set_cons_succ]
    have HL3 : Hid (L1 0 W3 (.slice a3 n4 k3) (apT p c v (tbl ac (i, j)))) := Lib.hid (hl3.lower (Nat.zero_le _))
    have HS1 := Lib.hid S1
    clear S0 S1 hl3 hb3
    go_wp2
    go_ret
    exact ⟨_, rfl, HL3.out, HX1.out.below.trans (HS1.out.mono HX1.out.below.size)⟩
end Go.Proofs.Ytlopenephgabhaa


namespace Go.Proofs.Ytlopenephgabhaa
open Go.RowKit

theorem less_bd1 {p k a b : Int} (hp : IsP p) (hb : 0 ≤ b ∧ b < p) (hk : -1 ≤ k ∧ k < p) : -42 ≤ k * b ∧ k * b ≤ 42 ∧ (a - k * b) % p = (a + -k * b) % p := by
  refine ⟨?_, ?_, by rw [Int.neg_mul, Int.sub_eq_add_neg]⟩
  · by_cases h : 0 ≤ k
    · have := (less_bd (a := a) hp hb ⟨h, hk.2⟩).1
      omega
    · obtain rfl : k = -1 := by omega
      have := hp.hi
      omega
  · by_cases h : 0 ≤ k
    · exact (less_bd (a := a) hp hb ⟨h, hk.2⟩).2.1
    · obtain rfl : k = -1 := by omega
      omega

set_option maxHeartbeats 3200000 in
set_option maxRecDepth 100000 in
theorem l01Less1_any (p k : Int) (n : Nat) (va vb : Value) (u t : Lin.V) (w : World) (hp : IsP p) (ha : L1 0 w va (toL n u)) (hb : L1 0 w vb (toL n t)) (hu : Lin.Md p u) (ht : Lin.Md p t) (hk : -1 ≤ k ∧ k < p) (hn : n ≤ 1048576) :
    Calls Try.prog 117 #[.int .i64 p, va, vb, .int .i64 k] w (GbR (toL n (Lin.add p u (-k) t)) w) := by
  have HP := Lib.hid hp
  have hp7 := hp.hi7
  have hp1 := hp.lo1
  have HA := Lib.hid ha
  have HB := Lib.hid hb
  have HU := Lib.hid hu
  have HT := Lib.hid ht
  obtain ⟨y, hy⟩ : ∃ y, y = Lin.add p u (-k) t := ⟨_, rfl⟩
  have HY := Lib.hid hy
  rw [← hy]
  obtain ⟨i1, hj, hy0, hy1, hy2⟩ := info_parts Try.infoI
  have HOWN := Lib.hid (World.ownsRow_made (base := w.heap.size) (e := 2) (size := 1) w #[] 0 (Nat.le_refl _) (by unfold maxLen; omega) (by simp))
  obtain ⟨ada, capa, hva⟩ := Sl.shape ha
  obtain ⟨adb, capb, hvb⟩ := Sl.shape hb
  rw [toL_length] at hva hvb
  subst hva hvb
  clear hp ha hb hu ht hy
  go_enter Try.func117, Try.ntmps117
  go_wp2
  go_loopw [9, 10] (fun o i wr => ∃ (q : Nat), q ≤ n ∧ i = .int .i64 q ∧ Hid (Below w.heap.size w wr) ∧ Hid (wr.ownsRow w.heap.size 2 1 o q ((toL q y).map (Value.int .i64)))) (fun _ i _ => n - (intOf i).toNat)
  case atStart => exact ⟨0, Nat.zero_le _, rfl, Lib.hid ((Below.refl _ _).alloc (Nat.le_refl _) _), Lib.hid (by simpa [toL] using HOWN.out)⟩
  case round =>
    clear HOWN
    obtain ⟨q, hq, rfl, HBE, HO⟩ := hrel
    by_cases hlt : q < n
    · refine Sl.cases HA.out (fun _ _ hx _ => absurd hlt (by have := congrArg List.length hx; rw [toL_length] at this; simp at this; omega)) (fun ba oa ca hva _ _ hca => ?_)
      refine Sl.cases HB.out (fun _ _ hx _ => absurd hlt (by have := congrArg List.length hx; rw [toL_length] at this; simp at this; omega)) (fun bb ob cb hvb _ _ hcb => ?_)
      rw [toL_length] at hva hvb
      obtain ⟨rfl, rfl⟩ : ada = some ⟨ba, oa, none⟩ ∧ capa = ca := by simpa using hva
      obtain ⟨rfl, rfl⟩ : adb = some ⟨bb, ob, none⟩ ∧ capb = cb := by simpa using hvb
      obtain ⟨ua, hua, hra⟩ := hca q (by rw [toL_length]; exact hlt)
      obtain ⟨ub, hub, hrb⟩ := hcb q (by rw [toL_length]; exact hlt)
      rw [toL_get] at hra hrb
      obtain ⟨a, haa⟩ : ∃ a, a = u q := ⟨_, rfl⟩
      obtain ⟨b, hbb⟩ : ∃ b, b = t q := ⟨_, rfl⟩
      have hab := HU.out q
      have hbb2 := HT.out q
      rw [← haa] at hra hab
      rw [← hbb] at hrb hbb2
      have h1 : wr.cell? ⟨ba, oa + q, none⟩ = some (.int .i64 a) := by rw [later HBE.out (Nat.le_refl _) hua, hra]
      have h2 : wr.cell? ⟨bb, ob + q, none⟩ = some (.int .i64 b) := by rw [later HBE.out (Nat.le_refl _) hub, hrb]
      obtain ⟨m0, m1, m2⟩ := less_bd1 (a := a) HP.out hbb2 hk
      have HM2 : Hid ((a - k * b) % p = y q) := Lib.hid (by rw [m2, HY.out, haa, hbb]; rfl)
      have hmod := fun W => l01Mod_any p (a - k * b) W HP.out
      rw [HM2.out] at hmod
      have HMOD := Lib.hid hmod
      have hsz : w.heap.size ≤ wr.heap.size := HBE.out.size
      have hca1 : ∀ W, Below w.heap.size w W → W.cell? ⟨ba, oa + q, none⟩ = some (.int .i64 a) := fun W h => by rw [later h (Nat.le_refl _) hua, hra]
      have hcb1 : ∀ W, Below w.heap.size w W → W.cell? ⟨bb, ob + q, none⟩ = some (.int .i64 b) := fun W h => by rw [later h (Nat.le_refl _) hub, hrb]
      have hmul : ∀ w, (binOp .mul 2 (.int .i64 k) (.int .i64 b)).run Try.prog w = .ok (.int .i64 (k * b)) w := fun w => hmulI (by omega) (by omega) w
      have hsub : ∀ w, (binOp .sub 2 (.int .i64 a) (.int .i64 (k * b))).run Try.prog w = .ok (.int .i64 (a - k * b)) w := fun w => hsubI (by omega) (by omega) w
      clear h1 h2
      clear hra hrb hca hcb hva hvb m2 haa hbb hmod
      go_wp2
      refine wp_region_held (S := fun W => Below w.heap.size w W) (by kernel_rfl) ?_
      have S0 : Below w.heap.size w wr.drew := HBE.out.drew
      refine held_take (i := 0) (v := u9) (some 18) rfl rfl (by kernel_rfl) (by kernel_rfl) (by kernel_rfl) (fun _ _ _ h => h) (yieldsIf_move (by kernel_rfl) rfl (by kernel_rfl)) S0 ?_
      refine held_take (i := 1) (v := .int .i64 p) (some 19) rfl rfl (by kernel_rfl) (by kernel_rfl) (by kernel_rfl) (fun _ _ _ h => h) (yieldsIf_move (by kernel_rfl) rfl (by kernel_rfl)) S0 ?_
      refine held_take (i := 2) (v := .slice (some ⟨ba, oa, none⟩) n capa) (some 20) rfl rfl (by kernel_rfl) (by kernel_rfl) (by kernel_rfl) (fun _ _ _ h => h) (yieldsIf_move (by kernel_rfl) rfl (by kernel_rfl)) S0 ?_
      refine held_take (i := 3) (v := .int .i64 (q : Int)) (some 21) rfl rfl (by kernel_rfl) (by kernel_rfl) (by kernel_rfl) (fun _ _ _ h => h) (yieldsIf_move (by kernel_rfl) rfl (by kernel_rfl)) S0 ?_
      refine held_take (i := 4) (v := .pointer (some ⟨ba, oa + q, none⟩)) (some 22) rfl rfl (by kernel_rfl) (by kernel_rfl) (by kernel_rfl) (fun _ _ _ h => h) (yieldsIf_index (by kernel_rfl) rfl (by kernel_rfl) (by kernel_rfl) (hidxI ba oa capa hlt)) S0 ?_
      refine held_take (i := 5) (v := .int .i64 a) (some 23) rfl rfl (by kernel_rfl) (by kernel_rfl) (by kernel_rfl) (fun _ _ _ h => h) (yieldsIf_cell (by kernel_rfl) rfl (by kernel_rfl) (fun W h => hload W (hca1 W h))) S0 ?_
      refine held_take (i := 6) (v := .int .i64 k) (some 24) rfl rfl (by kernel_rfl) (by kernel_rfl) (by kernel_rfl) (fun _ _ _ h => h) (yieldsIf_move (by kernel_rfl) rfl (by kernel_rfl)) S0 ?_
      refine held_take (i := 7) (v := .slice (some ⟨bb, ob, none⟩) n capb) (some 25) rfl rfl (by kernel_rfl) (by kernel_rfl) (by kernel_rfl) (fun _ _ _ h => h) (yieldsIf_move (by kernel_rfl) rfl (by kernel_rfl)) S0 ?_
      refine held_take (i := 8) (v := .int .i64 (q : Int)) (some 26) rfl rfl (by kernel_rfl) (by kernel_rfl) (by kernel_rfl) (fun _ _ _ h => h) (yieldsIf_move (by kernel_rfl) rfl (by kernel_rfl)) S0 ?_
      refine held_take (i := 9) (v := .pointer (some ⟨bb, ob + q, none⟩)) (some 27) rfl rfl (by kernel_rfl) (by kernel_rfl) (by kernel_rfl) (fun _ _ _ h => h) (yieldsIf_index (by kernel_rfl) rfl (by kernel_rfl) (by kernel_rfl) (hidxI bb ob capb hlt)) S0 ?_
      refine held_take (i := 10) (v := .int .i64 b) (some 28) rfl rfl (by kernel_rfl) (by kernel_rfl) (by kernel_rfl) (fun _ _ _ h => h) (yieldsIf_cell (by kernel_rfl) rfl (by kernel_rfl) (fun W h => hload W (hcb1 W h))) S0 ?_
      refine held_take (i := 11) (v := .int .i64 (k * b)) (some 29) rfl rfl (by kernel_rfl) (by kernel_rfl) (by kernel_rfl) (fun _ _ _ h => h) (yieldsIf_bin (by kernel_rfl) rfl (by kernel_rfl) (by kernel_rfl) (fun _ => rfl) hmul) S0 ?_
      refine held_take (i := 12) (v := .int .i64 (a - k * b)) (some 30) rfl rfl (by kernel_rfl) (by kernel_rfl) (by kernel_rfl) (fun _ _ _ h => h) (yieldsIf_bin (by kernel_rfl) rfl (by kernel_rfl) (by kernel_rfl) (fun _ => rfl) hsub) S0 ?_
      refine held_enter (i := 13) (some 31) (f := 128) (args := #[.int .i64 p, .int .i64 (a - k * b)]) (by kernel_rfl) rfl rfl rfl (by kernel_rfl) (HMOD.out _) ?_ (fun c w' h => by cases h.1) (fun w' h => by cases h.1)
      rintro e4 W4 ⟨he4, rfl⟩
      injection he4 with he4
      subst he4
      refine ⟨S0, ?_⟩
      have S1 : Below w.heap.size w (wr.drew.alloc (.cells #[.int .i64 (y q)] 2)) := S0.alloc hsz _
      have HOX := Lib.hid (HO.out.alloc (.cells #[.int .i64 (y q)] 2))
      refine held_buildI (i := 14) (some 32) (by kernel_rfl) rfl rfl rfl (.tmp 31) (y q) rfl (by kernel_rfl) ⟨S1, ?_⟩
      refine held_appendI (i := 15) (some 33) (by kernel_rfl) rfl rfl rfl (.tmp 18) (.tmp 32) rfl w.heap.size u9 q _ (by kernel_rfl) HOX.out wr.heap.size (y q) (by kernel_rfl) (cell_alloc1 wr.drew _ _) (by omega) (by simp; omega) ?_
      intro v' w3 hown hgrow
      have S2 : Below w.heap.size w w3 := S1.grown hgrow (by simp; omega) (fun g hg => ((HOX.out.lt) g hg).1)
      have HB3 := Lib.hid S2
      have HO3 : Hid (w3.ownsRow w.heap.size 2 1 v' (q + 1) ((toL (q + 1) y).map (Value.int .i64))) := Lib.hid (by rw [toL_succ, List.map_append]; exact hown)
      refine ⟨S2, ?_⟩
      refine held_take (i := 16) (v := v') (some 9) rfl rfl (by kernel_rfl) (by kernel_rfl) (by kernel_rfl) (fun _ _ _ h => h) (yieldsIf_assign (by kernel_rfl) rfl (by kernel_rfl)) S2 ?_
      refine wpAnyH_done (by kernel_rfl) ?_ _
      simp only [Act.put, List.setIfInBounds_toArray, List.set_cons_zero, List.set_cons_succ]
      clear S0 S1 S2 hown hgrow hca1 hcb1 hmul hsub HOX HO HBE
      go_wp2
      go_roundw
      case rel => exact ⟨q + 1, by omega, by go_num, HB3, HO3⟩
      case measure => simp [intOf]; omega
    · have hqq : Hid (q = n) := Lib.hid (by omega)
      go_wp2
      go_ret
      refine ⟨_, rfl, ?_, HBE.out⟩
      have := HO.out
      rw [hqq.out] at this
      unfold Gb
      rw [toL_length]
      exact this
end Go.Proofs.Ytlopenephgabhaa


namespace Go.Proofs.Ytlopenephgabhaa
open Go.RowKit

def inD (ds : List (List Int)) (i j : Int) : Prop := 0 ≤ i ∧ i < ds.length ∧ 0 ≤ j ∧ j < (ds.getD 0 []).length
instance (ds : List (List Int)) (i j : Int) : Decidable (inD ds i j) := by unfold inD; exact inferInstance
def wid (ds : List (List Int)) (b : Bool) (i j : Int) : Nat := (if b = true then dco ds (i - 1) j else dco ds i (j - 1)).toNat
/-- A step of the model. -/
def stp (p : Int) (ds : List (List Int)) (ac dn : List (List (List (List Int)))) (i j : Int) (v : List Int) (b : Bool) : List Int :=
  if inD ds i j then apT p (wid ds b i j) v (tbl (if b = true then ac else dn) (i.toNat, j.toNat)) else List.replicate (wid ds b i j) 0
theorem dco_bd {ds : List (List Int)} (hok : DclOk ds) (i j : Int) : 0 ≤ dco ds i j ∧ dco ds i j ≤ 4 := by
  unfold dco
  split
  · rename_i h
    have h1 : i.toNat < ds.length := by omega
    rw [getD_of_lt _ h1]
    have hc := hok.col _ (List.getElem_mem h1)
    have h2 : j.toNat < (ds[i.toNat]).length := by omega
    rw [getD_of_lt _ h2]
    exact hc.2 _ (List.getElem_mem h2)
  · omega
theorem dco_cell {ds : List (List Int)} (hok : DclOk ds) {c : Nat × Nat} (h : c ∈ cellsTo ds ds.length) : dco ds c.1 c.2 = (cdim ds c : Nat) := by
  obtain ⟨h1, h2⟩ := mem_cells.1 h
  rw [(cdim_cast hok h).1, dcl_nat]
  unfold dco
  rw [getD_of_lt _ h1, (hok.col _ (List.getElem_mem h1)).1] at h2
  rw [if_pos (by omega)]
  simp
theorem wid_cast {ds : List (List Int)} (hok : DclOk ds) (b : Bool) (i j : Int) : (if b = true then dco ds (i - 1) j else dco ds i (j - 1)) = ((wid ds b i j : Nat) : Int) ∧ wid ds b i j ≤ 4 := by
  unfold wid
  have h1 := dco_bd hok (i - 1) j
  have h2 := dco_bd hok i (j - 1)
  cases b
  · simp only [Bool.false_eq_true, if_false]; omega
  · simp only [if_true]; omega
/-- Where a step may be taken. -/
def StOk (p : Int) (ds : List (List Int)) (ac dn : List (List (List (List Int)))) (i j : Int) (v : List Int) (b : Bool) : Prop := inD ds i j → ApOk p (wid ds b i j) v (tbl (if b = true then ac else dn) (i.toNat, j.toNat))
theorem stp_ok {p : Int} {ds : List (List Int)} {ac dn : List (List (List (List Int)))} {i j : Int} {v : List Int} {b : Bool} (hp : IsP p) (h : StOk p ds ac dn i j v b) : RowOk p (wid ds b i j) (stp p ds ac dn i j v b) := by
  have hp0 := hp.lo
  unfold stp
  split
  · rename_i hi
    have ok := h hi
    refine ⟨by rw [apT_length ok], fun x hx => ?_⟩
    obtain ⟨k, hk, rfl⟩ := List.getElem_of_mem hx
    have := apTo_mod ok (Nat.le_refl v.length) k
    rw [show apTo p (wid ds b i j) v (tbl (if b = true then ac else dn) (i.toNat, j.toNat)) v.length = apT p (wid ds b i j) v (tbl (if b = true then ac else dn) (i.toNat, j.toNat)) from rfl, getD_of_lt _ hk] at this
    exact this
  · refine ⟨by simp, fun x hx => ?_⟩
    rw [List.eq_of_mem_replicate hx]
    omega
theorem l03Step_any (b : Bool) (p i j : Int) (dv av vv va : Value) (ds : List (List Int)) (ac dn : List (List (List (List Int)))) (v : List Int) (w : World) (h : Dx 0 w dv av vv ds ac dn) (hok : DclOk ds) (htb : TbsOk p ds ac dn) (hv : L1 0 w va v) (hv40 : v.length ≤ 40) (hi : -1 ≤ i ∧ i ≤ 4) (hj : -1 ≤ j ∧ j ≤ 4) (hst : StOk p ds ac dn i j v b) :
    Calls Try.prog 116 #[.agg #[.int .i64 p, dv, av, vv], .int .i64 i, .int .i64 j, va, .bool b] w fun e w' => ∃ u, e = .returned u ∧ L1 0 w' u (stp p ds ac dn i j v b) ∧ Below w.heap.size w w' := by
  have hw := wid_cast hok b i j
  by_cases hin : inD ds i j
  · rw [show stp p ds ac dn i j v b = apT p (wid ds b i j) v (tbl (if b = true then ac else dn) (i.toNat, j.toNat)) from if_pos hin]
    exact l03Step_in b p i j dv av vv va ds ac dn (wid ds b i j) v w h hok htb hv hv40 hin hw.1 hw.2 (hst hin)
  · rw [show stp p ds ac dn i j v b = List.replicate (wid ds b i j) 0 from if_neg hin]
    exact l03Step_out b p i j dv av vv va ds ac dn (wid ds b i j) w h hok hi hj hin hw.1 hw.2

theorem leadOf_nn : ∀ {xs : List Int}, ¬ (∀ x ∈ xs, x = 0) → 0 ≤ leadOf xs
  | [], h => absurd (fun x hx => absurd hx (by simp)) h
  | x :: xs, h => by
    by_cases h0 : x = 0
    · have h2 : ¬ ∀ y ∈ xs, y = 0 := fun h3 => h (fun y hy => by
        rcases List.mem_cons.1 hy with rfl | hy
        · exact h0
        · exact h3 y hy)
      have := leadOf_nn h2
      simp only [leadOf, h0, if_true]
      rw [if_neg (by omega)]
      omega
    · simp [leadOf, h0]
theorem leadOf_null {xs : List Int} (h : ∀ x ∈ xs, x = 0) : leadOf xs = -1 := leadOf_zero (fun _ hj => h _ (List.getElem_mem hj))

/-- What the model asks of a basis vector. -/
structure SqRow (p : Int) (ds : List (List Int)) (ac dn : List (List (List (List Int)))) (c : Nat × Nat) (r : Nat) : Prop where
  a : ∀ x ∈ stp p ds ac dn ((c.1 : Int) - 1) c.2 ((tbl ac c).getD r []) true, x = 0
  d : ∀ x ∈ stp p ds ac dn c.1 ((c.2 : Int) - 1) ((tbl dn c).getD r []) false, x = 0
  b : ∀ x ∈ toL (wid ds false ((c.1 : Int) - 1) c.2) (Lin.add p (ofL (stp p ds ac dn ((c.1 : Int) - 1) c.2 ((tbl ac c).getD r []) false)) (-(-1)) (ofL (stp p ds ac dn c.1 ((c.2 : Int) - 1) ((tbl dn c).getD r []) true))), x = 0
def SqCell (p : Int) (ds : List (List Int)) (ac dn : List (List (List (List Int)))) (c : Nat × Nat) : Prop := ∀ r, r < cdim ds c → SqRow p ds ac dn c r

section
variable {p : Int} {ds : List (List Int)} {ac dn : List (List (List (List Int)))}
theorem row_len (hok : DclOk ds) (ht : TbsOk p ds ac dn) {c : Nat × Nat} (hc : c ∈ cellsTo ds ds.length) {r : Nat} (hr : r < cdim ds c) :
    RowOk p (dcl ds ((c.1 : Int) - 1) c.2) ((tbl ac c).getD r []) ∧ RowOk p (dcl ds c.1 ((c.2 : Int) - 1)) ((tbl dn c).getD r []) ∧ (tbl ac c).length = cdim ds c ∧ (tbl dn c).length = cdim ds c := by
  obtain ⟨ta, td⟩ := ht.tab c hc
  have h1 := (cdim_cast hok hc).1
  have la := ta.1
  have ld := td.1
  have la' : (tbl ac c).length = cdim ds c := by unfold tbl; omega
  have ld' : (tbl dn c).length = cdim ds c := by unfold tbl; omega
  refine ⟨?_, ?_, la', ld'⟩
  · rw [getD_of_lt _ (by omega)]; exact ta.2 _ (List.getElem_mem _)
  · rw [getD_of_lt _ (by omega)]; exact td.2 _ (List.getElem_mem _)
theorem dco_dcl (hok : DclOk ds) {c : Nat × Nat} (hc : c ∈ cellsTo ds ds.length) : dco ds ((c.1 : Int) - 1) c.2 = dcl ds ((c.1 : Int) - 1) c.2 ∧ dco ds c.1 ((c.2 : Int) - 1) = dcl ds c.1 ((c.2 : Int) - 1) := by
  obtain ⟨i, j⟩ := c
  dsimp only
  constructor
  · cases i with
    | zero => unfold dco dcl; rw [if_neg (by omega), if_pos (by omega)]
    | succ i =>
      have h := cell_left hok hc
      rw [show (((i + 1 : Nat) : Int) - 1) = (i : Int) by omega, dco_cell hok (c := (i, j)) h, (cdim_cast hok h).1]
  · cases j with
    | zero => unfold dco dcl; rw [if_neg (by omega), if_pos (by omega)]
    | succ j =>
      have h := cell_low hc
      rw [show (((j + 1 : Nat) : Int) - 1) = (j : Int) by omega, dco_cell hok (c := (i, j)) h, (cdim_cast hok h).1]
/-- The four steps may be taken. -/
theorem st_left (hp : IsP p) (hok : DclOk ds) (ht : TbsOk p ds ac dn) {c : Nat × Nat} (hc : c ∈ cellsTo ds ds.length) {r : Nat} (hr : r < cdim ds c) (b : Bool) : StOk p ds ac dn ((c.1 : Int) - 1) c.2 ((tbl ac c).getD r []) b := by
  intro hin
  obtain ⟨i, j⟩ := c
  dsimp only at hin hc hr ⊢
  cases i with
  | zero => exact absurd hin.1 (by omega)
  | succ i =>
    have hl := cell_left hok hc
    have e : (((i + 1 : Nat) : Int) - 1) = (i : Int) := by omega
    obtain ⟨r1, _, _, _⟩ := row_len hok ht hc hr
    dsimp only at r1
    rw [e] at r1 ⊢
    obtain ⟨ta, td⟩ := ht.tab _ hl
    have hcd := dco_dcl hok hl
    dsimp only at ta td hcd
    have hw := wid_cast hok b (i : Int) (j : Int)
    rw [Int.toNat_natCast, Int.toNat_natCast]
    cases b
    · simp only [Bool.false_eq_true, if_false] at hw ⊢
      exact ⟨hp, by have h1 := r1.1; have h2 : ((tbl dn (i, j)).length : Int) = dcl ds i j := td.1; omega, r1.2, fun x hx => by rw [← hw.1, hcd.2]; exact td.2 x hx⟩
    · simp only [if_true] at hw ⊢
      exact ⟨hp, by have h1 := r1.1; have h2 : ((tbl ac (i, j)).length : Int) = dcl ds i j := ta.1; omega, r1.2, fun x hx => by rw [← hw.1, hcd.1]; exact ta.2 x hx⟩
theorem st_low (hp : IsP p) (hok : DclOk ds) (ht : TbsOk p ds ac dn) {c : Nat × Nat} (hc : c ∈ cellsTo ds ds.length) {r : Nat} (hr : r < cdim ds c) (b : Bool) : StOk p ds ac dn c.1 ((c.2 : Int) - 1) ((tbl dn c).getD r []) b := by
  intro hin
  obtain ⟨i, j⟩ := c
  dsimp only at hin hc hr ⊢
  cases j with
  | zero => exact absurd hin.2.2.1 (by omega)
  | succ j =>
    have hl := cell_low hc
    have e : (((j + 1 : Nat) : Int) - 1) = (j : Int) := by omega
    obtain ⟨_, r1, _, _⟩ := row_len hok ht hc hr
    dsimp only at r1
    rw [e] at r1 ⊢
    obtain ⟨ta, td⟩ := ht.tab _ hl
    have hcd := dco_dcl hok hl
    dsimp only at ta td hcd
    have hw := wid_cast hok b (i : Int) (j : Int)
    rw [Int.toNat_natCast, Int.toNat_natCast]
    cases b
    · simp only [Bool.false_eq_true, if_false] at hw ⊢
      exact ⟨hp, by have h1 := r1.1; have h2 : ((tbl dn (i, j)).length : Int) = dcl ds i j := td.1; omega, r1.2, fun x hx => by rw [← hw.1, hcd.2]; exact td.2 x hx⟩
    · simp only [if_true] at hw ⊢
      exact ⟨hp, by have h1 := r1.1; have h2 : ((tbl ac (i, j)).length : Int) = dcl ds i j := ta.1; omega, r1.2, fun x hx => by rw [← hw.1, hcd.1]; exact ta.2 x hx⟩
theorem null_all {xs : List Int} {n : Nat} (h : xs.length = n) : (∀ x ∈ xs, x = 0) ↔ ∀ t, t < n → xs.getD t 0 = 0 := by
  constructor
  · intro hz t ht
    rw [getD_of_lt _ (by omega)]
    exact hz _ (List.getElem_mem _)
  · intro hz x hx
    obtain ⟨t, ht, rfl⟩ := List.getElem_of_mem hx
    have := hz t (by omega)
    rwa [getD_of_lt _ ht] at this
theorem inD_cell (hok : DclOk ds) {c : Nat × Nat} (hc : c ∈ cellsTo ds ds.length) : inD ds c.1 c.2 := by
  obtain ⟨h1, h2⟩ := mem_cells.1 hc
  rw [getD_of_lt _ h1, (hok.col _ (List.getElem_mem h1)).1] at h2
  unfold inD
  omega
theorem wid_t (hok : DclOk ds) {i j : Nat} (h : (i, j) ∈ cellsTo ds ds.length) (a b : Int) : (a - 1 = i → b = j → wid ds true a b = cdim ds (i, j)) ∧ (a = i → b - 1 = j → wid ds false a b = cdim ds (i, j)) := by
  have := dco_cell hok h
  dsimp only at this
  constructor
  · rintro e1 rfl
    unfold wid
    simp only [if_true]
    rw [e1, this]; simp
  · rintro rfl e1
    unfold wid
    simp only [Bool.false_eq_true, if_false]
    rw [e1, this]; simp
theorem wid_0 (a b : Int) : (a - 1 < 0 → wid ds true a b = 0) ∧ (b - 1 < 0 → wid ds false a b = 0) ∧ (a < 0 → wid ds false a b = 0) ∧ (b < 0 → wid ds true a b = 0) := by
  refine ⟨fun h => ?_, fun h => ?_, fun h => ?_, fun h => ?_⟩ <;> unfold wid dco <;> simp <;> omega

/-- **What the model asks is what the total asks.** -/
theorem sq_iff (hp : IsP p) (hok : DclOk ds) (ht : TbsOk p ds ac dn) : (∀ c ∈ cellsTo ds ds.length, SqCell p ds ac dn c) ↔ CndOk p ds ac dn := by
  -- one row
  have hA : ∀ (a j r : Nat) (b : Bool), (a + 1, j) ∈ cellsTo ds ds.length → r < cdim ds (a + 1, j) → ((tbl ac (a + 1, j)).getD r []).length = cdim ds (a, j) := fun a j r b hc hr => by
    have h1 := (row_len hok ht hc hr).1.1
    have h2 := (cdim_cast hok (cell_left hok hc)).1
    dsimp only at h1 h2
    rw [show (((a + 1 : Nat) : Int) - 1) = (a : Int) by omega] at h1
    omega
  have hD : ∀ (i b r : Nat), (i, b + 1) ∈ cellsTo ds ds.length → r < cdim ds (i, b + 1) → ((tbl dn (i, b + 1)).getD r []).length = cdim ds (i, b) := fun i b r hc hr => by
    have h1 := (row_len hok ht hc hr).2.1.1
    have h2 := (cdim_cast hok (cell_low hc)).1
    dsimp only at h1 h2
    rw [show (((b + 1 : Nat) : Int) - 1) = (b : Int) by omega] at h1
    omega
  have sL : ∀ (a j r : Nat) (b : Bool), (a + 1, j) ∈ cellsTo ds ds.length → r < cdim ds (a + 1, j) → stp p ds ac dn (((a + 1 : Nat) : Int) - 1) j ((tbl ac (a + 1, j)).getD r []) b = apT p (wid ds b a j) ((tbl ac (a + 1, j)).getD r []) (tbl (if b = true then ac else dn) (a, j)) ∧ ApOk p (wid ds b a j) ((tbl ac (a + 1, j)).getD r []) (tbl (if b = true then ac else dn) (a, j)) := fun a j r b hc hr => by
    have hin := inD_cell hok (cell_left hok hc)
    have hst := st_left hp hok ht hc hr b
    dsimp only at hin hst
    rw [show (((a + 1 : Nat) : Int) - 1) = (a : Int) by omega] at hst ⊢
    have hs := hst hin
    unfold stp
    rw [if_pos hin]
    rw [Int.toNat_natCast, Int.toNat_natCast] at hs ⊢
    exact ⟨rfl, hs⟩
  have sD : ∀ (i c r : Nat) (b : Bool), (i, c + 1) ∈ cellsTo ds ds.length → r < cdim ds (i, c + 1) → stp p ds ac dn i (((c + 1 : Nat) : Int) - 1) ((tbl dn (i, c + 1)).getD r []) b = apT p (wid ds b i c) ((tbl dn (i, c + 1)).getD r []) (tbl (if b = true then ac else dn) (i, c)) ∧ ApOk p (wid ds b i c) ((tbl dn (i, c + 1)).getD r []) (tbl (if b = true then ac else dn) (i, c)) := fun i c r b hc hr => by
    have hin := inD_cell hok (cell_low hc)
    have hst := st_low hp hok ht hc hr b
    dsimp only at hin hst
    rw [show (((c + 1 : Nat) : Int) - 1) = (c : Int) by omega] at hst ⊢
    have hs := hst hin
    unfold stp
    rw [if_pos hin]
    rw [Int.toNat_natCast, Int.toNat_natCast] at hs ⊢
    exact ⟨rfl, hs⟩
  have hzero : ∀ {xs : List Int} {n : Int}, RowOk p n xs → n = 0 → ∀ x ∈ xs, x = 0 := fun {xs n} h h0 x hx => by
    have := h.1
    rw [h0] at this
    have : xs = [] := List.eq_nil_of_length_eq_zero (by omega)
    rw [this] at hx
    exact absurd hx (by simp)
  have hB : ∀ (a b r : Nat), (a + 1, b + 1) ∈ cellsTo ds ds.length → r < cdim ds (a + 1, b + 1) →
      ((∀ x ∈ toL (wid ds false (((a + 1 : Nat) : Int) - 1) ((b + 1 : Nat) : Int)) (Lin.add p (ofL (stp p ds ac dn (((a + 1 : Nat) : Int) - 1) ((b + 1 : Nat) : Int) ((tbl ac (a + 1, b + 1)).getD r []) false)) (-(-1)) (ofL (stp p ds ac dn ((a + 1 : Nat) : Int) (((b + 1 : Nat) : Int) - 1) ((tbl dn (a + 1, b + 1)).getD r []) true))), x = 0) ↔
       ∀ t, t < cdim ds (a, b) → (mts ((tbl ac (a + 1, b + 1)).getD r []) (tbl dn (a, b + 1)) (cdim ds (a, b + 1)) t + mts ((tbl dn (a + 1, b + 1)).getD r []) (tbl ac (a + 1, b)) (cdim ds (a + 1, b)) t) % p = 0) := fun a b r hc hr => by
    have hca := cell_left hok hc
    have hcb := cell_low hc
    have hcab := cell_low hca
    obtain ⟨e1, k1⟩ := sL a (b + 1) r false hc hr
    obtain ⟨e2, k2⟩ := sD (a + 1) b r true hc hr
    have w1 : wid ds false (a : Int) ((b + 1 : Nat) : Int) = cdim ds (a, b) := (wid_t hok hcab _ _).2 rfl (by omega)
    have w2 : wid ds true ((a + 1 : Nat) : Int) (b : Int) = cdim ds (a, b) := (wid_t hok hcab _ _).1 (by omega) rfl
    rw [e1, e2, show (((a + 1 : Nat) : Int) - 1) = (a : Int) by omega, w1, w2]
    rw [w1] at k1
    rw [w2] at k2
    simp only [Bool.false_eq_true, if_false, if_true] at k1 k2 ⊢
    have l1 := hA a (b + 1) r false hc hr
    have l2 := hD (a + 1) b r hc hr
    rw [null_all (n := cdim ds (a, b)) (by simp [toL])]
    have hval : ∀ t, t < cdim ds (a, b) → (toL (cdim ds (a, b)) (Lin.add p (ofL (apT p (cdim ds (a, b)) ((tbl ac (a + 1, b + 1)).getD r []) (tbl dn (a, b + 1)))) (-(-1)) (ofL (apT p (cdim ds (a, b)) ((tbl dn (a + 1, b + 1)).getD r []) (tbl ac (a + 1, b)))))).getD t 0 =
        (mts ((tbl ac (a + 1, b + 1)).getD r []) (tbl dn (a, b + 1)) (cdim ds (a, b + 1)) t + mts ((tbl dn (a + 1, b + 1)).getD r []) (tbl ac (a + 1, b)) (cdim ds (a + 1, b)) t) % p := fun t ht' => by
      have h1 := apT_mts k1 ht'
      have h2 := apT_mts k2 ht'
      rw [l1] at h1
      rw [l2] at h2
      rw [getD_of_lt _ (by simpa [toL] using ht')]
      simp only [toL, List.getElem_map, List.getElem_range, Lin.add, ofL]
      rw [h1, h2]
      simp only [Int.neg_neg, Int.one_mul]
      rw [Int.add_emod, Int.emod_emod, Int.emod_emod, ← Int.add_emod]
    constructor
    · intro h t ht'
      rw [← hval t ht']; exact h t ht'
    · intro h t ht'
      rw [hval t ht']; exact h t ht'
  constructor
  · intro h
    refine ⟨fun a j r t hc hr ht' => ?_, fun i b r t hc hr ht' => ?_, fun a b r t hc hr ht' => ?_⟩
    · have h1 := (h _ hc r hr).a
      dsimp only at h1
      obtain ⟨e, k⟩ := sL (a + 1) j r true hc hr
      rw [e, (wid_t hok (cell_left hok (cell_left hok hc)) _ _).1 (by omega) rfl] at h1
      rw [(wid_t hok (cell_left hok (cell_left hok hc)) _ _).1 (by omega) rfl] at k
      have h2 := (apT_null k).1 h1 t ht'
      rwa [hA (a + 1) j r true hc hr] at h2
    · have h1 := (h _ hc r hr).d
      dsimp only at h1
      obtain ⟨e, k⟩ := sD i (b + 1) r false hc hr
      rw [e, (wid_t hok (cell_low (cell_low hc)) _ _).2 rfl (by omega)] at h1
      rw [(wid_t hok (cell_low (cell_low hc)) _ _).2 rfl (by omega)] at k
      have h2 := (apT_null k).1 h1 t ht'
      rwa [hD i (b + 1) r hc hr] at h2
    · exact (hB a b r hc hr).1 (h _ hc r hr).b t ht'
  · intro h c hc r hr
    obtain ⟨i, j⟩ := c
    refine ⟨?_, ?_, ?_⟩
    · dsimp only
      cases i with
      | zero => exact hzero (stp_ok hp (st_left hp hok ht hc hr true)) (by have := (wid_0 (ds := ds) (((0 : Nat) : Int) - 1) (j : Int)).1 (by omega); omega)
      | succ i =>
        cases i with
        | zero => exact hzero (stp_ok hp (st_left hp hok ht hc hr true)) (by have := (wid_0 (ds := ds) (((0 + 1 : Nat) : Int) - 1) (j : Int)).1 (by omega); omega)
        | succ a =>
          obtain ⟨e, k⟩ := sL (a + 1) j r true hc hr
          rw [e, (wid_t hok (cell_left hok (cell_left hok hc)) _ _).1 (by omega) rfl]
          rw [(wid_t hok (cell_left hok (cell_left hok hc)) _ _).1 (by omega) rfl] at k
          refine (apT_null k).2 (fun t ht' => ?_)
          rw [hA (a + 1) j r true hc hr]
          exact h.aa a j r t hc hr ht'
    · dsimp only
      cases j with
      | zero => exact hzero (stp_ok hp (st_low hp hok ht hc hr false)) (by have := (wid_0 (ds := ds) (i : Int) (((0 : Nat) : Int) - 1)).2.1 (by omega); omega)
      | succ j =>
        cases j with
        | zero => exact hzero (stp_ok hp (st_low hp hok ht hc hr false)) (by have := (wid_0 (ds := ds) (i : Int) (((0 + 1 : Nat) : Int) - 1)).2.1 (by omega); omega)
        | succ b =>
          obtain ⟨e, k⟩ := sD i (b + 1) r false hc hr
          rw [e, (wid_t hok (cell_low (cell_low hc)) _ _).2 rfl (by omega)]
          rw [(wid_t hok (cell_low (cell_low hc)) _ _).2 rfl (by omega)] at k
          refine (apT_null k).2 (fun t ht' => ?_)
          rw [hD i (b + 1) r hc hr]
          exact h.dd i b r t hc hr ht'
    · dsimp only
      cases i with
      | zero =>
        rw [(wid_0 (ds := ds) (((0 : Nat) : Int) - 1) (j : Int)).2.2.1 (by omega)]
        simp [toL]
      | succ a =>
        cases j with
        | zero =>
          rw [(wid_0 (ds := ds) (((a + 1 : Nat) : Int) - 1) ((0 : Nat) : Int)).2.1 (by omega)]
          simp [toL]
        | succ b => exact (hB a b r hc hr).2 (fun t ht' => h.ad a b r t hc hr ht')
end
end Go.Proofs.Ytlopenephgabhaa


namespace Go.Proofs.Ytlopenephgabhaa
open Go.RowKit

theorem l2_at {w : World} {dv : Value} {ds : List (List Int)} {i j : Nat} (h : L2 0 w dv ds) (hi : i < ds.length) (hj : j < (ds[i]).length) :
    ∃ bb o cd b2 o2 c2, dv = .slice (some ⟨bb, o, none⟩) ds.length cd ∧ w.cell? ⟨bb, o + i, none⟩ = some (.slice (some ⟨b2, o2, none⟩) (ds[i]).length c2) ∧ w.cell? ⟨b2, o2 + j, none⟩ = some (.int .i64 (ds[i])[j]) := by
  rcases h with ⟨hx, _⟩ | ⟨bb, o, cd, rfl, _, _, hcl⟩
  · exact absurd (hx ▸ hi) (Nat.not_lt_zero _)
  obtain ⟨u1, hu1, hr1⟩ := hcl i hi
  rcases hr1 with ⟨hx, _⟩ | ⟨b2, o2, c2, rfl, _, _, hcl2⟩
  · rw [hx] at hj; exact absurd hj (Nat.not_lt_zero _)
  obtain ⟨u2, hu2, hr2⟩ := hcl2 j hj
  have e : u2 = .int .i64 (ds[i])[j] := hr2
  subst e
  exact ⟨bb, o, cd, b2, o2, c2, rfl, hu1, hu2⟩
section
variable {p : Int} {ds : List (List Int)} {ac dn : List (List (List (List Int)))} {i j : Nat}
theorem cl_height (hok : DclOk ds) (hi : i < ds.length) : (clD ds i).length = (ds.getD 0 []).length := by
  unfold clD
  rw [getD_of_lt _ hi]
  exact (hok.col _ (List.getElem_mem hi)).1
end

end Go.Proofs.Ytlopenephgabhaa


namespace Go.Proofs.Ytlopenephgabhaa
open Go.RowKit

/-- The tags without a block that is of another kind. -/
def retag (L : Nat → Nat) (Bx : Nat) (b : Nat) : Nat := if b = Bx then 0 else L b
section
variable {L : Nat → Nat} {k base Bx : Nat} {W : World} {u : Value} {cs : Array Value} {fz : Nat × Nat} {t : TypeId}
theorem own_ne {e : TypeId} {n : Nat} {xs : List Value} (h : W.ownsRow base e 1 u n xs) (hX : W.heap[Bx]? = some (.cells cs t fz)) (he : e ≠ t) {g : Nat} (hg : u.ownBlock = some g) : g ≠ Bx := fun e2 => by
  rcases h.2 with ⟨h0, _⟩ | ⟨g', c', cur, hu, _, hh, _⟩
  · rw [h0] at hg; simp [Value.ownBlock] at hg
  · rw [hu] at hg
    simp [Value.ownBlock] at hg
    subst hg
    subst e2
    rw [hh] at hX
    injection hX with hX
    injection hX with _ h2
    exact he h2
theorem retag_eq {g : Nat} (h : g ≠ Bx) : retag L Bx g = L g := if_neg h
theorem TR.retag {e : TypeId} {n : Nat} {xs : List Value} (h : TR L k base e W u n xs) (hX : W.heap[Bx]? = some (.cells cs t fz)) (he : e ≠ t) : TR (retag L Bx) k base e W u n xs := ⟨h.1, fun g hg => by rw [retag_eq (own_ne h.1 hX he hg)]; exact h.2 g hg⟩
theorem TI.retag {xs : List Int} (h : TI L k base W u xs) (hX : W.heap[Bx]? = some (.cells cs t fz)) (he : 2 ≠ t) : TI (retag L Bx) k base W u xs := ⟨h.1, fun g hg => by rw [retag_eq (own_ne h.1 hX he hg)]; exact h.2 g hg⟩
theorem TTab.retag {s : Nat} {tb : List (List Int)} (h : TTab L s base W u tb) (hX : W.heap[Bx]? = some (.cells cs t fz)) (he : 2 ≠ t ∧ 35 ≠ t) : TTab (retag L Bx) s base W u tb := by
  obtain ⟨vs, hq, h1, h2⟩ := h
  exact ⟨vs, hq, fun g hg => by rw [retag_eq (own_ne hq.own hX he.2 hg)]; exact h1 g hg, fun i a g hg => by rw [retag_eq (own_ne (hq.rows i a (by have := hq.len; omega)) hX he.1 hg)]; exact h2 i a g hg⟩
theorem TTabs.retag {τ : Nat → Nat} {ts : List (List (List Int))} (h : TTabs L k τ base W u ts) (hX : W.heap[Bx]? = some (.cells cs t fz)) (he : 2 ≠ t ∧ 35 ≠ t ∧ 22 ≠ t) : TTabs (retag L Bx) k τ base W u ts := by
  obtain ⟨vs, ho, hr⟩ := h
  exact ⟨vs, ho.retag hX he.2.2, fun i h1 h2 => (hr i h1 h2).retag hX ⟨he.1, he.2.1⟩⟩
theorem Fl.retag {D A V n : Nat} {dvs avs vvs : List Value} {d2 : List (List Int)} {a2 v2 : List (List (List (List Int)))} (h : Fl L base W D A V n dvs avs vvs d2 a2 v2) (hX : W.heap[Bx]? = some (.cells cs t fz)) (he : 2 ≠ t ∧ 35 ≠ t ∧ 22 ≠ t ∧ 36 ≠ t) :
    Fl (retag L Bx) base W D A V n dvs avs vvs d2 a2 v2 :=
  ⟨h.d0.retag hX he.2.1, h.a0.retag hX he.2.2.2, h.v0.retag hX he.2.2.2, h.ld, h.la, h.lv, fun i a b => (h.dr i a b).retag hX he.1, fun i a b => (h.ar i a b).retag hX ⟨he.1, he.2.1, he.2.2.1⟩, fun i a b => (h.vr i a b).retag hX ⟨he.1, he.2.1, he.2.2.1⟩, fun b hb => by
    unfold Go.Proofs.Ytlopenephgabhaa.retag
    by_cases e : b = Bx
    · rw [if_pos e]
    · rw [if_neg e]; exact h.lo b hb⟩
end
/-- The cells with the number j in their columns. -/
def onR (j : Nat) (c : Nat × Nat) : Bool := c.2 == j
/-- What the cells tell, laid by their numbers. -/
def colF {α : Type} (n : Nat) (cs : List (Nat × Nat)) (g : Nat × Nat → α) : List (List α) := (List.range n).map fun j => (cs.filter (onR j)).map g
theorem colF_len {α : Type} (n : Nat) (cs : List (Nat × Nat)) (g : Nat × Nat → α) : (colF n cs g).length = n := by simp [colF]
theorem colF_at {α : Type} {n : Nat} {cs : List (Nat × Nat)} {g : Nat × Nat → α} {j : Nat} (h : j < (colF n cs g).length) : (colF n cs g)[j] = (cs.filter (onR j)).map g := by simp [colF]
theorem colF_nil {α : Type} (n : Nat) (g : Nat × Nat → α) : colF n [] g = List.replicate n [] := List.ext_getElem (by simp [colF]) (fun i h1 h2 => by simp [colF])
theorem colF_snoc {α : Type} {n : Nat} {cs : List (Nat × Nat)} {g : Nat × Nat → α} {i j : Nat} (h : j < (colF n cs g).length) : (colF n cs g).set j ((colF n cs g)[j] ++ [g (i, j)]) = colF n (cs ++ [(i, j)]) g := by
  have hy := colF_at h
  generalize (colF n cs g)[j] = y at hy
  refine List.ext_getElem (by simp [colF]) (fun q h1 h2 => ?_)
  rw [List.getElem_set, colF_at h2, List.filter_append]
  by_cases e : j = q
  · subst e
    rw [if_pos rfl, hy]
    simp [onR]
  · rw [if_neg e, colF_at (by simpa using h1)]
    simp [onR, e]
theorem colF_short {α : Type} {n : Nat} {cs : List (Nat × Nat)} {g : Nat × Nat → α} {j : Nat} (h : j < (colF n cs g).length) : ((colF n cs g)[j]).length ≤ cs.length := by
  rw [colF_at h, List.length_map]
  exact List.length_filter_le _ _
def cdI (ds : List (List Int)) (c : Nat × Nat) : Int := (ds.getD c.1 []).getD c.2 0
theorem row_onR (ds : List (List Int)) (i j : Nat) : (rowCells ds i).filter (onR j) = if j < (ds.getD i []).length then [(i, j)] else [] := by
  unfold rowCells
  generalize (ds.getD i []).length = L
  induction L with
  | zero => simp
  | succ L ih =>
    rw [List.range_succ, List.map_append, List.filter_append, ih]
    by_cases e : L = j
    · subst e
      rw [if_neg (Nat.lt_irrefl _), if_pos (Nat.lt_succ_self _)]
      simp [onR]
    · have hz : ([L].map fun j => (i, j)).filter (onR j) = [] := by simp [onR, e]
      rw [hz, List.append_nil]
      by_cases h : j < L
      · rw [if_pos h, if_pos (by omega)]
      · rw [if_neg h, if_neg (by omega)]
theorem cells_onR {ds : List (List Int)} {j h : Nat} (hh : ∀ i, i < ds.length → (ds.getD i []).length = h) (hj : j < h) : ∀ m, m ≤ ds.length → (cellsTo ds m).filter (onR j) = (List.range m).map fun i => (i, j)
  | 0, _ => by simp [cellsTo]
  | m + 1, hm => by
    rw [cellsTo_succ, List.filter_append, cells_onR hh hj m (by omega), row_onR, if_pos (by rw [hh m (by omega)]; exact hj), List.range_succ, List.map_append]
    rfl
/-- The transposed lists. -/
theorem colF_all {α : Type} {ds : List (List Int)} (hok : DclOk ds) (g : Nat × Nat → α) : colF (ds.getD 0 []).length (cellsTo ds ds.length) g = (List.range (ds.getD 0 []).length).map fun j => (List.range ds.length).map fun i => g (i, j) := by
  unfold colF
  refine List.map_congr_left (fun j hj => ?_)
  rw [cells_onR (fun i hi => cl_height hok hi) (List.mem_range.1 hj) ds.length (Nat.le_refl _), List.map_map]
  rfl
/-- A table whose numbers are their own rests is what scaledTable by 1 makes of it. -/
theorem sc_tab {p r c : Int} {t : List (List Int)} (h : TabOk p r c t) : tableOf t.length c.toNat (scZ p 1 t) = t := by
  refine List.ext_getElem (by simp [tableOf]) fun a h1 h2 => ?_
  have hra := h.2 _ (List.getElem_mem h2)
  simp only [tableOf, List.getElem_map, List.getElem_range]
  refine List.ext_getElem (by simp only [List.length_map, List.length_range]; have := hra.1; omega) fun b h3 h4 => ?_
  have hz := hra.2 _ (List.getElem_mem h4)
  simp only [List.getElem_map, List.getElem_range, scZ]
  rw [getD_of_lt _ h2, getD_of_lt _ h4, Int.one_mul, Int.emod_eq_of_lt hz.1 (by omega)]
end Go.Proofs.Ytlopenephgabhaa


namespace Go.Proofs.Ytlopenephgabhaa
open Go.RowKit

theorem disj_flat {J : Nat → List Iv} : ∀ {n : Nat}, (∀ j, j < n → Disj (J j)) → (∀ i j, i < n → j < n → i ≠ j → ∀ x ∈ J i, ∀ y ∈ J j, x.1 ≠ y.1) → Disj (flat J n)
  | 0, _, _ => by simp [flat, Disj]
  | n + 1, h1, h2 => by
    rw [flat_succ]
    refine List.pairwise_append.2 ⟨disj_flat (fun j hj => h1 j (by omega)) (fun i j hi hj => h2 i j (by omega) (by omega)), h1 n (by omega), fun x hx y hy => .inl ?_⟩
    obtain ⟨j, hj, hx⟩ := List.mem_flatMap.1 hx
    have hj := List.mem_range.1 hj
    exact h2 j n (by omega) (by omega) (by omega) x hx y hy
/-- A row as an interval, and as owned. -/
theorem gb_iv {lo : Nat} {w : World} {v : Value} {xs : List Int} (h : Gb lo w v xs) (hl : xs.length ≤ 1048576) : W1 lo w.heap.size w v xs ∧ ∃ I, S1 lo w.heap.size w v I ∧ Nums lo w.heap.size w I ∧ Disj I ∧ ivSize I ≤ 1048576 ∧ ∀ x ∈ I, v.ownBlock = some x.1 := by
  obtain ⟨ad, cap, rfl⟩ := Sl.shape h.l1
  by_cases h0 : xs.length = 0
  · have e := List.eq_nil_of_length_eq_zero h0
    subst e
    exact ⟨.inl ⟨rfl, _, _, rfl⟩, [], .inl ⟨rfl, _, _, rfl⟩, fun x hx => absurd hx (by simp), by simp [Disj], by simp [ivSize], fun x hx => absurd hx (by simp)⟩
  · obtain ⟨b, rfl, hb1, hb2, hc⟩ := h.parts (by omega)
    refine ⟨.inr ⟨b, 0, cap, rfl, hb1, hb2, by omega, fun k hk => ⟨_, by rw [Nat.zero_add]; exact (hc k hk).1, rfl⟩, fun k hk => by rw [Nat.zero_add]; exact (hc k hk).2⟩, [(b, 0, xs.length)], .inr ⟨b, 0, _, cap, rfl, by omega, hl, hb1, hb2, rfl⟩, fun x hx => ?_, by simp [Disj], by simp [ivSize]; omega, fun x hx => ?_⟩
    · rw [List.mem_singleton.1 hx]
      refine ⟨hb1, hb2, fun i hi => ?_⟩
      have hi' : i < xs.length := hi
      exact ⟨⟨_, by show w.cell? ⟨b, 0 + i, none⟩ = _; rw [Nat.zero_add]; exact (hc i hi').1⟩, by show w.frozen? ⟨b, 0 + i, none⟩ = _; rw [Nat.zero_add]; exact (hc i hi').2⟩
    · rw [List.mem_singleton.1 hx]; rfl
end Go.Proofs.Ytlopenephgabhaa


namespace Go.Proofs.Ytlopenephgabhaa
open Go.RowKit Go.Shelf
attribute [local go_sem] Oper.semAt_some

theorem results_db {fn : Func} {t : Tmp} (h : fn.results = #[.cell t 28]) (tmps : Array Value) (B : Nat) (x0 x1 x2 x3 : Value) (W : World) (ht : tmps.getD t undef = .pointer (some ⟨B, 0, none⟩)) (c0 : W.cell? ⟨B, 0, none⟩ = some x0) (c1 : W.cell? ⟨B, 1, none⟩ = some x1) (c2 : W.cell? ⟨B, 2, none⟩ = some x2) (c3 : W.cell? ⟨B, 3, none⟩ = some x3) :
    (results fn tmps).run Try.prog W = .ok (.agg #[x0, x1, x2, x3]) W := by
  simp only [Array.getD_eq_getD_getElem?] at ht
  simp [results, h, ht, go_sem, c0, c1, c2, c3]
def cpre {ds : List (List Int)} (pre : List (CellIn ds)) : List (Nat × Nat) := pre.map (fun c => c.1)
theorem cpre_len {ds : List (List Int)} (pre : List (CellIn ds)) : (cpre pre).length = pre.length := by simp [cpre]
/-- The made double complex, in its box. -/
structure Mid (p : Int) (n : Nat) (w1 W : World) (G D A V : Nat) : Prop where
  below : Below w1.heap.size w1 W
  box : Rz W G 28 #[.int .i64 p, .slice (some ⟨D, 0, none⟩) n n, .slice (some ⟨A, 0, none⟩) n n, .slice (some ⟨V, 0, none⟩) n n]
  d : Rz W D 35 (madeCells #[.slice none 0 0] n)
  a : Rz W A 36 (madeCells #[.slice none 0 0] n)
  v : Rz W V 36 (madeCells #[.slice none 0 0] n)
  ne : D ≠ A ∧ D ≠ V ∧ A ≠ V
  lo : w1.heap.size ≤ G ∧ w1.heap.size ≤ D ∧ w1.heap.size ≤ A ∧ w1.heap.size ≤ V
  gn : G ≠ D ∧ G ≠ A ∧ G ≠ V
def Zd4 : Array Value := #[.int .i64 0, .slice none 0 0, .slice none 0 0, .slice none 0 0]
theorem grown_setRow (W : World) (g : Nat) (c : Array Value) : W.grownBy (W.setRow g c) (some g) := by
  have hb : Below 0 W (W.setRow g c) := below_setRow (Below.refl _ _) (Nat.zero_le _) _
  exact ⟨hb.os, hb.tape, hb.output, hb.size, fun q _ hne => setRow_other _ _ _ _ (fun e => hne (by rw [e]))⟩
/-- What transposedDouble answers. -/
def TrR (p : Int) (ds : List (List Int)) (ac dn : List (List (List (List Int)))) (w : World) (e : Ending) (w' : World) : Prop :=
  ∃ (base D A V n : Nat) (L : Nat → Nat) (dvs avs vvs : List Value), e = .returned (.agg #[.int .i64 p, .slice (some ⟨D, 0, none⟩) n n, .slice (some ⟨A, 0, none⟩) n n, .slice (some ⟨V, 0, none⟩) n n]) ∧ n = (ds.getD 0 []).length ∧ w.heap.size ≤ base ∧
    Fl L base w' D A V n dvs avs vvs (colF n (cellsTo ds ds.length) (cdI ds)) (colF n (cellsTo ds ds.length) (tbl dn)) (colF n (cellsTo ds ds.length) (tbl ac)) ∧ Below w.heap.size w w'
set_option maxRecDepth 100000 in
set_option maxHeartbeats 12800000 in
theorem transposedDouble_any (p : Int) (dv av vv : Value) (ds : List (List Int)) (ac dn : List (List (List (List Int)))) (w : World) (h : Dx 0 w dv av vv ds ac dn) (hdb : IsDb p ds ac dn) :
    Calls Try.prog 51 #[.agg #[.int .i64 p, dv, av, vv]] w (TrR p ds ac dn w) := by
  have hres : Try.f51.results = #[.cell 2 28] := by kernel_rfl
  have HRES := Lib.hid hres
  clear hres
  have HX := Lib.hid h
  have HDB := Lib.hid hdb
  have HOK := Lib.hid hdb.cel
  have hp0 : 0 < p := by have := hdb.prime.lo1; omega
  have hp1 : p ≤ 1048576 := by have := hdb.prime.hi; omega
  have hpl := hdb.prime.lo1
  have hl0 := hdb.cel.len0
  have hl4 := hdb.cel.len1
  have hq0 := hdb.cel.h0
  have hq4 := hdb.cel.h1
  obtain ⟨n, hn⟩ : ∃ n, n = (ds.getD 0 []).length := ⟨_, rfl⟩
  rw [← hn] at hq0 hq4
  have HN := Lib.hid hn
  clear hn hdb
  have hx0 := (DBx.start (p := p) 28 h).next ((Below.refl _ _).alloc (Nat.le_refl _) (.cells #[.int .i64 0, .slice none 0 0, .slice none 0 0, .slice none 0 0] 28))
  clear h
  obtain ⟨w1, hw1⟩ : ∃ w1, w1 = (w.alloc (.cells #[.int .i64 p, dv, av, vv] 28)).alloc (.cells #[.int .i64 0, .slice none 0 0, .slice none 0 0, .slice none 0 0] 28) := ⟨_, rfl⟩
  have hs1 : w1.heap.size = w.heap.size + 2 := by rw [hw1]; simp
  have HR0 : Hid (Rz w1 (w.heap.size + 1) 28 #[.int .i64 0, .slice none 0 0, .slice none 0 0, .slice none 0 0]) := Lib.hid (by rw [hw1]; have := Rz.new (w.alloc (.cells #[.int .i64 p, dv, av, vv] 28)) 28 #[.int .i64 0, .slice none 0 0, .slice none 0 0, .slice none 0 0]; rwa [World.size_alloc] at this)
  rw [← hw1] at hx0
  have HX1 := Lib.hid hx0
  have c0 := hx0.c0
  have c1 := hx0.c1
  have c2 := hx0.c2
  have c3 := hx0.c3
  clear hx0
  have HNX : Hid (∀ W, Below w1.heap.size w1 W → DBx w W w.heap.size p dv av vv ds ac dn ∧ Rz W (w.heap.size + 1) 28 #[.int .i64 0, .slice none 0 0, .slice none 0 0, .slice none 0 0]) := Lib.hid (fun W hb => ⟨HX1.out.next hb, HR0.out.next hb⟩)
  have HHE : Hid (∀ W, Below w1.heap.size w1 W → Calls Try.prog 93 #[.agg #[.int .i64 p, dv, av, vv]] W fun e w' => e = .returned (.int .i64 (n : Int)) ∧ Below W.heap.size W w') := Lib.hid (fun W hb => by rw [HN.out]; exact heightOf_any p dv av vv ds W (HNX.out W hb).1.dx.dims hl0)
  refine (callsIn_wide (n := 8)).1 ?_
  refine callsIn_of_wp_marks Try.func51 rfl trivial ?_
  simp only [Try.ntmps51, List.size_toArray, List.length_cons, List.length_nil, Nat.reduceAdd, Nat.reduceSub, Array.replicate_succ, Array.replicate_zero, List.push_toArray, List.append_toArray, List.nil_append, List.cons_append]
  refine wpIn_calm ?_
  refine wpIn_wide.2 ?_
  go_upto_region 1 with fail
  rw [← hw1]
  clear hw1 c0 c1 c2 c3
  go_cut [3] from 7 to 11 (fun s wx => ∃ G D A V : Nat, s = .pointer (some ⟨G, 0, none⟩) ∧ Hid (Mid p n w1 wx G D A V))
  case first =>
    go_upto_region 1 with fail
    refine wp_region_held (S := fun W => Below w1.heap.size w1 W) (by kernel_rfl) ?_
    have S0 : Below w1.heap.size w1 w1.drew := (Below.refl _ _).drew
    change wpAnyH _ _ _ _ _ _ _ _ w1.drew
    obtain ⟨wd, hwd⟩ : ∃ wd, wd = w1.drew := ⟨_, rfl⟩
    rw [← hwd] at S0 ⊢
    clear hwd
    refine held_take (i := 0) (v := (.pointer (some ⟨w.heap.size, 0, none⟩))) (some 7) rfl rfl (by kernel_rfl) (by kernel_rfl) (by kernel_rfl) (fun _ _ _ h => h) (yieldsIf_run (by kernel_rfl) (fun W _ => by kernel_rfl)) S0 ?_
    refine held_take (i := 1) (v := (.int .i64 p)) (some 8) rfl rfl (by kernel_rfl) (by kernel_rfl) (by kernel_rfl) (fun _ _ _ h => h) (yieldsIf_cell (by kernel_rfl) rfl (by kernel_rfl) (fun W h => hloadIn W (HNX.out W h).1.c0)) S0 ?_
    refine held_take (i := 2) (v := (.agg #[.int .i64 p, dv, av, vv])) (some 9) rfl rfl (by kernel_rfl) (by kernel_rfl) (by kernel_rfl) (fun _ _ _ h => h) (yieldsIf_cell (by kernel_rfl) rfl (by kernel_rfl) (fun W h => hloadDb W (HNX.out W h).1)) S0 ?_
    refine held_two (i := 3) (j := 5) (by kernel_rfl) ?_ ?_
    · refine op_enter (i := 3) (some 10) (f := 93) (args := #[.agg #[.int .i64 p, dv, av, vv]]) rfl rfl rfl (by kernel_rfl) (HHE.out _ S0) ?_ (fun c w' h => by cases h.1) (fun w' h => by cases h.1)
      rintro e1 W1 ⟨he, hb1⟩
      injection he with he
      subst he
      have S1 : Below w1.heap.size w1 W1 := S0.trans (hb1.mono S0.size)
      refine ⟨S1, ?_⟩
      refine held_two (i := 4) (j := 5) (by kernel_rfl) ?_ ?_
      · refine op_enter (i := 4) (some 11) (f := 80) (args := #[.int .i64 p, .int .i64 (n : Int)]) rfl rfl rfl (by kernel_rfl) (emptyDouble_any p n _ (by omega)) ?_ (fun c w' h => by obtain ⟨_, _, _, h, _⟩ := h; cases h) (fun w' h => by obtain ⟨_, _, _, h, _⟩ := h; cases h)
        rintro e2 W2 ⟨D2, A2, V2, he, hge2, hne2, hD2, hA2, hV2, hb2⟩
        injection he with he
        subst he
        have hss2 := S1.size
        have S2 : Below w1.heap.size w1 W2 := S1.trans (hb2.mono S1.size)
        refine ⟨S2, ?_⟩
        refine held_one (i := 5) (by kernel_rfl) ?_
        · obtain ⟨W3, hW3⟩ : ∃ W', W' = W2.alloc (.cells #[.int .i64 0, .slice none 0 0, .slice none 0 0, .slice none 0 0] 28) := ⟨_, rfl⟩
          have hb3 : Below W2.heap.size W2 W3 := by rw [hW3]; exact below_alloc1 _ _
          have hG3 : Rz W3 W2.heap.size 28 #[.int .i64 0, .slice none 0 0, .slice none 0 0, .slice none 0 0] := by rw [hW3]; exact Rz.new _ _ _
          have hsg3 := S2.size
          have S3 : Below w1.heap.size w1 W3 := S2.trans (hb3.mono S2.size)
          have hD3 := hD2.next hb3
          have hA3 := hA2.next hb3
          have hV3 := hV2.next hb3
          refine op_mem (i := 5) (v := .pointer (some ⟨W2.heap.size, 0, none⟩)) (w' := W3) (some 3) rfl rfl rfl (by rw [hW3]; go_simp) ?_
          refine ⟨S3, ?_⟩
          refine held_one (i := 6) (by kernel_rfl) ?_
          refine op_row (i := 6) rfl rfl rfl 28 (.tmp 3) (.tmp 11) rfl (W2.heap.size) #[.int .i64 p, .slice (some ⟨D2, 0, none⟩) n n, .slice (some ⟨A2, 0, none⟩) n n, .slice (some ⟨V2, 0, none⟩) n n] (by kernel_rfl) (by kernel_rfl) 28 _ hG3 (infoDb _ _ _ _) (by kernel_rfl) (by kernel_rfl) ?_
          have S9 : Below w1.heap.size w1 (W3.setRow (W2.heap.size) #[.int .i64 p, .slice (some ⟨D2, 0, none⟩) n n, .slice (some ⟨A2, 0, none⟩) n n, .slice (some ⟨V2, 0, none⟩) n n]) := below_setRow S3 (by omega) _
          refine ⟨S9, ?_⟩
          refine wpAnyH_done (by kernel_rfl) ?_ _
          simp only [Act.put, List.setIfInBounds_toArray, List.set_cons_zero, List.set_cons_succ]
          have hgl := hG3.lt
          have hGne : W2.heap.size ≠ D2 ∧ W2.heap.size ≠ A2 ∧ W2.heap.size ≠ V2 := ⟨fun e => by have h1 := hG3; have h2 := hD3; rw [e] at h1; unfold Rz at h1 h2; rw [h1] at h2; injection h2 with h2; injection h2 with _ h2; revert h2; decide, fun e => by have h1 := hG3; have h2 := hA3; rw [e] at h1; unfold Rz at h1 h2; rw [h1] at h2; injection h2 with h2; injection h2 with _ h2; revert h2; decide, fun e => by have h1 := hG3; have h2 := hV3; rw [e] at h1; unfold Rz at h1 h2; rw [h1] at h2; injection h2 with h2; injection h2 with _ h2; revert h2; decide⟩
          obtain ⟨WF, hWF⟩ : ∃ WF, WF = W3.setRow (W2.heap.size) #[.int .i64 p, .slice (some ⟨D2, 0, none⟩) n n, .slice (some ⟨A2, 0, none⟩) n n, .slice (some ⟨V2, 0, none⟩) n n] := ⟨_, rfl⟩
          rw [← hWF] at S9 ⊢
          have hmid : Mid p n w1 WF (W2.heap.size) D2 A2 V2 := ⟨S9, by rw [hWF]; exact Rz.set hG3 _, by rw [hWF]; exact Rz.off hD3 (fun e => hGne.1 e.symm) _, by rw [hWF]; exact Rz.off hA3 (fun e => hGne.2.1 e.symm) _, by rw [hWF]; exact Rz.off hV3 (fun e => hGne.2.2 e.symm) _, hne2, by omega, hGne⟩
          clear hWF
          go_wp2
          go_meet
          exact ⟨_, _, _, _, rfl, Lib.hid hmid⟩
      · obtain ⟨W4, hW4⟩ : ∃ W', W' = W1.alloc (.cells #[.int .i64 0, .slice none 0 0, .slice none 0 0, .slice none 0 0] 28) := ⟨_, rfl⟩
        have hb4 : Below W1.heap.size W1 W4 := by rw [hW4]; exact below_alloc1 _ _
        have hG4 : Rz W4 W1.heap.size 28 #[.int .i64 0, .slice none 0 0, .slice none 0 0, .slice none 0 0] := by rw [hW4]; exact Rz.new _ _ _
        have hsg4 := S1.size
        have S4 : Below w1.heap.size w1 W4 := S1.trans (hb4.mono S1.size)
        refine op_mem (i := 5) (v := .pointer (some ⟨W1.heap.size, 0, none⟩)) (w' := W4) (some 3) rfl rfl rfl (by rw [hW4]; go_simp) ?_
        refine ⟨S4, ?_⟩
        refine held_one (i := 4) (by kernel_rfl) ?_
        · refine op_enter (i := 4) (some 11) (f := 80) (args := #[.int .i64 p, .int .i64 (n : Int)]) rfl rfl rfl (by kernel_rfl) (emptyDouble_any p n _ (by omega)) ?_ (fun c w' h => by obtain ⟨_, _, _, h, _⟩ := h; cases h) (fun w' h => by obtain ⟨_, _, _, h, _⟩ := h; cases h)
          rintro e5 W5 ⟨D5, A5, V5, he, hge5, hne5, hD5, hA5, hV5, hb5⟩
          injection he with he
          subst he
          have hss5 := S4.size
          have S5 : Below w1.heap.size w1 W5 := S4.trans (hb5.mono S4.size)
          have hG5 := hG4.next hb5
          refine ⟨S5, ?_⟩
          refine held_one (i := 6) (by kernel_rfl) ?_
          refine op_row (i := 6) rfl rfl rfl 28 (.tmp 3) (.tmp 11) rfl (W1.heap.size) #[.int .i64 p, .slice (some ⟨D5, 0, none⟩) n n, .slice (some ⟨A5, 0, none⟩) n n, .slice (some ⟨V5, 0, none⟩) n n] (by kernel_rfl) (by kernel_rfl) 28 _ hG5 (infoDb _ _ _ _) (by kernel_rfl) (by kernel_rfl) ?_
          have S9 : Below w1.heap.size w1 (W5.setRow (W1.heap.size) #[.int .i64 p, .slice (some ⟨D5, 0, none⟩) n n, .slice (some ⟨A5, 0, none⟩) n n, .slice (some ⟨V5, 0, none⟩) n n]) := below_setRow S5 (by omega) _
          refine ⟨S9, ?_⟩
          refine wpAnyH_done (by kernel_rfl) ?_ _
          simp only [Act.put, List.setIfInBounds_toArray, List.set_cons_zero, List.set_cons_succ]
          have hgl := hG5.lt
          have hGne : W1.heap.size ≠ D5 ∧ W1.heap.size ≠ A5 ∧ W1.heap.size ≠ V5 := ⟨fun e => by have h1 := hG5; have h2 := hD5; rw [e] at h1; unfold Rz at h1 h2; rw [h1] at h2; injection h2 with h2; injection h2 with _ h2; revert h2; decide, fun e => by have h1 := hG5; have h2 := hA5; rw [e] at h1; unfold Rz at h1 h2; rw [h1] at h2; injection h2 with h2; injection h2 with _ h2; revert h2; decide, fun e => by have h1 := hG5; have h2 := hV5; rw [e] at h1; unfold Rz at h1 h2; rw [h1] at h2; injection h2 with h2; injection h2 with _ h2; revert h2; decide⟩
          obtain ⟨WF, hWF⟩ : ∃ WF, WF = W5.setRow (W1.heap.size) #[.int .i64 p, .slice (some ⟨D5, 0, none⟩) n n, .slice (some ⟨A5, 0, none⟩) n n, .slice (some ⟨V5, 0, none⟩) n n] := ⟨_, rfl⟩
          rw [← hWF] at S9 ⊢
          have hmid : Mid p n w1 WF (W1.heap.size) D5 A5 V5 := ⟨S9, by rw [hWF]; exact Rz.set hG5 _, by rw [hWF]; exact Rz.off hD5 (fun e => hGne.1 e.symm) _, by rw [hWF]; exact Rz.off hA5 (fun e => hGne.2.1 e.symm) _, by rw [hWF]; exact Rz.off hV5 (fun e => hGne.2.2 e.symm) _, hne5, by omega, hGne⟩
          clear hWF
          go_wp2
          go_meet
          exact ⟨_, _, _, _, rfl, Lib.hid hmid⟩
    · obtain ⟨W6, hW6⟩ : ∃ W', W' = wd.alloc (.cells #[.int .i64 0, .slice none 0 0, .slice none 0 0, .slice none 0 0] 28) := ⟨_, rfl⟩
      have hb6 : Below wd.heap.size wd W6 := by rw [hW6]; exact below_alloc1 _ _
      have hG6 : Rz W6 wd.heap.size 28 #[.int .i64 0, .slice none 0 0, .slice none 0 0, .slice none 0 0] := by rw [hW6]; exact Rz.new _ _ _
      have hsg6 := S0.size
      have S6 : Below w1.heap.size w1 W6 := S0.trans (hb6.mono S0.size)
      refine op_mem (i := 5) (v := .pointer (some ⟨wd.heap.size, 0, none⟩)) (w' := W6) (some 3) rfl rfl rfl (by rw [hW6]; go_simp) ?_
      refine ⟨S6, ?_⟩
      refine held_one (i := 3) (by kernel_rfl) ?_
      · refine op_enter (i := 3) (some 10) (f := 93) (args := #[.agg #[.int .i64 p, dv, av, vv]]) rfl rfl rfl (by kernel_rfl) (HHE.out _ S6) ?_ (fun c w' h => by cases h.1) (fun w' h => by cases h.1)
        rintro e7 W7 ⟨he, hb7⟩
        injection he with he
        subst he
        have S7 : Below w1.heap.size w1 W7 := S6.trans (hb7.mono S6.size)
        have hG7 := hG6.next hb7
        refine ⟨S7, ?_⟩
        refine held_one (i := 4) (by kernel_rfl) ?_
        · refine op_enter (i := 4) (some 11) (f := 80) (args := #[.int .i64 p, .int .i64 (n : Int)]) rfl rfl rfl (by kernel_rfl) (emptyDouble_any p n _ (by omega)) ?_ (fun c w' h => by obtain ⟨_, _, _, h, _⟩ := h; cases h) (fun w' h => by obtain ⟨_, _, _, h, _⟩ := h; cases h)
          rintro e8 W8 ⟨D8, A8, V8, he, hge8, hne8, hD8, hA8, hV8, hb8⟩
          injection he with he
          subst he
          have hss8 := S7.size
          have S8 : Below w1.heap.size w1 W8 := S7.trans (hb8.mono S7.size)
          have hG8 := hG7.next hb8
          refine ⟨S8, ?_⟩
          refine held_one (i := 6) (by kernel_rfl) ?_
          refine op_row (i := 6) rfl rfl rfl 28 (.tmp 3) (.tmp 11) rfl (wd.heap.size) #[.int .i64 p, .slice (some ⟨D8, 0, none⟩) n n, .slice (some ⟨A8, 0, none⟩) n n, .slice (some ⟨V8, 0, none⟩) n n] (by kernel_rfl) (by kernel_rfl) 28 _ hG8 (infoDb _ _ _ _) (by kernel_rfl) (by kernel_rfl) ?_
          have S9 : Below w1.heap.size w1 (W8.setRow (wd.heap.size) #[.int .i64 p, .slice (some ⟨D8, 0, none⟩) n n, .slice (some ⟨A8, 0, none⟩) n n, .slice (some ⟨V8, 0, none⟩) n n]) := below_setRow S8 (by omega) _
          refine ⟨S9, ?_⟩
          refine wpAnyH_done (by kernel_rfl) ?_ _
          simp only [Act.put, List.setIfInBounds_toArray, List.set_cons_zero, List.set_cons_succ]
          have hgl := hG8.lt
          have hGne : wd.heap.size ≠ D8 ∧ wd.heap.size ≠ A8 ∧ wd.heap.size ≠ V8 := ⟨fun e => by have h1 := hG8; have h2 := hD8; rw [e] at h1; unfold Rz at h1 h2; rw [h1] at h2; injection h2 with h2; injection h2 with _ h2; revert h2; decide, fun e => by have h1 := hG8; have h2 := hA8; rw [e] at h1; unfold Rz at h1 h2; rw [h1] at h2; injection h2 with h2; injection h2 with _ h2; revert h2; decide, fun e => by have h1 := hG8; have h2 := hV8; rw [e] at h1; unfold Rz at h1 h2; rw [h1] at h2; injection h2 with h2; injection h2 with _ h2; revert h2; decide⟩
          obtain ⟨WF, hWF⟩ : ∃ WF, WF = W8.setRow (wd.heap.size) #[.int .i64 p, .slice (some ⟨D8, 0, none⟩) n n, .slice (some ⟨A8, 0, none⟩) n n, .slice (some ⟨V8, 0, none⟩) n n] := ⟨_, rfl⟩
          rw [← hWF] at S9 ⊢
          have hmid : Mid p n w1 WF (wd.heap.size) D8 A8 V8 := ⟨S9, by rw [hWF]; exact Rz.set hG8 _, by rw [hWF]; exact Rz.off hD8 (fun e => hGne.1 e.symm) _, by rw [hWF]; exact Rz.off hA8 (fun e => hGne.2.1 e.symm) _, by rw [hWF]; exact Rz.off hV8 (fun e => hGne.2.2 e.symm) _, hne8, by omega, hGne⟩
          clear hWF
          go_wp2
          go_meet
          exact ⟨_, _, _, _, rfl, Lib.hid hmid⟩
  case rest =>
    obtain ⟨G, D, A0, V, rfl, HMID⟩ := hcut
    obtain ⟨wx, hwx⟩ : ∃ wx : World, wx = wc := ⟨_, rfl⟩
    subst hwx
    have hnx := HNX.out wx HMID.out.below
    have c0 := hnx.1.c0
    have c1 := hnx.1.c1
    have c2 := hnx.1.c2
    have c3 := hnx.1.c3
    clear hnx
    go_wp2_with fail
    refine (cellsOf_any p dv av vv _).mono ?_
    rintro e w2 ⟨rfl, rfl⟩
    dsimp only
    go_wp2
    clear c0 c1 c2 c3
    have hB0 : Below wx.heap.size wx (wx.alloc (.cells #[.int .i64 p, dv, av, vv] 28)) := (Below.refl _ _).alloc (Nat.le_refl _) _
    have hd0 : (wx.alloc (.cells #[.int .i64 p, dv, av, vv] 28)).cell? ⟨wx.heap.size, 1, none⟩ = some dv := new_c1 wx p dv av vv
    have hs0 : (wx.alloc (.cells #[.int .i64 p, dv, av, vv] 28)).heap.size = wx.heap.size + 1 := by simp
    obtain ⟨W0, hW0⟩ : ∃ W0, W0 = wx.alloc (.cells #[.int .i64 p, dv, av, vv] 28) := ⟨_, rfl⟩
    rw [← hW0] at hB0 hd0 hs0 ⊢
    clear hW0
    have hdb := HMID.out.below.size
    have hlo := HMID.out.lo
    have hgl := HMID.out.box.lt
    have hBw1 : Below w1.heap.size w1 W0 := HMID.out.below.trans (hB0.mono hdb)
    have hBw : Below w.heap.size w W0 := HX1.out.below.trans (hBw1.mono (by omega))
    have hst := cells_stops Fence.wide 7 trivial rfl (by decide) wx.heap.size dv ds (by omega) (fun r hr => by have := (HOK.out.col r hr).1; have := HOK.out.h1; omega) w W0 (by omega) hd0 HX.out.dims hBw
    have hfl0 : Fl (tg0 D A0 V) w1.heap.size W0 D A0 V n (List.replicate n (.slice none 0 0)) (List.replicate n (.slice none 0 0)) (List.replicate n (.slice none 0 0)) (colF n [] (cdI ds)) (colF n [] (tbl dn)) (colF n [] (tbl ac)) := by
      rw [colF_nil, colF_nil, colF_nil]
      exact (fl_made ⟨hlo.2.1, hlo.2.2.1, hlo.2.2.2⟩ HMID.out.ne HMID.out.d HMID.out.a HMID.out.v (by unfold maxLen; omega)).kept (Stp1.of_below hB0 (fun _ _ => rfl) 0)
    have hg0 : tg0 D A0 V G = 0 := by
      unfold tg0
      rw [if_neg HMID.out.gn.1, if_neg HMID.out.gn.2.1, if_neg HMID.out.gn.2.2]
    have hgb0 : W0.heap[G]? = some (.cells #[.int .i64 p, .slice (some ⟨D, 0, none⟩) n n, .slice (some ⟨A0, 0, none⟩) n n, .slice (some ⟨V, 0, none⟩) n n] 28 (0, 0)) := (hB0.block G hgl).trans HMID.out.box
    have HS0 := Lib.hid hs0
    have hgn := HMID.out.lo.1
    clear HMID hB0 hd0 hs0
    refine (wpIn_wide (n := 8)).1 ?_
    refine wpIn_rangeFunc_cell rfl (by decide : 1 ≤ 8) (gf := 118) (lb := #[.pointer (some ⟨wx.heap.size, 0, none⟩)]) rfl trivial (enters_of Try.func118 (by kernel_rfl) rfl)
      hst belowK_t (belowK_b (by have := HS0.out; omega)) (Below.refl _ _) (fun _ => rfl)
      (fun (pre : List (CellIn ds)) W => (∃ (L : Nat → Nat) (dvs avs vvs : List Value), Fl L w1.heap.size W D A0 V n dvs avs vvs (colF n (cpre pre) (cdI ds)) (colF n (cpre pre) (tbl dn)) (colF n (cpre pre) (tbl ac)) ∧ L G = 0 ∧ W.heap[G]? = some (.cells #[.int .i64 p, .slice (some ⟨D, 0, none⟩) n n, .slice (some ⟨A0, 0, none⟩) n n, .slice (some ⟨V, 0, none⟩) n n] 28 (0, 0))) ∧ Below w1.heap.size w1 W) (fun _ _ _ => False)
      (OwnFrom.and (fun (s : List (CellIn ds)) X Y row ⟨L, dvs, avs, vvs, h1, h2, h3⟩ hg hr => ⟨L, dvs, avs, vvs, h1.kept ⟨⟨row, hg, fun r e _ => .inr (hr r e).2⟩, fun _ _ => rfl⟩, h2, (hg.block G (Array.getElem?_eq_some_iff.1 h3).1 (fun e => by obtain ⟨_, ho, hc⟩ := (hr G e.symm).2; rw [h3] at ho; cases ho; cases hc)).trans h3⟩) (ownFrom_below (Nat.le_refl _) (by have := HS0.out; omega))) (fun _ _ _ _ _ h _ _ => h)
      ⟨⟨_, _, _, _, hfl0, hg0, hgb0⟩, hBw1⟩ (fun x => #[.int .i64 (x.1.1 : Int), .int .i64 (x.1.2 : Int)]) 4 101 w1.heap.size
      ?assign ?body ?done ?stop
    case assign =>
      rintro l pre x A K ⟨⟨L, dvs, avs, vvs, hf, hl, hgb⟩, hb⟩ hKK
      simp only [cellV] at hKK ⊢
      have hsz := hb.size
      gi_wp2
      have hba := below_alloc1 A (.cells #[.int .i64 (x.1.1 : Int), .int .i64 (x.1.2 : Int)] 101)
      have hk := hKK A.heap.size _ hsz (World.alloc_heap_new A _) ((KeepsOthers.alloc _ _).from _) ((Below.refl _ A).alloc (by omega) _) ⟨⟨L, dvs, avs, vvs, hf.kept (Stp1.of_below ((Below.refl _ A).alloc (Nat.le_refl _) _) (fun _ _ => rfl) 0), hl, (((Below.refl _ A).alloc (Nat.le_refl _) _).block _ (Array.getElem?_eq_some_iff.1 hgb).1).trans hgb⟩, hb.trans (((Below.refl _ A).alloc (Nat.le_refl _) _).mono hsz)⟩
      simp at hk
      refine Eq.mp ?_ hk
      congr 1
      all_goals (try congr 1)
    case body =>
      rintro l pre x Bx A hl ⟨r, hr⟩ ⟨⟨L, dvs, avs, vvs, hf, hlg, hgb⟩, hb⟩ hBx hX hlt
      obtain ⟨⟨i, j⟩, hxm⟩ := x
      dsimp only at hX
      have hmf := mem_cells.1 hxm
      dsimp only at hmf
      have hxi := hmf.1
      have hcol : (ds.getD i []).length = n := by rw [HN.out]; exact cl_height HOK.out hxi
      have hjn : j < n := by rw [← hcol]; exact hmf.2
      have hsz := hb.size
      have HNA : Hid (∀ X, Below A.heap.size A X → DBx w X w.heap.size p dv av vv ds ac dn) := Lib.hid (fun X hx => (HNX.out X (hb.trans (hx.mono hsz))).1)
      have x0 : A.cell? ⟨Bx, 0, none⟩ = some (.int .i64 (i : Int)) := by simp [World.cell?, hX]
      have x1 : A.cell? ⟨Bx, 1, none⟩ = some (.int .i64 (j : Int)) := by simp [World.cell?, hX]
      have HX0 : Hid (∀ X, Below A.heap.size A X → X.cell? ⟨Bx, 0, none⟩ = some (.int .i64 (i : Int)) ∧ X.cell? ⟨Bx, 1, none⟩ = some (.int .i64 (j : Int))) := Lib.hid (fun X hb => ⟨later hb (Nat.le_refl _) x0, later hb (Nat.le_refl _) x1⟩)
      have hf2 := hf.retag hX (by decide)
      have hlg2 : retag L Bx G = 0 := by
        unfold retag
        by_cases e : G = Bx
        · rw [if_pos e]
        · rw [if_neg e]; exact hlg
      have hlb2 : retag L Bx Bx = 0 := if_pos rfl
      obtain ⟨L, hL⟩ : ∃ M, M = retag L Bx := ⟨_, rfl⟩
      rw [← hL] at hf2 hlg2 hlb2
      have HFA := Lib.hid hf2
      have HLG := Lib.hid hlg2
      have HLB := Lib.hid hlb2
      have HGB := Lib.hid hgb
      have HBA := Lib.hid hb
      have HXA := Lib.hid hX
      have hcd := cdim_cast HOK.out hxm
      have hdl4 : dcl ds (i : Int) ((j : Int) - 1) ≤ 4 := by
        by_cases e : j = 0
        · rw [show dcl ds (i : Int) ((j : Int) - 1) = 0 from if_pos (.inr (by omega))]; omega
        · obtain ⟨q, rfl⟩ : ∃ q, j = q + 1 := ⟨j - 1, by omega⟩
          have h5 := cdim_cast HOK.out (cell_low hxm)
          have h6 := h5.1
          simp only at h6
          rw [show (((q + 1 : Nat) : Int) - 1) = (q : Int) by omega, ← h6]
          have := h5.2
          omega
      have hdl3 : dcl ds ((i : Int) - 1) (j : Int) ≤ 4 := by
        by_cases e : i = 0
        · rw [show dcl ds ((i : Int) - 1) (j : Int) = 0 from if_pos (.inl (by omega))]; omega
        · obtain ⟨q, rfl⟩ : ∃ q, i = q + 1 := ⟨i - 1, by omega⟩
          have h5 := cdim_cast HOK.out (cell_left HOK.out hxm)
          have h6 := h5.1
          simp only at h6
          rw [show (((q + 1 : Nat) : Int) - 1) = (q : Int) by omega, ← h6]
          have := h5.2
          omega
      have hcd1 := hcd.1
      have hcd2 := hcd.2
      simp only at hcd1
      have HPL : Hid ((cpre pre).length ≤ 16) := Lib.hid (by have h3 := cells_le HOK.out; rw [cpre_len]; omega)
      have hia4 : i < dn.length := by rw [HDB.out.tbs.ld]; exact hxi
      have hja4 : j < (dn[i]).length := by have h1 := HDB.out.tbs.cd i hxi; rw [getD_of_lt _ hia4] at h1; omega
      obtain ⟨ba4, oa4, ca4, b24, o24, k24, ut4, hva4, hA14, hA24, hTl4⟩ := l4_at (HNA.out A (Below.refl _ _)).dx.down hia4 hja4
      have hTt4 : (dn[i])[j] = tbl dn (i, j) := by unfold tbl; dsimp only; rw [getD_of_lt _ hia4, getD_of_lt _ hja4]
      rw [hTt4] at hTl4
      obtain ⟨n14, hn14⟩ : ∃ k, k = dn.length := ⟨_, rfl⟩
      obtain ⟨n24, hn24⟩ : ∃ k, k = (dn[i]).length := ⟨_, rfl⟩
      rw [← hn14] at hva4
      rw [← hn24] at hA14
      have hi14 : i < n14 := by omega
      have hj24 : j < n24 := by omega
      have HA14 := Lib.hid hA14
      have HA24 := Lib.hid hA24
      have HTL4 := Lib.hid hTl4
      have HTO4 : Hid (TabOk p (dcl ds i j) (dcl ds (i : Int) ((j : Int) - 1)) (tbl dn (i, j))) := Lib.hid ((HDB.out.tbs.tab (i, j) hxm).2)
      obtain ⟨ta4, tc4, hut4⟩ := Sl.shape hTl4
      subst hut4
      obtain ⟨nt4, hnt4⟩ : ∃ k, k = (tbl dn (i, j)).length := ⟨_, rfl⟩
      rw [← hnt4] at HA24 HTL4
      have HNT4 := Lib.hid hnt4
      have HVA4 := Lib.hid hva4
      clear hn14 hn24 hA14 hA24 hTl4 hTt4 hia4 hja4 hnt4 hva4
      have hia5 : i < ac.length := by rw [HDB.out.tbs.la]; exact hxi
      have hja5 : j < (ac[i]).length := by have h1 := HDB.out.tbs.ca i hxi; rw [getD_of_lt _ hia5] at h1; omega
      obtain ⟨ba5, oa5, ca5, b25, o25, k25, ut5, hva5, hA15, hA25, hTl5⟩ := l4_at (HNA.out A (Below.refl _ _)).dx.across hia5 hja5
      have hTt5 : (ac[i])[j] = tbl ac (i, j) := by unfold tbl; dsimp only; rw [getD_of_lt _ hia5, getD_of_lt _ hja5]
      rw [hTt5] at hTl5
      obtain ⟨n15, hn15⟩ : ∃ k, k = ac.length := ⟨_, rfl⟩
      obtain ⟨n25, hn25⟩ : ∃ k, k = (ac[i]).length := ⟨_, rfl⟩
      rw [← hn15] at hva5
      rw [← hn25] at hA15
      have hi15 : i < n15 := by omega
      have hj25 : j < n25 := by omega
      have HA15 := Lib.hid hA15
      have HA25 := Lib.hid hA25
      have HTL5 := Lib.hid hTl5
      have HTO5 : Hid (TabOk p (dcl ds i j) (dcl ds ((i : Int) - 1) (j : Int)) (tbl ac (i, j))) := Lib.hid ((HDB.out.tbs.tab (i, j) hxm).1)
      obtain ⟨ta5, tc5, hut5⟩ := Sl.shape hTl5
      subst hut5
      obtain ⟨nt5, hnt5⟩ : ∃ k, k = (tbl ac (i, j)).length := ⟨_, rfl⟩
      rw [← hnt5] at HA25 HTL5
      have HNT5 := Lib.hid hnt5
      have HVA5 := Lib.hid hva5
      clear hn15 hn25 hA15 hA25 hTl5 hTt5 hia5 hja5 hnt5 hva5
      clear hf hlg hgb hb hX hf2 hlg2 hlb2 hL x0 x1 hr
      have HB4 : Hid (Below A.heap.size A A) := Lib.hid (Below.refl _ _)
      gi_wp2_with fail
      refine wpIn_region_held (S := fun X => Below A.heap.size A X) (by kernel_rfl) (by kernel_rfl) (fun ⟨_, _, h⟩ => h) ?_
      have S0 : Below A.heap.size A A.drew := HB4.out.drew
      change wpAnyH _ _ _ _ _ _ _ _ A.drew
      obtain ⟨wd, hwd⟩ : ∃ wd, wd = A.drew := ⟨_, rfl⟩
      have hsd : wd.heap.size = A.heap.size := by rw [hwd]; rfl
      have hbd4 : Below A.heap.size A wd := by rw [hwd]; exact (Below.refl _ _).drew
      rw [← hwd] at S0 ⊢
      clear hwd
      refine held_take (i := 0) (v := (.pointer (some ⟨w.heap.size, 0, none⟩))) (some 15) rfl rfl (by kernel_rfl) (by kernel_rfl) (by kernel_rfl) (fun _ _ _ h => h) (yieldsIf_run (by kernel_rfl) (fun W _ => by kernel_rfl)) S0 ?_
      refine held_take (i := 1) (v := (.int .i64 p)) (some 16) rfl rfl (by kernel_rfl) (by kernel_rfl) (by kernel_rfl) (fun _ _ _ h => h) (yieldsIf_cell (by kernel_rfl) rfl (by kernel_rfl) (fun W h => hloadIn W (HNA.out W h).c0)) S0 ?_
      refine held_take (i := 2) (v := (.pointer (some ⟨w.heap.size, 3, none⟩))) (some 17) rfl rfl (by kernel_rfl) (by kernel_rfl) (by kernel_rfl) (fun _ _ _ h => h) (yieldsIf_run (by kernel_rfl) (fun W _ => by kernel_rfl)) S0 ?_
      refine held_take (i := 3) (v := (.slice (some ⟨ba4, oa4, none⟩) n14 ca4)) (some 18) rfl rfl (by kernel_rfl) (by kernel_rfl) (by kernel_rfl) (fun _ _ _ h => h) (yieldsIf_cell (by kernel_rfl) rfl (by kernel_rfl) (fun W h => hload4 W (by rw [← HVA4.out]; exact (HNA.out W h).c3))) S0 ?_
      refine held_take (i := 4) (v := (.pointer (some ⟨Bx, 0, none⟩))) (some 19) rfl rfl (by kernel_rfl) (by kernel_rfl) (by kernel_rfl) (fun _ _ _ h => h) (yieldsIf_run (by kernel_rfl) (fun W _ => by kernel_rfl)) S0 ?_
      refine held_take (i := 5) (v := (.int .i64 (i : Int))) (some 20) rfl rfl (by kernel_rfl) (by kernel_rfl) (by kernel_rfl) (fun _ _ _ h => h) (yieldsIf_cell (by kernel_rfl) rfl (by kernel_rfl) (fun W h => hloadIn W (HX0.out W h).1)) S0 ?_
      refine held_take (i := 6) (v := (.pointer (some ⟨ba4, oa4 + i, none⟩))) (some 21) rfl rfl (by kernel_rfl) (by kernel_rfl) (by kernel_rfl) (fun _ _ _ h => h) (yieldsIf_index (by kernel_rfl) rfl (by kernel_rfl) (by kernel_rfl) (hidx4 (cap := ca4) rfl hi14)) S0 ?_
      refine held_take (i := 7) (v := (.slice (some ⟨b24, o24, none⟩) n24 k24)) (some 22) rfl rfl (by kernel_rfl) (by kernel_rfl) (by kernel_rfl) (fun _ _ _ h => h) (yieldsIf_cell (by kernel_rfl) rfl (by kernel_rfl) (fun W h => hload3s W (later h (Nat.le_refl _) HA14.out))) S0 ?_
      refine held_take (i := 8) (v := (.pointer (some ⟨Bx, 1, none⟩))) (some 23) rfl rfl (by kernel_rfl) (by kernel_rfl) (by kernel_rfl) (fun _ _ _ h => h) (yieldsIf_run (by kernel_rfl) (fun W _ => by kernel_rfl)) S0 ?_
      refine held_take (i := 9) (v := (.int .i64 (j : Int))) (some 24) rfl rfl (by kernel_rfl) (by kernel_rfl) (by kernel_rfl) (fun _ _ _ h => h) (yieldsIf_cell (by kernel_rfl) rfl (by kernel_rfl) (fun W h => hloadIn W (HX0.out W h).2)) S0 ?_
      refine held_take (i := 10) (v := (.pointer (some ⟨b24, o24 + j, none⟩))) (some 25) rfl rfl (by kernel_rfl) (by kernel_rfl) (by kernel_rfl) (fun _ _ _ h => h) (yieldsIf_index (by kernel_rfl) rfl (by kernel_rfl) (by kernel_rfl) (hidx3 b24 o24 k24 hj24)) S0 ?_
      refine held_take (i := 11) (v := (.slice ta4 nt4 tc4)) (some 26) rfl rfl (by kernel_rfl) (by kernel_rfl) (by kernel_rfl) (fun _ _ _ h => h) (yieldsIf_cell (by kernel_rfl) rfl (by kernel_rfl) (fun W h => hload2s W (later h (Nat.le_refl _) HA24.out))) S0 ?_
      have HSC4 := Lib.hid (scaledTable_any p 1 (dcl ds (i : Int) ((j : Int) - 1)).toNat (.slice ta4 nt4 tc4) (tbl dn (i, j)) wd hp0 hp1 ⟨by omega, by omega⟩ (HTL4.out.below S0) (by have := HTO4.out.1; omega) (by omega) (fun y hy => ⟨by have := (HTO4.out.2 y hy).1; omega, (HTO4.out.2 y hy).2⟩))
      refine held_enter (i := 12) (some 27) (f := 82) (args := #[.int .i64 p, .int .i64 1, .slice ta4 nt4 tc4]) (by kernel_rfl) rfl rfl rfl (by kernel_rfl) HSC4.out ?_ (fun c w' h => by cases h.1) (fun w' h => by cases h.1)
      rintro ee Z4 ⟨he, hm4⟩
      injection he with he
      subst he
      have S1 : Below A.heap.size A Z4 := S0.trans (hm4.below.mono S0.size)
      refine ⟨S1, ?_⟩
      refine held_take (i := 13) (v := (.slice (some ⟨wd.heap.size, 0, none⟩) (tbl dn (i, j)).length (tbl dn (i, j)).length)) (some 5) rfl rfl (by kernel_rfl) (by kernel_rfl) (by kernel_rfl) (fun _ _ _ h => h) (yieldsIf_assign (by kernel_rfl) rfl (by kernel_rfl)) S1 ?_
      refine wpAnyH_done (by kernel_rfl) ?_ _
      simp only [Act.put, List.setIfInBounds_toArray, List.set_cons_zero, List.set_cons_succ]
      have hbz4 : Below A.heap.size A Z4 := hbd4.trans (hm4.below.mono (by omega))
      have HM4 := Lib.hid hm4
      have HB5 := Lib.hid S1
      have HBZ4 := Lib.hid hbz4
      have HSD4 := Lib.hid hsd
      obtain ⟨wd4, hwd4⟩ : ∃ q, q = wd := ⟨_, rfl⟩
      rw [← hwd4] at HM4 HSD4 ⊢
      clear S0 S1 HSC4 hm4 hbz4 hbd4 hsd hwd4
      gi_wp2_with fail
      refine wpIn_region_held (S := fun X => Below A.heap.size A X) (by kernel_rfl) (by kernel_rfl) (fun ⟨_, _, h⟩ => h) ?_
      have S0 : Below A.heap.size A Z4.drew := HB5.out.drew
      change wpAnyH _ _ _ _ _ _ _ _ Z4.drew
      obtain ⟨wd, hwd⟩ : ∃ wd, wd = Z4.drew := ⟨_, rfl⟩
      have hsd : wd.heap.size = Z4.heap.size := by rw [hwd]; rfl
      have hbd5 : Below Z4.heap.size Z4 wd := by rw [hwd]; exact (Below.refl _ _).drew
      rw [← hwd] at S0 ⊢
      clear hwd
      refine held_take (i := 0) (v := (.pointer (some ⟨w.heap.size, 0, none⟩))) (some 28) rfl rfl (by kernel_rfl) (by kernel_rfl) (by kernel_rfl) (fun _ _ _ h => h) (yieldsIf_run (by kernel_rfl) (fun W _ => by kernel_rfl)) S0 ?_
      refine held_take (i := 1) (v := (.int .i64 p)) (some 29) rfl rfl (by kernel_rfl) (by kernel_rfl) (by kernel_rfl) (fun _ _ _ h => h) (yieldsIf_cell (by kernel_rfl) rfl (by kernel_rfl) (fun W h => hloadIn W (HNA.out W h).c0)) S0 ?_
      refine held_take (i := 2) (v := (.pointer (some ⟨w.heap.size, 2, none⟩))) (some 30) rfl rfl (by kernel_rfl) (by kernel_rfl) (by kernel_rfl) (fun _ _ _ h => h) (yieldsIf_run (by kernel_rfl) (fun W _ => by kernel_rfl)) S0 ?_
      refine held_take (i := 3) (v := (.slice (some ⟨ba5, oa5, none⟩) n15 ca5)) (some 31) rfl rfl (by kernel_rfl) (by kernel_rfl) (by kernel_rfl) (fun _ _ _ h => h) (yieldsIf_cell (by kernel_rfl) rfl (by kernel_rfl) (fun W h => hload4 W (by rw [← HVA5.out]; exact (HNA.out W h).c2))) S0 ?_
      refine held_take (i := 4) (v := (.pointer (some ⟨Bx, 0, none⟩))) (some 32) rfl rfl (by kernel_rfl) (by kernel_rfl) (by kernel_rfl) (fun _ _ _ h => h) (yieldsIf_run (by kernel_rfl) (fun W _ => by kernel_rfl)) S0 ?_
      refine held_take (i := 5) (v := (.int .i64 (i : Int))) (some 33) rfl rfl (by kernel_rfl) (by kernel_rfl) (by kernel_rfl) (fun _ _ _ h => h) (yieldsIf_cell (by kernel_rfl) rfl (by kernel_rfl) (fun W h => hloadIn W (HX0.out W h).1)) S0 ?_
      refine held_take (i := 6) (v := (.pointer (some ⟨ba5, oa5 + i, none⟩))) (some 34) rfl rfl (by kernel_rfl) (by kernel_rfl) (by kernel_rfl) (fun _ _ _ h => h) (yieldsIf_index (by kernel_rfl) rfl (by kernel_rfl) (by kernel_rfl) (hidx4 (cap := ca5) rfl hi15)) S0 ?_
      refine held_take (i := 7) (v := (.slice (some ⟨b25, o25, none⟩) n25 k25)) (some 35) rfl rfl (by kernel_rfl) (by kernel_rfl) (by kernel_rfl) (fun _ _ _ h => h) (yieldsIf_cell (by kernel_rfl) rfl (by kernel_rfl) (fun W h => hload3s W (later h (Nat.le_refl _) HA15.out))) S0 ?_
      refine held_take (i := 8) (v := (.pointer (some ⟨Bx, 1, none⟩))) (some 36) rfl rfl (by kernel_rfl) (by kernel_rfl) (by kernel_rfl) (fun _ _ _ h => h) (yieldsIf_run (by kernel_rfl) (fun W _ => by kernel_rfl)) S0 ?_
      refine held_take (i := 9) (v := (.int .i64 (j : Int))) (some 37) rfl rfl (by kernel_rfl) (by kernel_rfl) (by kernel_rfl) (fun _ _ _ h => h) (yieldsIf_cell (by kernel_rfl) rfl (by kernel_rfl) (fun W h => hloadIn W (HX0.out W h).2)) S0 ?_
      refine held_take (i := 10) (v := (.pointer (some ⟨b25, o25 + j, none⟩))) (some 38) rfl rfl (by kernel_rfl) (by kernel_rfl) (by kernel_rfl) (fun _ _ _ h => h) (yieldsIf_index (by kernel_rfl) rfl (by kernel_rfl) (by kernel_rfl) (hidx3 b25 o25 k25 hj25)) S0 ?_
      refine held_take (i := 11) (v := (.slice ta5 nt5 tc5)) (some 39) rfl rfl (by kernel_rfl) (by kernel_rfl) (by kernel_rfl) (fun _ _ _ h => h) (yieldsIf_cell (by kernel_rfl) rfl (by kernel_rfl) (fun W h => hload2s W (later h (Nat.le_refl _) HA25.out))) S0 ?_
      have HSC5 := Lib.hid (scaledTable_any p 1 (dcl ds ((i : Int) - 1) (j : Int)).toNat (.slice ta5 nt5 tc5) (tbl ac (i, j)) wd hp0 hp1 ⟨by omega, by omega⟩ (HTL5.out.below S0) (by have := HTO5.out.1; omega) (by omega) (fun y hy => ⟨by have := (HTO5.out.2 y hy).1; omega, (HTO5.out.2 y hy).2⟩))
      refine held_enter (i := 12) (some 40) (f := 82) (args := #[.int .i64 p, .int .i64 1, .slice ta5 nt5 tc5]) (by kernel_rfl) rfl rfl rfl (by kernel_rfl) HSC5.out ?_ (fun c w' h => by cases h.1) (fun w' h => by cases h.1)
      rintro ee Z5 ⟨he, hm5⟩
      injection he with he
      subst he
      have S1 : Below A.heap.size A Z5 := S0.trans (hm5.below.mono S0.size)
      refine ⟨S1, ?_⟩
      refine held_take (i := 13) (v := (.slice (some ⟨wd.heap.size, 0, none⟩) (tbl ac (i, j)).length (tbl ac (i, j)).length)) (some 6) rfl rfl (by kernel_rfl) (by kernel_rfl) (by kernel_rfl) (fun _ _ _ h => h) (yieldsIf_assign (by kernel_rfl) rfl (by kernel_rfl)) S1 ?_
      refine wpAnyH_done (by kernel_rfl) ?_ _
      simp only [Act.put, List.setIfInBounds_toArray, List.set_cons_zero, List.set_cons_succ]
      have hbz5 : Below Z4.heap.size Z4 Z5 := hbd5.trans (hm5.below.mono (by omega))
      have HM5 := Lib.hid hm5
      have HB6 := Lib.hid S1
      have HBZ5 := Lib.hid hbz5
      have HSD5 := Lib.hid hsd
      obtain ⟨wd5, hwd5⟩ : ∃ q, q = wd := ⟨_, rfl⟩
      rw [← hwd5] at HM5 HSD5 ⊢
      clear S0 S1 HSC5 hm5 hbz5 hbd5 hsd hwd5
      gi_wp2_with fail
      obtain ⟨d2, hd2⟩ : ∃ q, q = colF n (cpre pre) (cdI ds) := ⟨_, rfl⟩
      obtain ⟨a2, ha2⟩ : ∃ q, q = colF n (cpre pre) (tbl dn) := ⟨_, rfl⟩
      obtain ⟨v2, hv2⟩ : ∃ q, q = colF n (cpre pre) (tbl ac) := ⟨_, rfl⟩
      rw [← hd2, ← ha2, ← hv2] at HFA
      have hjd : j < d2.length := by rw [hd2, colF_len]; exact hjn
      have hja : j < a2.length := by rw [ha2, colF_len]; exact hjn
      have hjv : j < v2.length := by rw [hv2, colF_len]; exact hjn
      have hld : (d2[j]).length ≤ 16 := by subst hd2; exact Nat.le_trans (colF_short hjd) HPL.out
      have hla : (a2[j]).length ≤ 16 := by subst ha2; exact Nat.le_trans (colF_short hja) HPL.out
      have hlv : (v2[j]).length ≤ 16 := by subst hv2; exact Nat.le_trans (colF_short hjv) HPL.out
      have HSN : Hid (d2.set j (d2[j] ++ [cdI ds (i, j)]) = colF n (cpre (pre ++ ([⟨(i, j), hxm⟩] : List (CellIn ds)))) (cdI ds) ∧ a2.set j (a2[j] ++ [tbl dn (i, j)]) = colF n (cpre (pre ++ ([⟨(i, j), hxm⟩] : List (CellIn ds)))) (tbl dn) ∧ v2.set j (v2[j] ++ [tbl ac (i, j)]) = colF n (cpre (pre ++ ([⟨(i, j), hxm⟩] : List (CellIn ds)))) (tbl ac)) := Lib.hid (by
        subst hd2 ha2 hv2
        have e9 : cpre (pre ++ ([⟨(i, j), hxm⟩] : List (CellIn ds))) = cpre pre ++ [(i, j)] := by unfold cpre; rw [List.map_append]; rfl
        rw [e9]
        exact ⟨colF_snoc hjd, colF_snoc hja, colF_snoc hjv⟩)
      clear hd2 ha2 hv2
      have hs4 : A.heap.size ≤ Z4.heap.size := HBZ4.out.size
      have hs5 : Z4.heap.size ≤ Z5.heap.size := HBZ5.out.size
      obtain ⟨L1, hL1⟩ : ∃ M : Nat → Nat, M = fun b => if b < A.heap.size then L b else 100 + 200 * j + (a2[j]).length := ⟨_, rfl⟩
      obtain ⟨L2, hL2⟩ : ∃ M : Nat → Nat, M = fun b => if b < Z4.heap.size then L1 b else 200 + 200 * j + (v2[j]).length := ⟨_, rfl⟩
      obtain ⟨L3, hL3⟩ : ∃ M : Nat → Nat, M = fun b => if b < Z5.heap.size then L2 b else 0 := ⟨_, rfl⟩
      have o1 : ∀ b, b < A.heap.size → L1 b = L b := fun b hb => by rw [hL1]; exact if_pos hb
      have n1 : ∀ b, A.heap.size ≤ b → L1 b = 100 + 200 * j + (a2[j]).length := fun b hb => by rw [hL1]; exact if_neg (by omega)
      have o2 : ∀ b, b < Z4.heap.size → L2 b = L1 b := fun b hb => by rw [hL2]; exact if_pos hb
      have n2 : ∀ b, Z4.heap.size ≤ b → L2 b = 200 + 200 * j + (v2[j]).length := fun b hb => by rw [hL2]; exact if_neg (by omega)
      have o3 : ∀ b, b < Z5.heap.size → L3 b = L2 b := fun b hb => by rw [hL3]; exact if_pos hb
      clear hL1 hL2 hL3
      have o13 : ∀ b, b < A.heap.size → L3 b = L b := fun b hb => ((o3 b (by omega)).trans (o2 b (by omega))).trans (o1 b hb)
      have t4 : TTab L1 (100 + 200 * j + (a2[j]).length) w1.heap.size Z4 (.slice (some ⟨wd4.heap.size, 0, none⟩) (tbl dn (i, j)).length (tbl dn (i, j)).length) (tbl dn (i, j)) := by
        have h0 := TTab.of_mat (L := L1) (s := 100 + 200 * j + (a2[j]).length) (base := w1.heap.size) HM4.out (by rw [HSD4.out]; exact hsz) (by have := HTO4.out.1; omega) (by omega) (fun b hb => n1 b (by have := HSD4.out; omega))
        rwa [sc_tab HTO4.out] at h0
      have t5 : TTab L2 (200 + 200 * j + (v2[j]).length) w1.heap.size Z5 (.slice (some ⟨wd5.heap.size, 0, none⟩) (tbl ac (i, j)).length (tbl ac (i, j)).length) (tbl ac (i, j)) := by
        have h0 := TTab.of_mat (L := L2) (s := 200 + 200 * j + (v2[j]).length) (base := w1.heap.size) HM5.out (by rw [HSD5.out]; omega) (by have := HTO5.out.1; omega) (by omega) (fun b hb => n2 b (by have := HSD5.out; omega))
        rwa [sc_tab HTO5.out] at h0
      have HT4 : Hid (∀ X, Below Z5.heap.size Z5 X → TTab L3 (100 + 200 * j + (a2[j]).length) w1.heap.size X (.slice (some ⟨wd4.heap.size, 0, none⟩) (tbl dn (i, j)).length (tbl dn (i, j)).length) (tbl dn (i, j))) := Lib.hid (fun X hx => ((t4.kept (Stp1.of_below HBZ5.out o2 0) (by omega)).kept (Stp1.of_below hx o3 0) (by omega)))
      have HT5 : Hid (∀ X, Below Z5.heap.size Z5 X → TTab L3 (200 + 200 * j + (v2[j]).length) w1.heap.size X (.slice (some ⟨wd5.heap.size, 0, none⟩) (tbl ac (i, j)).length (tbl ac (i, j)).length) (tbl ac (i, j))) := Lib.hid (fun X hx => t5.kept (Stp1.of_below hx o3 0) (by omega))
      have HBT : Hid (∀ X, Below Z5.heap.size Z5 X → Below A.heap.size A X) := Lib.hid (fun X hx => HB6.out.trans (hx.mono (by omega)))
      have HFT : Hid (∀ X, Below Z5.heap.size Z5 X → Fl L3 w1.heap.size X D A0 V n dvs avs vvs d2 a2 v2) := Lib.hid (fun X hx => HFA.out.kept (Stp1.of_below (HBT.out X hx) o13 0))
      have hGlt := (Array.getElem?_eq_some_iff.1 HGB.out).1
      have hBlt := (Array.getElem?_eq_some_iff.1 HXA.out).1
      have HLG3 : Hid (L3 G = 0) := Lib.hid ((o13 G hGlt).trans HLG.out)
      have HLB3 : Hid (L3 Bx = 0) := Lib.hid ((o13 Bx hBlt).trans HLB.out)
      have HLO3 : Hid (∀ b, b < w1.heap.size → L3 b = 0) := Lib.hid (fun b hb => (HFT.out Z5 (Below.refl _ _)).lo b hb)
      have HC6 : Hid (∀ X : World, X.heap[Bx]? = A.heap[Bx]? → X.cell? ⟨Bx, 0, none⟩ = some (.int .i64 (i : Int)) ∧ X.cell? ⟨Bx, 1, none⟩ = some (.int .i64 (j : Int))) := Lib.hid (fun X hx => by rw [HXA.out] at hx; exact ⟨by simp [World.cell?, hx], by simp [World.cell?, hx]⟩)
      have HDC : Hid (∀ X, Below w1.heap.size w1 X → Calls Try.prog 95 #[.agg #[.int .i64 p, dv, av, vv], .agg #[.int .i64 (i : Int), .int .i64 (j : Int)]] X fun e w' => e = .returned (.int .i64 (cdI ds (i, j))) ∧ Below X.heap.size X w') := Lib.hid (fun X hx => by
        have h0 := dimOfCell_any p i j _ av vv ds X (HNX.out X hx).1.dx.dims ⟨by omega, fun r hr => by have := (HOK.out.col r hr).1; have := HOK.out.h1; show r.length ≤ _; omega⟩ (by omega) (by omega) (by omega) (fun _ => by simp only [Int.toNat_natCast]; exact Int.ofNat_lt.2 hmf.2)
        rwa [dcl_nat] at h0)
      clear t4 t5 o1 o2 o3 n1 n2 o13 hcol hcd hcd1 hcd2 hdl3 hdl4
      refine wpIn_region_held (S := fun X => A.heap.size ≤ X.heap.size ∧ Below w1.heap.size w1 X ∧ X.heap[Bx]? = A.heap[Bx]?) (by kernel_rfl) (by kernel_rfl) (fun ⟨_, _, h⟩ => h) ?_
      have hbd : Below Z5.heap.size Z5 Z5.drew := (Below.refl _ _).drew
      change wpAnyH _ _ _ _ _ _ _ _ Z5.drew
      obtain ⟨wd, hwd⟩ : ∃ wd, wd = Z5.drew := ⟨_, rfl⟩
      rw [← hwd] at hbd ⊢
      clear hwd
      have HST : Hid (∀ X, Below Z5.heap.size Z5 X → A.heap.size ≤ X.heap.size ∧ Below w1.heap.size w1 X ∧ X.heap[Bx]? = A.heap[Bx]?) := Lib.hid (fun X hx => ⟨(HBT.out X hx).size, HBA.out.trans ((HBT.out X hx).mono hsz), (HBT.out X hx).block Bx hBlt⟩)
      have S0 := HST.out wd hbd
      refine held_take (i := 0) (v := (.pointer (some ⟨Bx, 1, none⟩))) (some 41) rfl rfl (by kernel_rfl) (by kernel_rfl) (by kernel_rfl) (fun _ _ _ h => h) (yieldsIf_run (by kernel_rfl) (fun W _ => by kernel_rfl)) S0 ?_
      refine held_take (i := 1) (v := (.int .i64 (j : Int))) (some 42) rfl rfl (by kernel_rfl) (by kernel_rfl) (by kernel_rfl) (fun _ _ _ h => h) (yieldsIf_cell (by kernel_rfl) rfl (by kernel_rfl) (fun W h => hloadIn W (HC6.out W h.2.2).2)) S0 ?_
      refine held_take (i := 2) (v := (.agg #[.int .i64 p, dv, av, vv])) (some 43) rfl rfl (by kernel_rfl) (by kernel_rfl) (by kernel_rfl) (fun _ _ _ h => h) (yieldsIf_cell (by kernel_rfl) rfl (by kernel_rfl) (fun W h => hloadDb W (HNX.out W h.2.1).1)) S0 ?_
      refine held_take (i := 3) (v := (.agg #[.int .i64 (i : Int), .int .i64 (j : Int)])) (some 44) rfl rfl (by kernel_rfl) (by kernel_rfl) (by kernel_rfl) (fun _ _ _ h => h) (yieldsIf_cell (by kernel_rfl) rfl (by kernel_rfl) (fun W h => hloadCe W (HC6.out W h.2.2).1 (HC6.out W h.2.2).2)) S0 ?_
      refine held_take (i := 5) (v := (.slice (some ⟨wd4.heap.size, 0, none⟩) (tbl dn (i, j)).length (tbl dn (i, j)).length)) (some 46) rfl rfl (by kernel_rfl) (by kernel_rfl) (by kernel_rfl) (fun _ _ _ h => h) (yieldsIf_move (by kernel_rfl) rfl (by kernel_rfl)) S0 ?_
      refine held_take (i := 6) (v := (.slice (some ⟨wd5.heap.size, 0, none⟩) (tbl ac (i, j)).length (tbl ac (i, j)).length)) (some 47) rfl rfl (by kernel_rfl) (by kernel_rfl) (by kernel_rfl) (fun _ _ _ h => h) (yieldsIf_move (by kernel_rfl) rfl (by kernel_rfl)) S0 ?_
      refine held_enter (i := 4) (some 45) (f := 95) (args := #[.agg #[.int .i64 p, dv, av, vv], .agg #[.int .i64 (i : Int), .int .i64 (j : Int)]]) (by kernel_rfl) rfl rfl rfl (by kernel_rfl) (HDC.out wd S0.2.1) ?_ (fun c w' h => by cases h.1) (fun w' h => by cases h.1)
      rintro e6 Z6 ⟨he, hb6⟩
      injection he with he
      subst he
      have hbz6 : Below Z5.heap.size Z5 Z6 := hbd.trans (hb6.mono hbd.size)
      have S1 := HST.out Z6 hbz6
      refine ⟨S1, ?_⟩
      have HADC := Lib.hid (addCell_any p L3 w1.heap.size D A0 V n G j (cdI ds (i, j)) (.slice (some ⟨wd4.heap.size, 0, none⟩) (tbl dn (i, j)).length (tbl dn (i, j)).length) (.slice (some ⟨wd5.heap.size, 0, none⟩) (tbl ac (i, j)).length (tbl ac (i, j)).length) dvs avs vvs d2 a2 v2 (tbl dn (i, j)) (tbl ac (i, j)) Z6 (HFT.out Z6 hbz6) (by omega) hjn (((HBT.out Z6 hbz6).block G hGlt).trans HGB.out) HLG3.out hja hjv hjd (HT4.out Z6 hbz6) (HT5.out Z6 hbz6) (by omega) (by omega) (by omega))
      refine held_enter (i := 7) (some 48) (f := 87) (args := #[.pointer (some ⟨G, 0, none⟩), .int .i64 (j : Int), .int .i64 (cdI ds (i, j)), .slice (some ⟨wd4.heap.size, 0, none⟩) (tbl dn (i, j)).length (tbl dn (i, j)).length, .slice (some ⟨wd5.heap.size, 0, none⟩) (tbl ac (i, j)).length (tbl ac (i, j)).length]) (by kernel_rfl) rfl rfl rfl (by kernel_rfl) HADC.out ?_ (fun c w' h => by cases h.1) (fun w' h => by cases h.1)
      rintro e9 X9 ⟨he, L9, dvs9, avs9, vvs9, hfl, hfrm⟩
      injection he with he
      subst he
      have hAZ := HBT.out Z6 hbz6
      have hAs := hAZ.size
      have hB9 : Below w1.heap.size w1 X9 := hfrm.below S1.2.1 (Nat.le_refl _) HLO3.out
      have hBx9 : X9.heap[Bx]? = A.heap[Bx]? := (hfrm.blk Bx (by omega) HLB3.out).trans S1.2.2
      refine ⟨⟨Nat.le_trans S1.1 hfrm.size, hB9, hBx9⟩, ?_⟩
      refine wpAnyH_done (by kernel_rfl) ?_ _
      simp only [Act.put, List.setIfInBounds_toArray, List.set_cons_zero, List.set_cons_succ]
      have hG9 : X9.heap[G]? = some (.cells #[.int .i64 p, .slice (some ⟨D, 0, none⟩) n n, .slice (some ⟨A0, 0, none⟩) n n, .slice (some ⟨V, 0, none⟩) n n] 28 (0, 0)) := ((hfrm.blk G (by omega) HLG3.out).trans (hAZ.block G hGlt)).trans HGB.out
      have hLG9 : L9 G = 0 := (hfrm.old G (by omega)).trans HLG3.out
      have hkeep : KeepsFrom W0.heap.size A X9 := (keepsFrom_below hAZ).trans (hfrm.ko.from _)
      have hF1 : Below w.heap.size A X9 := (hfrm.below (w := A) (hAZ.mono hsz) hsz HLO3.out).mono (by omega)
      rw [HSN.out.1, HSN.out.2.1, HSN.out.2.2] at hfl
      have HEND := Lib.hid (And.intro hkeep (And.intro hF1 (And.intro (⟨L9, dvs9, avs9, vvs9, hfl, hLG9, hG9⟩ : ∃ (L : Nat → Nat) (dvs avs vvs : List Value), Fl L w1.heap.size X9 D A0 V n dvs avs vvs (colF n (cpre (pre ++ ([⟨(i, j), hxm⟩] : List (CellIn ds)))) (cdI ds)) (colF n (cpre (pre ++ ([⟨(i, j), hxm⟩] : List (CellIn ds)))) (tbl dn)) (colF n (cpre (pre ++ ([⟨(i, j), hxm⟩] : List (CellIn ds)))) (tbl ac)) ∧ L G = 0 ∧ X9.heap[G]? = some (.cells #[.int .i64 p, .slice (some ⟨D, 0, none⟩) n n, .slice (some ⟨A0, 0, none⟩) n n, .slice (some ⟨V, 0, none⟩) n n] 28 (0, 0))) hB9)))
      clear hkeep hF1 hfl hLG9 hG9 hB9 hBx9 hfrm S0 S1 hbd hb6 hbz6 HADC
      exact HEND.out
    case done =>
      rintro Dd zs A hD hS ⟨⟨L, dvs, avs, vvs, hf, hlg, hgb⟩, hb⟩ hKD
      have hcp : cpre zs = cellsTo ds ds.length := hS
      rw [hcp] at hf
      have HFA := Lib.hid hf
      have HKD := Lib.hid hKD
      have HBA := Lib.hid hb
      have g0 : A.cell? ⟨G, 0, none⟩ = some (.int .i64 p) := by simp [World.cell?, hgb]
      have g1 : A.cell? ⟨G, 1, none⟩ = some (.slice (some ⟨D, 0, none⟩) n n) := by simp [World.cell?, hgb]
      have g2 : A.cell? ⟨G, 2, none⟩ = some (.slice (some ⟨A0, 0, none⟩) n n) := by simp [World.cell?, hgb]
      have g3 : A.cell? ⟨G, 3, none⟩ = some (.slice (some ⟨V, 0, none⟩) n n) := by simp [World.cell?, hgb]
      have hRz := (HNX.out A hb).2
      have hDl : Dd < A.heap.size := (Array.getElem?_eq_some_iff.1 hKD).1
      have hDn : Dd ≠ w.heap.size + 1 := fun e => by have h1 : A.heap[w.heap.size + 1]? = _ := hRz; rw [← e, hKD] at h1; cases h1
      have HZ : Hid (A.heap[w.heap.size + 1]? = some (.cells Zd4 28 (0, 0))) := Lib.hid hRz
      obtain ⟨WF, hWF⟩ : ∃ WF, WF = A.setRow (w.heap.size + 1) #[.int .i64 p, .slice (some ⟨D, 0, none⟩) n n, .slice (some ⟨A0, 0, none⟩) n n, .slice (some ⟨V, 0, none⟩) n n] := ⟨_, rfl⟩
      have hrF : Rz WF (w.heap.size + 1) 28 #[.int .i64 p, .slice (some ⟨D, 0, none⟩) n n, .slice (some ⟨A0, 0, none⟩) n n, .slice (some ⟨V, 0, none⟩) n n] := by rw [hWF]; exact Rz.set HZ.out _
      have hgF : A.grownBy WF (some (w.heap.size + 1)) := by rw [hWF]; exact grown_setRow _ _ _
      have hkF : WF.heap[Dd]? = some (.deferred (some [])) := (hgF.block Dd hDl (fun e => by cases e; exact hDn rfl)).trans hKD
      have HKF := Lib.hid hkF
      have hpo : ∀ i, i ≠ Dd → (WF.putObj Dd (.deferred none)).heap[i]? = WF.heap[i]? := fun i hi => World.putObj_heap_other (by omega)
      have hcpo : ∀ o, (WF.putObj Dd (.deferred none)).cell? ⟨w.heap.size + 1, o, none⟩ = WF.cell? ⟨w.heap.size + 1, o, none⟩ := fun o => World.cell?_of_block (hpo (w.heap.size + 1) (fun e => hDn e.symm))
      have HG0 := Lib.hid ((hcpo 0).trans (hrF.cell (i := 0) (v := _) rfl))
      have HG1 := Lib.hid ((hcpo 1).trans (hrF.cell (i := 1) (v := _) rfl))
      have HG2 := Lib.hid ((hcpo 2).trans (hrF.cell (i := 2) (v := _) rfl))
      have HG3 := Lib.hid ((hcpo 3).trans (hrF.cell (i := 3) (v := _) rfl))
      have hst1 : Stp1 L L 0 A WF := ⟨⟨_, hgF, fun r e _ => by cases e; exact .inl (hf.lo _ (by omega))⟩, fun _ _ => rfl⟩
      have hst2 : Stp1 L L 0 WF (WF.putObj Dd (.deferred none)) := ⟨⟨_, grownBy_putObj' WF Dd (.deferred none), fun r e _ => by cases e; exact .inr ⟨_, hkF, rfl⟩⟩, fun _ _ => rfl⟩
      have HFF := Lib.hid ((hf.kept hst1).kept hst2)
      have HBF : Hid (Below w.heap.size w WF) := Lib.hid (by rw [hWF]; exact below_setRow (HX1.out.below.trans (hb.mono (by omega))) (Nat.le_succ _) _)
      have HWF := Lib.hid hWF
      clear hWF hrF hgF hkF hpo hcpo hst1 hst2 hRz hf hb hS hcp hKD hgb hlg
      go_wp2_with (with_reducible refine wpList_store_row rfl 28 (.tmp 2) (.tmp 49) rfl (w.heap.size + 1) #[.int .i64 p, .slice (some ⟨D, 0, none⟩) n n, .slice (some ⟨A0, 0, none⟩) n n, .slice (some ⟨V, 0, none⟩) n n] rfl rfl 28 Zd4 HZ.out (infoDb _ _ _ _) rfl (by kernel_rfl) ?_)
      rw [← HWF.out]
      go_wp2
      refine ⟨by simp, .inl ⟨_, _, rfl, run_takeDeferred HKF.out, ?_⟩⟩
      refine ⟨_, results_db HRES.out _ (w.heap.size + 1) _ _ _ _ _ rfl HG0.out HG1.out HG2.out HG3.out, w1.heap.size, D, A0, V, n, L, dvs, avs, vvs, rfl, HN.out, by omega, HFF.out, HBF.out.trans (belowK_b (w := w) (Nat.le_refl _) _ Dd _ _ (by have := HS0.out; omega) HKF.out rfl rfl)⟩
    case stop =>
      rintro D c pre A hD _ hf hKD
      exact hf.elim
end Go.Proofs.Ytlopenephgabhaa


namespace Go.Proofs.Ytlopenephgabhaa
open Go.RowKit

def rowH {α : Type} (ds : List (List Int)) (g : Nat × Nat → α) (j : Nat) : List α := (List.range ds.length).map fun i => g (i, j)
/-- What is told by the cells, the columns turned to rows. -/
def flG {α : Type} (ds : List (List Int)) (g : Nat × Nat → α) : List (List α) := (List.range (ds.getD 0 []).length).map (rowH ds g)
theorem colF_flG {α : Type} {ds : List (List Int)} (hok : DclOk ds) (g : Nat × Nat → α) : colF (ds.getD 0 []).length (cellsTo ds ds.length) g = flG ds g := colF_all hok g
section
variable {α : Type} {p : Int} {ds : List (List Int)} {ac dn : List (List (List (List Int)))} {g : Nat × Nat → α} {i j : Nat}
theorem flG_len : (flG ds g).length = (ds.getD 0 []).length := by simp [flG]
theorem flG_row (h : j < (ds.getD 0 []).length) : (flG ds g).getD j [] = rowH ds g j := by
  rw [getD_of_lt _ (by rw [flG_len]; exact h)]
  simp [flG]
theorem rowH_len : (rowH ds g j).length = ds.length := by simp [rowH]
theorem rowH_at (h : i < ds.length) (d : α) : (rowH ds g j).getD i d = g (i, j) := by
  rw [getD_of_lt _ (by rw [rowH_len]; exact h)]
  simp [rowH]
theorem flG_at (hj : j < (ds.getD 0 []).length) (hi : i < ds.length) (d : α) : ((flG ds g).getD j []).getD i d = g (i, j) := by rw [flG_row hj, rowH_at hi]
theorem flD_dcl (hj : j < (ds.getD 0 []).length) (hi : i < ds.length) : dcl (flG ds (cdI ds)) (j : Int) (i : Int) = dcl ds (i : Int) (j : Int) := by
  rw [dcl_nat, dcl_nat, flG_at hj hi]
  rfl
theorem flD_left (hj : j < (ds.getD 0 []).length) (hi : i < ds.length) : dcl (flG ds (cdI ds)) ((j : Int) - 1) (i : Int) = dcl ds (i : Int) ((j : Int) - 1) := by
  by_cases e : j = 0
  · subst e
    rw [show dcl (flG ds (cdI ds)) (((0 : Nat) : Int) - 1) (i : Int) = 0 from if_pos (.inl (by omega)), show dcl ds (i : Int) (((0 : Nat) : Int) - 1) = 0 from if_pos (.inr (by omega))]
  · obtain ⟨q, rfl⟩ : ∃ q, j = q + 1 := ⟨j - 1, by omega⟩
    rw [show (((q + 1 : Nat) : Int) - 1) = (q : Int) by omega]
    exact flD_dcl (by omega) hi
theorem flD_low (hj : j < (ds.getD 0 []).length) (hi : i < ds.length) : dcl (flG ds (cdI ds)) (j : Int) ((i : Int) - 1) = dcl ds ((i : Int) - 1) (j : Int) := by
  by_cases e : i = 0
  · subst e
    rw [show dcl (flG ds (cdI ds)) (j : Int) (((0 : Nat) : Int) - 1) = 0 from if_pos (.inr (by omega)), show dcl ds (((0 : Nat) : Int) - 1) (j : Int) = 0 from if_pos (.inl (by omega))]
  · obtain ⟨q, rfl⟩ : ∃ q, i = q + 1 := ⟨i - 1, by omega⟩
    rw [show (((q + 1 : Nat) : Int) - 1) = (q : Int) by omega]
    exact flD_dcl hj (by omega)
theorem fl_cdim (hj : j < (ds.getD 0 []).length) (hi : i < ds.length) : cdim (flG ds (cdI ds)) (j, i) = cdim ds (i, j) := by
  show ((((flG ds (cdI ds)).getD j []).getD i 0)).toNat = ((ds.getD i []).getD j 0).toNat
  rw [flG_at hj hi]
  rfl
theorem fl_tbl {x : List (List (List (List Int)))} (hj : j < (ds.getD 0 []).length) (hi : i < ds.length) : tbl (flG ds (tbl x)) (j, i) = tbl x (i, j) := flG_at hj hi []
theorem fl_dcl (hok : DclOk ds) : DclOk (flG ds (cdI ds)) := by
  have h0 := hok.h0
  have h1 := hok.h1
  have l0 := hok.len0
  have l1 := hok.len1
  have hr0 : ((flG ds (cdI ds)).getD 0 []).length = ds.length := by rw [flG_row (by omega), rowH_len]
  refine ⟨by rw [flG_len]; exact h0, by rw [flG_len]; exact h1, by rw [hr0]; exact l0, by rw [hr0]; exact l1, fun r hr => ?_⟩
  obtain ⟨j, hj, rfl⟩ := List.getElem_of_mem hr
  have hj2 : j < (ds.getD 0 []).length := by rw [← flG_len (ds := ds) (g := cdI ds)]; exact hj
  have e : (flG ds (cdI ds))[j] = rowH ds (cdI ds) j := by rw [← getD_of_lt [] hj]; exact flG_row hj2
  rw [e, hr0]
  refine ⟨rowH_len, fun x hx => ?_⟩
  obtain ⟨i, hi, rfl⟩ := List.getElem_of_mem hx
  have hi2 : i < ds.length := by rw [← rowH_len (ds := ds) (g := cdI ds) (j := j)]; exact hi
  rw [← getD_of_lt 0 hi, rowH_at hi2]
  have hcol : (ds.getD i []).length = (ds.getD 0 []).length := cl_height hok hi2
  unfold cdI
  rw [getD_of_lt _ (show j < (ds.getD i []).length by omega)]
  refine (hok.col (ds.getD i []) ?_).2 _ (List.getElem_mem _)
  rw [getD_of_lt _ hi2]
  exact List.getElem_mem hi2
theorem fl_cell (hok : DclOk ds) {c : Nat × Nat} (h : c ∈ cellsTo (flG ds (cdI ds)) (flG ds (cdI ds)).length) : c.1 < (ds.getD 0 []).length ∧ c.2 < ds.length ∧ (c.2, c.1) ∈ cellsTo ds ds.length := by
  obtain ⟨h1, h2⟩ := mem_cells.1 h
  rw [flG_len] at h1
  rw [flG_row h1, rowH_len] at h2
  exact ⟨h1, h2, mem_cells.2 ⟨h2, by show c.1 < (ds.getD c.2 []).length; rw [show (ds.getD c.2 []).length = (ds.getD 0 []).length from cl_height hok h2]; exact h1⟩⟩
theorem fl_tbs (hok : DclOk ds) (ht : TbsOk p ds ac dn) : TbsOk p (flG ds (cdI ds)) (flG ds (tbl dn)) (flG ds (tbl ac)) := by
  refine ⟨by rw [flG_len, flG_len], by rw [flG_len, flG_len], fun j hj => ?_, fun j hj => ?_, fun c hc => ?_⟩
  · rw [flG_len] at hj
    rw [flG_row hj, flG_row hj, rowH_len, rowH_len]
  · rw [flG_len] at hj
    rw [flG_row hj, flG_row hj, rowH_len, rowH_len]
  · obtain ⟨j, i⟩ := c
    obtain ⟨h1, h2, h3⟩ := fl_cell hok hc
    have hd := ht.tab (i, j) h3
    unfold DTab at hd ⊢
    simp only at hd h1 h2 ⊢
    rw [flD_dcl h1 h2, flD_left h1 h2, flD_low h1 h2, flG_at h1 h2, flG_at h1 h2]
    exact ⟨hd.2, hd.1⟩
theorem fl_cnd (hok : DclOk ds) (h : CndOk p ds ac dn) : CndOk p (flG ds (cdI ds)) (flG ds (tbl dn)) (flG ds (tbl ac)) := by
  refine ⟨fun j i r t hc hr htt => ?_, fun j i r t hc hr htt => ?_, fun j i r t hc hr htt => ?_⟩
  · obtain ⟨h1, h2, h3⟩ := fl_cell hok hc
    simp only at h1 h2 h3
    rw [fl_cdim h1 h2] at hr
    rw [fl_cdim (by omega) h2] at htt
    rw [fl_tbl h1 h2, fl_tbl (by omega) h2, fl_cdim (by omega) h2]
    exact h.dd i j r t h3 hr htt
  · obtain ⟨h1, h2, h3⟩ := fl_cell hok hc
    simp only at h1 h2 h3
    rw [fl_cdim h1 h2] at hr
    rw [fl_cdim h1 (by omega)] at htt
    rw [fl_tbl h1 h2, fl_tbl h1 (by omega), fl_cdim h1 (by omega)]
    exact h.aa i j r t h3 hr htt
  · obtain ⟨h1, h2, h3⟩ := fl_cell hok hc
    simp only at h1 h2 h3
    rw [fl_cdim h1 h2] at hr
    rw [fl_cdim (by omega) (by omega)] at htt
    rw [fl_tbl h1 h2, fl_tbl (by omega) h2, fl_cdim (by omega) h2, fl_tbl h1 h2, fl_tbl h1 (by omega), fl_cdim h1 (by omega), Int.add_comm]
    exact h.ad i j r t h3 hr htt
theorem fl_db (h : IsDb p ds ac dn) : IsDb p (flG ds (cdI ds)) (flG ds (tbl dn)) (flG ds (tbl ac)) := ⟨h.prime, fl_dcl h.cel, fl_tbs h.cel h.tbs, fl_cnd h.cel h.cnd⟩
end
end Go.Proofs.Ytlopenephgabhaa


namespace Go.Proofs.Ytlopenephgabhaa
open Go.RowKit

/-- append of one value to a list. -/
theorem TR.append {L : Nat → Nat} {k base : Nat} {e t : TypeId} {W : World} {u y : Value} {n : Nat} {xs : List Value} (hinf : (Try.prog.info? e).map (fun i => (i.zero, i.size, i.bytes)) = some (some (.slice none 0 0), 1, 24)) (hund : Try.prog.underlying t = some (.slice e)) (h : TR L k base e W u n xs) (hy : y.oneCell' = true) (g : Nat) (hc : W.cell? ⟨g, 0, none⟩ = some y) (hl : n ≤ 1000) (hb : base ≤ W.heap.size) :
    ∃ g' cap W', (Builtin.append_ #[t, t] t #[u, .slice (some ⟨g, 0, none⟩) 1 1]).run Try.prog W = .ok (.slice (some ⟨g', 0, none⟩) (n + 1) cap) W' ∧ W.grownBy W' u.ownBlock ∧ g' < W'.heap.size ∧
      ∀ L' : Nat → Nat, (∀ b, b < W.heap.size → L' b = L b) → (∀ b, W.heap.size ≤ b → L' b = k) → TR L' k base e W' (.slice (some ⟨g', 0, none⟩) (n + 1) cap) (n + 1) (xs ++ [y]) := by
  obtain ⟨i, hi, hz, hs, hbt⟩ := info_parts hinf
  obtain ⟨g', cap, W', hr, h2, h3, h4, h5⟩ := run_append_lies (P := Try.prog) (w := W) t t base e i _ 1 24 hund hi hz hs hbt (by rfl) (by decide) u n xs h.1 ⟨g, 0, none⟩ 1 1 [y] rfl
    (fun q v hq => by
      match q, hq with
      | 0, hq =>
        simp at hq
        subst hq
        exact hc) (fun v hv => by
      simp at hv
      subst hv
      exact hy) (by omega) (by unfold maxLen; omega) (by omega) hb W.heap.size rfl
  refine ⟨g', cap, W', hr, h3, h5, fun L' hL hN => ⟨by simpa using h2, fun q hq => ?_⟩⟩
  have e : g' = q := by simpa [Value.ownBlock] using hq
  subst e
  rcases h4 with h4 | h4
  · rw [hL _ (h.1.lt _ h4).2]
    exact h.2 _ h4
  · exact hN _ (by omega)
theorem TTab.of_gq {L : Nat → Nat} {s base : Nat} {W W' : World} {u : Value} {t : List (List Int)} (h : Gq W.heap.size W' u t) (hb : base ≤ W.heap.size) (hL : ∀ b, W.heap.size ≤ b → L b = s) : TTab L s base W' u t := by
  obtain ⟨vs, hq⟩ := h
  exact ⟨vs, ⟨owns_mono hq.own hb, fun i a b => owns_mono (hq.rows i a b) hb, hq.ap⟩, fun g hg => hL g (hq.own.lt g hg).1, fun i a g hg => hL g ((hq.rows i a (by have := hq.len; omega)).lt g hg).1⟩
/-- The double complex while its columns come in: its box at block g. -/
structure FlM (L : Nat → Nat) (base : Nat) (W : World) (g : Nat) (p : Int) (j1 j2 j3 : Nat) (vD vA vV : Value) (d2 : List (List Int)) (a2 v2 : List (List (List (List Int)))) : Prop where
  o1 : ∃ vs, TR L 1 base 35 W vD j1 vs ∧ d2.length = j1 ∧ ∀ q (h1 : q < vs.length) (h2 : q < d2.length), TI L (10 + q) base W vs[q] d2[q]
  o2 : ∃ vs, TR L 2 base 36 W vA j2 vs ∧ a2.length = j2 ∧ ∀ q (h1 : q < vs.length) (h2 : q < a2.length), TTabs L (20 + q) (fun _ => 40) base W vs[q] a2[q]
  o3 : ∃ vs, TR L 3 base 36 W vV j3 vs ∧ v2.length = j3 ∧ ∀ q (h1 : q < vs.length) (h2 : q < v2.length), TTabs L (30 + q) (fun _ => 40) base W vs[q] v2[q]
  box : W.heap[g]? = some (.cells #[.int .i64 p, vD, vA, vV] 28 (0, 0))
  zero : L g = 0
  lo : base ≤ g
section
variable {L L' : Nat → Nat} {base : Nat} {W W' : World} {g j1 j2 j3 k : Nat} {p : Int} {vD vA vV : Value} {d2 : List (List Int)} {a2 v2 : List (List (List (List Int)))}
theorem stp_keeps (st : Stp1 L L' k W W') (hk : k ≠ 0) {cs : Array Value} {t : TypeId} (hb : W.heap[g]? = some (.cells cs t (0, 0))) (hz : L g = 0) : W'.heap[g]? = some (.cells cs t (0, 0)) := by
  have hgl := (Array.getElem?_eq_some_iff.1 hb).1
  obtain ⟨row, hg, hr⟩ := st.ex
  refine (hg.block g hgl (fun e => ?_)).trans hb
  rcases hr g e.symm hgl with h1 | ⟨o, ho, hc⟩
  · omega
  · rw [hb] at ho; cases ho; cases hc
/-- A step beside it: of a tag that none of its lists has, and that is not 0. -/
theorem FlM.kept (h : FlM L base W g p j1 j2 j3 vD vA vV d2 a2 v2) (st : Stp1 L L' k W W') (hk : k ≠ 1 ∧ k ≠ 2 ∧ k ≠ 3 ∧ k ≠ 40 ∧ k ≠ 0 ∧ (∀ q, q < j1 → k ≠ 10 + q) ∧ (∀ q, q < j2 → k ≠ 20 + q) ∧ ∀ q, q < j3 → k ≠ 30 + q) : FlM L' base W' g p j1 j2 j3 vD vA vV d2 a2 v2 := by
  obtain ⟨s1, t1, l1, r1⟩ := h.o1
  obtain ⟨s2, t2, l2, r2⟩ := h.o2
  obtain ⟨s3, t3, l3, r3⟩ := h.o3
  have hgl := (Array.getElem?_eq_some_iff.1 h.box).1
  exact ⟨⟨s1, t1.kept st (by omega), l1, fun q h1 h2 => (r1 q h1 h2).kept st (fun e => hk.2.2.2.2.2.1 q (by omega) e.symm)⟩, ⟨s2, t2.kept st (by omega), l2, fun q h1 h2 => (r2 q h1 h2).kept st (fun e => hk.2.2.2.2.2.2.1 q (by omega) e.symm) (fun _ _ e => hk.2.2.2.1 e.symm)⟩,
    ⟨s3, t3.kept st (by omega), l3, fun q h1 h2 => (r3 q h1 h2).kept st (fun e => hk.2.2.2.2.2.2.2 q (by omega) e.symm) (fun _ _ e => hk.2.2.2.1 e.symm)⟩, stp_keeps st hk.2.2.2.2.1 h.box h.zero, (st.old g hgl).trans h.zero, h.lo⟩
theorem FlM.below (h : FlM L base W g p j1 j2 j3 vD vA vV d2 a2 v2) (hb : Below W.heap.size W W') (ho : ∀ b, b < W.heap.size → L' b = L b) (hj : j1 ≤ 9 ∧ j2 ≤ 9 ∧ j3 ≤ 9) : FlM L' base W' g p j1 j2 j3 vD vA vV d2 a2 v2 := h.kept (Stp1.of_below hb ho 50) ⟨by omega, by omega, by omega, by omega, by omega, fun q hq => by omega, fun q hq => by omega, fun q hq => by omega⟩
/-- One list of the three, as it lies when another step has been made. -/
theorem keptD (h : ∃ vs, TR L 1 base 35 W vD j1 vs ∧ d2.length = j1 ∧ ∀ q (h1 : q < vs.length) (h2 : q < d2.length), TI L (10 + q) base W vs[q] d2[q]) (st : Stp1 L L' k W W') (hk : k ≠ 1 ∧ (k < 10 ∨ 20 ≤ k)) (hj : j1 ≤ 9) :
    ∃ vs, TR L' 1 base 35 W' vD j1 vs ∧ d2.length = j1 ∧ ∀ q (h1 : q < vs.length) (h2 : q < d2.length), TI L' (10 + q) base W' vs[q] d2[q] := by
  obtain ⟨s1, t1, l1, r1⟩ := h
  exact ⟨s1, t1.kept st (by omega), l1, fun q h1 h2 => (r1 q h1 h2).kept st (by omega)⟩
theorem keptT {kk b0 j : Nat} {vX : Value} {x2 : List (List (List (List Int)))} (h : ∃ vs, TR L kk base 36 W vX j vs ∧ x2.length = j ∧ ∀ q (h1 : q < vs.length) (h2 : q < x2.length), TTabs L (b0 + q) (fun _ => 40) base W vs[q] x2[q]) (st : Stp1 L L' k W W') (hk : k ≠ kk ∧ k ≠ 40 ∧ (k < b0 ∨ b0 + 10 ≤ k)) (hj : j ≤ 9) :
    ∃ vs, TR L' kk base 36 W' vX j vs ∧ x2.length = j ∧ ∀ q (h1 : q < vs.length) (h2 : q < x2.length), TTabs L' (b0 + q) (fun _ => 40) base W' vs[q] x2[q] := by
  obtain ⟨s1, t1, l1, r1⟩ := h
  exact ⟨s1, t1.kept st (by omega), l1, fun q h1 h2 => (r1 q h1 h2).kept st (by omega) (fun _ _ => by show 40 ≠ k; omega)⟩
/-- What an append into one of the three lists, and the store of its new head, leave. -/
def Psh (L : Nat → Nat) (kk g i : Nat) (W W' : World) (L' : Nat → Nat) (v vn : Value) : Prop :=
  W.grownBy W' v.ownBlock ∧ Stp1 L L' kk W W' ∧ Stp1 L' L' 0 W' (W'.setCell ⟨g, i, none⟩ vn) ∧ W'.cell? ⟨g, i, none⟩ = some v ∧ W'.frozen? ⟨g, i, none⟩ = false
theorem FlM.pushD {r : Value} {y : List Int} (h : FlM L base W g p j1 j2 j3 vD vA vV d2 a2 v2) (hy : TI L (10 + j1) base W r y) (gc : Nat) (hc : W.cell? ⟨gc, 0, none⟩ = some r) (hj : j1 ≤ 5 ∧ j2 ≤ 9 ∧ j3 ≤ 9) :
    ∃ g' cap W' L', (Builtin.append_ #[22, 22] 22 #[vD, .slice (some ⟨gc, 0, none⟩) 1 1]).run Try.prog W = .ok (.slice (some ⟨g', 0, none⟩) (j1 + 1) cap) W' ∧ Psh L 1 g 1 W W' L' vD (.slice (some ⟨g', 0, none⟩) (j1 + 1) cap) ∧ (∀ q, vD.ownBlock = some q → base ≤ q) ∧
      FlM L' base (W'.setCell ⟨g, 1, none⟩ (.slice (some ⟨g', 0, none⟩) (j1 + 1) cap)) g p (j1 + 1) j2 j3 (.slice (some ⟨g', 0, none⟩) (j1 + 1) cap) vA vV (d2 ++ [y]) a2 v2 := by
  obtain ⟨s1, t1, l1, r1⟩ := h.o1
  have hgl := (Array.getElem?_eq_some_iff.1 h.box).1
  have hro : r.oneCell' = true := by obtain ⟨a, c, rfl⟩ := Sl.shape hy.1.l1; rfl
  obtain ⟨g', cap, W', hrun, hg, hlt, hL⟩ := t1.append Try.infoS Try.underlying22 hro gc hc (by omega) (by have := h.lo; omega)
  obtain ⟨L', hLd⟩ : ∃ M : Nat → Nat, M = fun b => if b < W.heap.size then L b else 1 := ⟨_, rfl⟩
  have hLo : ∀ b, b < W.heap.size → L' b = L b := fun b hb => by rw [hLd]; exact if_pos hb
  have hLn : ∀ b, W.heap.size ≤ b → L' b = 1 := fun b hb => by rw [hLd]; exact if_neg (by omega)
  have st : Stp1 L L' 1 W W' := ⟨⟨_, hg, fun q e _ => .inl (t1.2 q e)⟩, hLo⟩
  have hz : L' g = 0 := (hLo g hgl).trans h.zero
  have hbx := stp_keeps st (by omega) h.box h.zero
  have s2 : Stp1 L' L' 0 W' (W'.setCell ⟨g, 1, none⟩ (.slice (some ⟨g', 0, none⟩) (j1 + 1) cap)) := Stp1.of_set hz W' 1 _
  have hsl : s1.length = j1 := by have := t1.1.1; omega
  refine ⟨g', cap, W', L', hrun, ⟨hg, st, s2, by simp [World.cell?, hbx], by simp [World.frozen?, hbx]⟩, fun q hq => (t1.1.lt q hq).1, ⟨⟨s1 ++ [r], (hL L' hLo hLn).kept s2 (by omega), by simp [l1], fun q h1 h2 => ?_⟩, keptT (keptT h.o2 st (by omega) (by omega)) s2 (by omega) (by omega), keptT (keptT h.o3 st (by omega) (by omega)) s2 (by omega) (by omega), ?_, hz, h.lo⟩⟩
  · by_cases e : q < s1.length
    · rw [List.getElem_append_left e, List.getElem_append_left (by omega)]
      exact ((r1 q e (by omega)).kept st (by omega)).kept s2 (by omega)
    · have e2 : q = s1.length := by simp at h1; omega
      subst e2
      rw [List.getElem_append_right (Nat.le_refl _), List.getElem_append_right (by omega)]
      simp only [Nat.sub_self, hsl, l1, List.getElem_cons_zero]
      exact ((hy.kept st (by omega)).kept s2 (by omega))
  · exact block_setCell' hbx _
theorem pushT {kk b0 j i : Nat} {vX r : Value} {x2 : List (List (List (List Int)))} {y : List (List (List Int))} {cs : Array Value} (h : ∃ vs, TR L kk base 36 W vX j vs ∧ x2.length = j ∧ ∀ q (h1 : q < vs.length) (h2 : q < x2.length), TTabs L (b0 + q) (fun _ => 40) base W vs[q] x2[q])
    (hbx : W.heap[g]? = some (.cells cs 28 (0, 0))) (hz0 : L g = 0) (hlo : base ≤ g) (hci : W.cell? ⟨g, i, none⟩ = some vX) (hkk : kk = 2 ∨ kk = 3) (hb0 : b0 = 20 ∨ b0 = 30) (hy : TTabs L (b0 + j) (fun _ => 40) base W r y) (gc : Nat) (hc : W.cell? ⟨gc, 0, none⟩ = some r) (hj : j ≤ 5) :
    ∃ g' cap W' L', (Builtin.append_ #[23, 23] 23 #[vX, .slice (some ⟨gc, 0, none⟩) 1 1]).run Try.prog W = .ok (.slice (some ⟨g', 0, none⟩) (j + 1) cap) W' ∧ Psh L kk g i W W' L' vX (.slice (some ⟨g', 0, none⟩) (j + 1) cap) ∧ (∀ q, vX.ownBlock = some q → base ≤ q) ∧
      (∃ vs, TR L' kk base 36 (W'.setCell ⟨g, i, none⟩ (.slice (some ⟨g', 0, none⟩) (j + 1) cap)) (.slice (some ⟨g', 0, none⟩) (j + 1) cap) (j + 1) vs ∧ (x2 ++ [y]).length = j + 1 ∧ ∀ q (h1 : q < vs.length) (h2 : q < (x2 ++ [y]).length), TTabs L' (b0 + q) (fun _ => 40) base (W'.setCell ⟨g, i, none⟩ (.slice (some ⟨g', 0, none⟩) (j + 1) cap)) vs[q] (x2 ++ [y])[q]) ∧
      (W'.setCell ⟨g, i, none⟩ (.slice (some ⟨g', 0, none⟩) (j + 1) cap)).heap[g]? = some (.cells (cs.setIfInBounds i (.slice (some ⟨g', 0, none⟩) (j + 1) cap)) 28 (0, 0)) ∧ L' g = 0 := by
  obtain ⟨s1, t1, l1, r1⟩ := h
  have hgl := (Array.getElem?_eq_some_iff.1 hbx).1
  have hro : r.oneCell' = true := by obtain ⟨a, n, c, rfl, _⟩ := hy.cap; rfl
  obtain ⟨g', cap, W', hrun, hg, hlt, hL⟩ := t1.append Try.infoSSS Try.underlying23 hro gc hc (by omega) (by omega)
  obtain ⟨L', hLd⟩ : ∃ M : Nat → Nat, M = fun b => if b < W.heap.size then L b else kk := ⟨_, rfl⟩
  have hLo : ∀ b, b < W.heap.size → L' b = L b := fun b hb => by rw [hLd]; exact if_pos hb
  have hLn : ∀ b, W.heap.size ≤ b → L' b = kk := fun b hb => by rw [hLd]; exact if_neg (by omega)
  have st : Stp1 L L' kk W W' := ⟨⟨_, hg, fun q e _ => .inl (t1.2 q e)⟩, hLo⟩
  have hz : L' g = 0 := (hLo g hgl).trans hz0
  have hbx2 := stp_keeps st (by omega) hbx hz0
  have s2 : Stp1 L' L' 0 W' (W'.setCell ⟨g, i, none⟩ (.slice (some ⟨g', 0, none⟩) (j + 1) cap)) := Stp1.of_set hz W' i _
  have hsl : s1.length = j := by have := t1.1.1; omega
  have hci2 : W'.cell? ⟨g, i, none⟩ = some vX := by
    have e : W'.cell? ⟨g, i, none⟩ = W.cell? ⟨g, i, none⟩ := World.cell?_of_block (hbx2.trans hbx.symm)
    rw [e]
    exact hci
  refine ⟨g', cap, W', L', hrun, ⟨hg, st, s2, hci2, by simp [World.frozen?, hbx2]⟩, fun q hq => (t1.1.lt q hq).1, ⟨s1 ++ [r], (hL L' hLo hLn).kept s2 (by omega), by simp [l1], fun q h1 h2 => ?_⟩, block_setCell' hbx2 _, hz⟩
  by_cases e : q < s1.length
  · rw [List.getElem_append_left e, List.getElem_append_left (by omega)]
    exact ((r1 q e (by omega)).kept st (by omega) (fun _ _ => by show 40 ≠ kk; omega)).kept s2 (by omega) (fun _ _ => by show 40 ≠ 0; omega)
  · have e2 : q = s1.length := by simp at h1; omega
    subst e2
    rw [List.getElem_append_right (Nat.le_refl _), List.getElem_append_right (by omega)]
    simp only [Nat.sub_self, hsl, l1, List.getElem_cons_zero]
    exact ((hy.kept st (by omega) (fun _ _ => by show 40 ≠ kk; omega)).kept s2 (by omega) (fun _ _ => by show 40 ≠ 0; omega))
theorem FlM.pushA {r : Value} {y : List (List (List Int))} (h : FlM L base W g p j1 j2 j3 vD vA vV d2 a2 v2) (hy : TTabs L (20 + j2) (fun _ => 40) base W r y) (gc : Nat) (hc : W.cell? ⟨gc, 0, none⟩ = some r) (hj : j1 ≤ 9 ∧ j2 ≤ 5 ∧ j3 ≤ 9) :
    ∃ g' cap W' L', (Builtin.append_ #[23, 23] 23 #[vA, .slice (some ⟨gc, 0, none⟩) 1 1]).run Try.prog W = .ok (.slice (some ⟨g', 0, none⟩) (j2 + 1) cap) W' ∧ Psh L 2 g 2 W W' L' vA (.slice (some ⟨g', 0, none⟩) (j2 + 1) cap) ∧ (∀ q, vA.ownBlock = some q → base ≤ q) ∧
      FlM L' base (W'.setCell ⟨g, 2, none⟩ (.slice (some ⟨g', 0, none⟩) (j2 + 1) cap)) g p j1 (j2 + 1) j3 vD (.slice (some ⟨g', 0, none⟩) (j2 + 1) cap) vV d2 (a2 ++ [y]) v2 := by
  obtain ⟨g', cap, W', L', hrun, hP, hlo, hx, hbx, hz⟩ := pushT (i := 2) h.o2 h.box h.zero h.lo (by simp [World.cell?, h.box]) (.inl rfl) (.inl rfl) hy gc hc (by omega)
  exact ⟨g', cap, W', L', hrun, hP, hlo, ⟨keptD (keptD h.o1 hP.2.1 (by omega) (by omega)) hP.2.2.1 (by omega) (by omega), hx, keptT (keptT h.o3 hP.2.1 (by omega) (by omega)) hP.2.2.1 (by omega) (by omega), hbx, hz, h.lo⟩⟩
theorem FlM.pushV {r : Value} {y : List (List (List Int))} (h : FlM L base W g p j1 j2 j3 vD vA vV d2 a2 v2) (hy : TTabs L (30 + j3) (fun _ => 40) base W r y) (gc : Nat) (hc : W.cell? ⟨gc, 0, none⟩ = some r) (hj : j1 ≤ 9 ∧ j2 ≤ 9 ∧ j3 ≤ 5) :
    ∃ g' cap W' L', (Builtin.append_ #[23, 23] 23 #[vV, .slice (some ⟨gc, 0, none⟩) 1 1]).run Try.prog W = .ok (.slice (some ⟨g', 0, none⟩) (j3 + 1) cap) W' ∧ Psh L 3 g 3 W W' L' vV (.slice (some ⟨g', 0, none⟩) (j3 + 1) cap) ∧ (∀ q, vV.ownBlock = some q → base ≤ q) ∧
      FlM L' base (W'.setCell ⟨g, 3, none⟩ (.slice (some ⟨g', 0, none⟩) (j3 + 1) cap)) g p j1 j2 (j3 + 1) vD vA (.slice (some ⟨g', 0, none⟩) (j3 + 1) cap) d2 a2 (v2 ++ [y]) := by
  obtain ⟨g', cap, W', L', hrun, hP, hlo, hx, hbx, hz⟩ := pushT (i := 3) h.o3 h.box h.zero h.lo (by simp [World.cell?, h.box]) (.inr rfl) (.inr rfl) hy gc hc (by omega)
  exact ⟨g', cap, W', L', hrun, hP, hlo, ⟨keptD (keptD h.o1 hP.2.1 (by omega) (by omega)) hP.2.2.1 (by omega) (by omega), keptT (keptT h.o2 hP.2.1 (by omega) (by omega)) hP.2.2.1 (by omega) (by omega), hx, hbx, hz, h.lo⟩⟩
theorem TI.l1b {k : Nat} {u : Value} {xs : List Int} (h : TI L k base W u xs) : L1 base W u xs := sl_of_owns h.1 (Nat.le_refl _) rfl (fun q h1 h2 => by simp [IsI])
theorem TTab.l2b {k : Nat} {u : Value} {t : List (List Int)} (h : TTab L k base W u t) : L2 base W u t := by
  obtain ⟨vs, hq, _⟩ := h
  exact sl_of_owns hq.own (Nat.le_refl _) rfl (fun q h1 h2 => sl_of_owns (hq.rows q h2 h1) (Nat.le_refl _) rfl (fun q h1 h2 => by simp [IsI]))
theorem TTabs.l3b {k : Nat} {τ : Nat → Nat} {u : Value} {ts : List (List (List Int))} (h : TTabs L k τ base W u ts) : L3 base W u ts := by
  obtain ⟨vs, ho, hr⟩ := h
  exact sl_of_owns ho.1 (Nat.le_refl _) rfl (fun i h1 h2 => (hr i h2 h1).l2b)
/-- Its lists as a double complex is read. -/
theorem FlM.dx (h : FlM L base W g p j1 j2 j3 vD vA vV d2 a2 v2) : Dx base W vD vA vV d2 a2 v2 := by
  obtain ⟨s1, t1, l1, r1⟩ := h.o1
  obtain ⟨s2, t2, l2, r2⟩ := h.o2
  obtain ⟨s3, t3, l3, r3⟩ := h.o3
  exact ⟨sl_of_owns t1.1 (Nat.le_refl _) l1 (fun i a b => (r1 i b a).l1b), sl_of_owns t2.1 (Nat.le_refl _) l2 (fun i a b => (r2 i b a).l3b), sl_of_owns t3.1 (Nat.le_refl _) l3 (fun i a b => (r3 i b a).l3b)⟩
theorem Dx.lower {lo lo' : Nat} (hl : lo' ≤ lo) {w : World} {dv av vv : Value} {ds : List (List Int)} {ac dn : List (List (List (List Int)))} (h : Dx lo w dv av vv ds ac dn) : Dx lo' w dv av vv ds ac dn := ⟨h.dims.lower hl, h.across.lower hl, h.down.lower hl⟩
end
end Go.Proofs.Ytlopenephgabhaa


namespace Go.Proofs.Ytlopenephgabhaa
open Go.RowKit

theorem row_at {w : World} {u : Value} {t : List (List Int)} {r : Nat} (h : L2 0 w u t) (hr : r < t.length) : ∃ b o c ur, u = .slice (some ⟨b, o, none⟩) t.length c ∧ w.cell? ⟨b, o + r, none⟩ = some ur ∧ L1 0 w ur t[r] := by
  rcases h with ⟨hx, _⟩ | ⟨b, o, c, rfl, _, _, hcl⟩
  · exact absurd (hx ▸ hr) (Nat.not_lt_zero _)
  obtain ⟨u1, hu1, hr1⟩ := hcl r hr
  exact ⟨b, o, c, u1, rfl, hu1, hr1⟩

set_option maxRecDepth 100000 in
set_option maxHeartbeats 12800000 in
theorem l03Square_any (p : Int) (hp : IsP p) (dv av vv : Value) (ds : List (List Int)) (ac dn : List (List (List (List Int)))) (w : World) (h : Dx 0 w dv av vv ds ac dn) (hok : DclOk ds) (htb : TbsOk p ds ac dn) :
    Calls Try.prog 91 #[.agg #[.int .i64 p, dv, av, vv]] w (BB (∀ c ∈ cellsTo ds ds.length, SqCell p ds ac dn c) w) := by
  obtain ⟨PP, hPP⟩ : ∃ P : Prop, P = (∀ c ∈ cellsTo ds ds.length, SqCell p ds ac dn c) := ⟨_, rfl⟩
  rw [← hPP]
  have HPI : Hid (PP ↔ (∀ c ∈ cellsTo ds ds.length, SqCell p ds ac dn c)) := Lib.hid (by rw [hPP])
  clear hPP
  have HP := Lib.hid hp
  have HOK := Lib.hid hok
  have HTB := Lib.hid htb
  have HX := Lib.hid h
  have hm4 := hok.len1
  have hm1 := hok.len0
  have hq1 := hok.h0
  have hq4 := hok.h1
  rcases h.dims with ⟨hx, _⟩ | ⟨bb, o, cd, rfl, _, hpos, hcl⟩
  · subst hx; simp at hm1
  have HCL := Lib.hid hcl
  obtain ⟨u0, hu0, hr0⟩ := hcl 0 hpos
  rw [Nat.add_zero] at hu0
  obtain ⟨a0, z0, rfl⟩ := Sl.shape hr0
  rw [← getD_of_lt [] hpos] at hu0
  clear hcl hr0 h hp hok htb
  obtain ⟨aa, ca', rfl⟩ := Sl.shape HX.out.across
  obtain ⟨ae, ce', rfl⟩ := Sl.shape HX.out.down
  obtain ⟨m, hm⟩ : ∃ m, m = ds.length := ⟨_, rfl⟩
  obtain ⟨q, hq⟩ : ∃ q, q = (ds.getD 0 []).length := ⟨_, rfl⟩
  obtain ⟨n1, hn1⟩ : ∃ n, n = ac.length := ⟨_, rfl⟩
  obtain ⟨n4, hn4⟩ : ∃ n, n = dn.length := ⟨_, rfl⟩
  have hn1m : m ≤ n1 := by rw [hn1, hm]; exact Nat.le_of_eq HTB.out.la.symm
  have hn4m : m ≤ n4 := by rw [hn4, hm]; exact Nat.le_of_eq HTB.out.ld.symm
  rw [← hm, ← hn1, ← hn4] at HX ⊢
  rw [← hm] at hm4 hm1 hpos
  rw [← hq] at hq1 hq4 hu0
  have HN1 := Lib.hid hn1
  have HN4 := Lib.hid hn4
  have HM := Lib.hid hm
  have HQ := Lib.hid hq
  clear hn1 hn4 hm hq
  have hx0 := DBx.start (p := p) 28 HX.out
  have hBa : Below w.heap.size w (w.alloc (.cells #[.int .i64 p, .slice (some ⟨bb, o, none⟩) m cd, .slice aa n1 ca', .slice ae n4 ce'] 28)) := (Below.refl _ _).alloc (Nat.le_refl _) _
  have hu1 := later hBa (Nat.le_refl _) hu0
  clear hBa hu0
  obtain ⟨w1, hw1⟩ : ∃ w1, w1 = w.alloc (.cells #[.int .i64 p, .slice (some ⟨bb, o, none⟩) m cd, .slice aa n1 ca', .slice ae n4 ce'] 28) := ⟨_, rfl⟩
  rw [← hw1] at hx0 hu1
  have HX1 := Lib.hid hx0
  have HU1 := Lib.hid hu1
  have HNX : Hid (∀ W, Below w1.heap.size w1 W → DBx w W w.heap.size p (.slice (some ⟨bb, o, none⟩) m cd) (.slice aa n1 ca') (.slice ae n4 ce') ds ac dn ∧ W.cell? ⟨bb, o, none⟩ = some (.slice a0 q z0)) := Lib.hid (fun W hb => ⟨HX1.out.next hb, later hb (Nat.le_refl _) HU1.out⟩)
  have HSTEP : Hid (∀ W, Below w1.heap.size w1 W → ∀ (b : Bool) (i j : Int) (va : Value) (v : List Int), L1 0 W va v → v.length ≤ 40 → -1 ≤ i ∧ i ≤ 4 → -1 ≤ j ∧ j ≤ 4 → StOk p ds ac dn i j v b → Calls Try.prog 116 #[.agg #[.int .i64 p, .slice (some ⟨bb, o, none⟩) m cd, .slice aa n1 ca', .slice ae n4 ce'], .int .i64 i, .int .i64 j, va, .bool b] W fun e w' => ∃ u, e = .returned u ∧ L1 0 w' u (stp p ds ac dn i j v b) ∧ Below W.heap.size W w') := Lib.hid (fun W hb b i j va v hv hl hi hj hs => l03Step_any b p i j _ _ _ va ds ac dn v W (HNX.out W hb).1.dx HOK.out HTB.out hv hl hi hj hs)
  have c0 := hx0.c0
  have c1 := hx0.c1
  clear hx0 hu1
  go_enter Try.func91, Try.ntmps91
  go_wp2
  rw [← hw1]
  clear hw1 c0 c1
  go_loopw [4, 5, 6, 7, 8, 9, 10] (fun i _ _ _ _ _ _ wr => ∃ a : Nat, a ≤ m ∧ i = .int .i64 a ∧ Hid (Below w1.heap.size w1 wr) ∧ Hid (∀ c ∈ cellsTo ds ds.length, c.1 < a → SqCell p ds ac dn c)) (fun i _ _ _ _ _ _ _ => m - (intOf i).toNat)
  case atStart => exact ⟨0, Nat.zero_le _, rfl, Lib.hid (Below.refl _ _), Lib.hid (fun _ _ h => absurd h (Nat.not_lt_zero _))⟩
  case round =>
    obtain ⟨a, ha, rfl, HBwx, HA⟩ := hrel
    obtain ⟨wx, hwx⟩ : ∃ wx : World, wx = wr := ⟨_, rfl⟩
    subst hwx
    have hnx := HNX.out wx HBwx.out
    have c0 := hnx.1.c0
    have c1 := hnx.1.c1
    have c2 := hnx.1.c2
    have c3 := hnx.1.c3
    have hu0 := hnx.2
    clear hnx
    by_cases hlt : a < m
    · have hlti : (a : Int) < (m : Int) := by omega
      go_wp2
      clear c0 c1 c2 c3 hu0
      go_loopw [5, 6, 7, 8, 9, 10] (fun j _ _ _ _ _ wr => ∃ b : Nat, b ≤ q ∧ j = .int .i64 b ∧ Hid (Below w1.heap.size w1 wr) ∧ Hid (∀ b', b' < b → SqCell p ds ac dn (a, b'))) (fun j _ _ _ _ _ _ => q - (intOf j).toNat)
      case atStart => exact ⟨0, Nat.zero_le _, rfl, HBwx, Lib.hid (fun _ h => absurd h (Nat.not_lt_zero _))⟩
      case round =>
        clear HBwx
        obtain ⟨b, hb, rfl, HBwy, HBC⟩ := hrel
        obtain ⟨wy, hwy⟩ : ∃ wy : World, wy = wr := ⟨_, rfl⟩
        subst hwy
        have hnx := HNX.out wy HBwy.out
        have c0 := hnx.1.c0
        have c1 := hnx.1.c1
        have c2 := hnx.1.c2
        have c3 := hnx.1.c3
        have hu0 := hnx.2
        clear hnx
        by_cases hltb : b < q
        · have hltj : (b : Int) < (q : Int) := by omega
          have hal : a < ds.length := by rw [← HM.out]; exact hlt
          have hc : (a, b) ∈ cellsTo ds ds.length := mem_cells.2 ⟨hal, by dsimp only; rw [getD_of_lt _ hal, (HOK.out.col _ (List.getElem_mem hal)).1, ← HQ.out]; exact hltb⟩
          have HC := Lib.hid hc
          obtain ⟨d, hd⟩ : ∃ d, d = cdim ds (a, b) := ⟨_, rfl⟩
          have hd4 : d ≤ 4 := by rw [hd]; exact (cdim_cast HOK.out hc).2
          have HD := Lib.hid hd
          have hdv : (d : Int) = (ds.getD a []).getD b 0 := by rw [hd, (cdim_cast HOK.out hc).1, dcl_nat]
          obtain ⟨ui, hui, hri⟩ := HCL.out a hal
          have hbl : b < (ds[a]).length := by rw [(HOK.out.col _ (List.getElem_mem hal)).1, ← HQ.out]; exact hltb
          rcases hri with ⟨hx, _⟩ | ⟨bi, oi, ci, rfl, hpa, hpb, hci⟩
          · rw [hx] at hbl; exact absurd hbl (Nat.not_lt_zero _)
          obtain ⟨ue, hue, hre⟩ := hci b hbl
          have hre' : ue = .int .i64 (d : Int) := by rw [hdv, getD_of_lt _ hal, getD_of_lt _ hbl]; exact hre
          subst hre'
          rw [(HOK.out.col _ (List.getElem_mem hal)).1, ← HQ.out] at hui
          have HUI : Hid (∀ W, Below w1.heap.size w1 W → W.cell? ⟨bb, o + a, none⟩ = some (.slice (some ⟨bi, oi, none⟩) q ci) ∧ W.cell? ⟨bi, oi + b, none⟩ = some (.int .i64 (d : Int))) := Lib.hid (fun W hb => ⟨later (HX1.out.below.trans (hb.mono HX1.out.below.size)) (Nat.le_refl _) hui, later (HX1.out.below.trans (hb.mono HX1.out.below.size)) (Nat.le_refl _) hue⟩)
          clear hui hue hci hre hdv hd hc hpa hpb hbl hal
          go_wp2
          clear c0 c1 c2 c3 hu0
          go_loopw [6, 7, 8, 9, 10] (fun k _ _ _ _ wr => ∃ r : Nat, r ≤ d ∧ k = .int .i64 r ∧ Hid (Below w1.heap.size w1 wr) ∧ Hid (∀ r', r' < r → SqRow p ds ac dn (a, b) r')) (fun k _ _ _ _ _ => d - (intOf k).toNat)
          case atStart => exact ⟨0, Nat.zero_le _, rfl, HBwy, Lib.hid (fun _ h => absurd h (Nat.not_lt_zero _))⟩
          case round =>
            clear HBwy
            obtain ⟨r, hr, rfl, HBwz, HRC⟩ := hrel
            obtain ⟨wz, hwz⟩ : ∃ wz : World, wz = wr := ⟨_, rfl⟩
            subst hwz
            have hnx := HNX.out wz HBwz.out
            have c0 := hnx.1.c0
            have c1 := hnx.1.c1
            have c2 := hnx.1.c2
            have c3 := hnx.1.c3
            have hu0 := hnx.2
            clear hnx
            have hui := (HUI.out wz HBwz.out).1
            have hue := (HUI.out wz HBwz.out).2
            by_cases hltr : r < d
            · have hltk : (r : Int) < (d : Int) := by omega
              have hrd : r < cdim ds (a, b) := by rw [← HD.out]; exact hltr
              obtain ⟨ra, rd, la, ld⟩ := row_len HOK.out HTB.out HC.out hrd
              have hcd := dco_dcl HOK.out HC.out
              have hb1 := dco_bd HOK.out (((a, b) : Nat × Nat).1 - 1 : Int) ((a, b) : Nat × Nat).2
              have hb2 := dco_bd HOK.out ((a, b) : Nat × Nat).1 (((a, b) : Nat × Nat).2 - 1 : Int)
              have hal40 : ((tbl ac (a, b)).getD r []).length ≤ 40 := by have := ra.1; omega
              have hdl40 : ((tbl dn (a, b)).getD r []).length ≤ 40 := by have := rd.1; omega
              have hia : a < ac.length := by rw [← HN1.out]; omega
              have hid : a < dn.length := by rw [← HN4.out]; omega
              have hja : b < (ac[a]).length := by have h1 := HTB.out.ca a (by rw [← HM.out]; exact hlt); rw [getD_of_lt _ hia] at h1; rw [h1]; exact (mem_cells.1 HC.out).2
              have hjd : b < (dn[a]).length := by have h1 := HTB.out.cd a (by rw [← HM.out]; exact hlt); rw [getD_of_lt _ hid] at h1; rw [h1]; exact (mem_cells.1 HC.out).2
              have hdxz := (HNX.out wz HBwz.out).1.dx
              obtain ⟨ba, oa, ca, b2, o2, k2, ut, hva, hA1, hA2, hTl⟩ := l4_at hdxz.across hia hja
              obtain ⟨be, oe, ce, b5, o5, k5, us, hvd, hE1, hE2, hSl⟩ := l4_at hdxz.down hid hjd
              have hTt : (ac[a])[b] = tbl ac (a, b) := by unfold tbl; dsimp only; rw [getD_of_lt _ hia, getD_of_lt _ hja]
              have hTs : (dn[a])[b] = tbl dn (a, b) := by unfold tbl; dsimp only; rw [getD_of_lt _ hid, getD_of_lt _ hjd]
              rw [hTt] at hTl
              rw [hTs] at hSl
              have hra : r < (tbl ac (a, b)).length := by rw [la]; exact hrd
              have hrd' : r < (tbl dn (a, b)).length := by rw [ld]; exact hrd
              obtain ⟨b3, o3, k3, ua, rfl, hA3, hUA⟩ := row_at hTl hra
              obtain ⟨b6, o6, k6, ud, rfl, hE3, hUD⟩ := row_at hSl hrd'
              have hga : (tbl ac (a, b)).getD r [] = (tbl ac (a, b))[r] := getD_of_lt _ hra
              have hgd : (tbl dn (a, b)).getD r [] = (tbl dn (a, b))[r] := getD_of_lt _ hrd'
              rw [← hga] at hUA
              rw [← hgd] at hUD
              injection hva with e1 e2 e3
              injection hvd with e4 e5 e6
              have e1' : aa = some ⟨ba, oa, none⟩ := e1
              have e4' : ae = some ⟨be, oe, none⟩ := e4
              clear e1 e2 e3 e4 e5 e6
              obtain ⟨n2, hn2⟩ : ∃ n, n = (ac[a]).length := ⟨_, rfl⟩
              obtain ⟨n5, hn5⟩ : ∃ n, n = (dn[a]).length := ⟨_, rfl⟩
              obtain ⟨n3, hn3⟩ : ∃ n, n = (tbl ac (a, b)).length := ⟨_, rfl⟩
              obtain ⟨n6, hn6⟩ : ∃ n, n = (tbl dn (a, b)).length := ⟨_, rfl⟩
              rw [← hn2] at hA1
              rw [← hn5] at hE1
              rw [← hn3] at hA2
              rw [← hn6] at hE2
              have hja2 : b < n2 := by rw [hn2]; exact hja
              have hjd2 : b < n5 := by rw [hn5]; exact hjd
              have hra2 : r < n3 := by rw [hn3]; exact hra
              have hrd2 : r < n6 := by rw [hn6]; exact hrd'
              have hi1 : a < n1 := by omega
              have hi4 : a < n4 := by omega
              obtain ⟨aa1, ka1, hua'⟩ := Sl.shape hUA
              obtain ⟨ad1, kd1, hud'⟩ := Sl.shape hUD
              obtain ⟨na, hna⟩ : ∃ n, n = ((tbl ac (a, b)).getD r []).length := ⟨_, rfl⟩
              obtain ⟨nd, hnd⟩ : ∃ n, n = ((tbl dn (a, b)).getD r []).length := ⟨_, rfl⟩
              rw [← hna] at hua'
              rw [← hnd] at hud'
              subst hua' hud'
              have HA1 := Lib.hid hA1
              have HA2 := Lib.hid hA2
              have HA3 := Lib.hid hA3
              have HE1 := Lib.hid hE1
              have HE2 := Lib.hid hE2
              have HE3 := Lib.hid hE3
              have HUA := Lib.hid hUA
              have HUD := Lib.hid hUD
              have HE1' := Lib.hid e1'
              have HE4' := Lib.hid e4'
              have HAL := Lib.hid hal40
              have HDL := Lib.hid hdl40
              have HRD := Lib.hid hrd
              have wi : IntKind.i64.wrap ((a : Int) - 1) = (a : Int) - 1 := IntWalk.i64_in _ (by omega)
              have wj : IntKind.i64.wrap ((b : Int) - 1) = (b : Int) - 1 := IntWalk.i64_in _ (by omega)
              have hbz := HBwz.out
              have hzz := hbz.size
              clear hA1 hA2 hA3 hE1 hE2 hE3 hUA hUD hga hgd hTt hTs hTl hSl hn2 hn3 hn5 hn6 hna hnd e1' e4' hal40 hdl40 hcd hb1 hb2 ra rd hra hrd' hja hjd hia hid la ld hdxz
              go_upto_region 11 with fail
              refine wp_region_held (S := fun W => Below wz.heap.size wz W) (by kernel_rfl) ?_
              have S0 : Below wz.heap.size wz wz.drew := (Below.refl _ _).drew
              change wpAnyH _ _ _ _ _ _ _ _ wz.drew
              obtain ⟨wd, hwd⟩ : ∃ wd, wd = wz.drew := ⟨_, rfl⟩
              rw [← hwd] at S0 ⊢
              clear hwd
              have HNZ : Hid (∀ W, Below wz.heap.size wz W → DBx w W w.heap.size p (.slice (some ⟨bb, o, none⟩) m cd) (.slice aa n1 ca') (.slice ae n4 ce') ds ac dn) := Lib.hid (fun W hb => (HNX.out W (HBwz.out.trans (hb.mono hzz))).1)
              refine held_take (i := 0) (v := .pointer (some ⟨w.heap.size, 2, none⟩)) (some 41) rfl rfl (by kernel_rfl) (by kernel_rfl) (by kernel_rfl) (fun _ _ _ h => h) (yieldsIf_run (by kernel_rfl) (fun W _ => by kernel_rfl)) S0 ?_
              refine held_take (i := 1) (v := .slice aa n1 ca') (some 42) rfl rfl (by kernel_rfl) (by kernel_rfl) (by kernel_rfl) (fun _ _ _ h => h) (yieldsIf_cell (by kernel_rfl) rfl (by kernel_rfl) (fun W h => hload4 W (HNZ.out W h).c2)) S0 ?_
              refine held_take (i := 2) (v := .int .i64 (a : Int)) (some 43) rfl rfl (by kernel_rfl) (by kernel_rfl) (by kernel_rfl) (fun _ _ _ h => h) (yieldsIf_move (by kernel_rfl) rfl (by kernel_rfl)) S0 ?_
              refine held_take (i := 3) (v := .pointer (some ⟨ba, oa + a, none⟩)) (some 44) rfl rfl (by kernel_rfl) (by kernel_rfl) (by kernel_rfl) (fun _ _ _ h => h) (yieldsIf_index (by kernel_rfl) rfl (by kernel_rfl) (by kernel_rfl) (hidx4 (cap := ca') HE1'.out hi1)) S0 ?_
              refine held_take (i := 4) (v := .slice (some ⟨b2, o2, none⟩) n2 k2) (some 45) rfl rfl (by kernel_rfl) (by kernel_rfl) (by kernel_rfl) (fun _ _ _ h => h) (yieldsIf_cell (by kernel_rfl) rfl (by kernel_rfl) (fun W h => hload3s W (later h (Nat.le_refl _) HA1.out))) S0 ?_
              refine held_take (i := 5) (v := .int .i64 (b : Int)) (some 46) rfl rfl (by kernel_rfl) (by kernel_rfl) (by kernel_rfl) (fun _ _ _ h => h) (yieldsIf_move (by kernel_rfl) rfl (by kernel_rfl)) S0 ?_
              refine held_take (i := 6) (v := .pointer (some ⟨b2, o2 + b, none⟩)) (some 47) rfl rfl (by kernel_rfl) (by kernel_rfl) (by kernel_rfl) (fun _ _ _ h => h) (yieldsIf_index (by kernel_rfl) rfl (by kernel_rfl) (by kernel_rfl) (hidx3 b2 o2 k2 hja2)) S0 ?_
              refine held_take (i := 7) (v := .slice (some ⟨b3, o3, none⟩) n3 k3) (some 48) rfl rfl (by kernel_rfl) (by kernel_rfl) (by kernel_rfl) (fun _ _ _ h => h) (yieldsIf_cell (by kernel_rfl) rfl (by kernel_rfl) (fun W h => hload2s W (later h (Nat.le_refl _) HA2.out))) S0 ?_
              refine held_take (i := 8) (v := .int .i64 (r : Int)) (some 49) rfl rfl (by kernel_rfl) (by kernel_rfl) (by kernel_rfl) (fun _ _ _ h => h) (yieldsIf_move (by kernel_rfl) rfl (by kernel_rfl)) S0 ?_
              refine held_take (i := 9) (v := .pointer (some ⟨b3, o3 + r, none⟩)) (some 50) rfl rfl (by kernel_rfl) (by kernel_rfl) (by kernel_rfl) (fun _ _ _ h => h) (yieldsIf_index (by kernel_rfl) rfl (by kernel_rfl) (by kernel_rfl) (hidxS b3 o3 k3 hra2)) S0 ?_
              refine held_take (i := 10) (v := .slice aa1 na ka1) (some 51) rfl rfl (by kernel_rfl) (by kernel_rfl) (by kernel_rfl) (fun _ _ _ h => h) (yieldsIf_cell (by kernel_rfl) rfl (by kernel_rfl) (fun W h => hloadD W (later h (Nat.le_refl _) HA3.out))) S0 ?_
              refine held_take (i := 11) (v := .pointer (some ⟨w.heap.size, 3, none⟩)) (some 52) rfl rfl (by kernel_rfl) (by kernel_rfl) (by kernel_rfl) (fun _ _ _ h => h) (yieldsIf_run (by kernel_rfl) (fun W _ => by kernel_rfl)) S0 ?_
              refine held_take (i := 12) (v := .slice ae n4 ce') (some 53) rfl rfl (by kernel_rfl) (by kernel_rfl) (by kernel_rfl) (fun _ _ _ h => h) (yieldsIf_cell (by kernel_rfl) rfl (by kernel_rfl) (fun W h => hload4 W (HNZ.out W h).c3)) S0 ?_
              refine held_take (i := 13) (v := .int .i64 (a : Int)) (some 54) rfl rfl (by kernel_rfl) (by kernel_rfl) (by kernel_rfl) (fun _ _ _ h => h) (yieldsIf_move (by kernel_rfl) rfl (by kernel_rfl)) S0 ?_
              refine held_take (i := 14) (v := .pointer (some ⟨be, oe + a, none⟩)) (some 55) rfl rfl (by kernel_rfl) (by kernel_rfl) (by kernel_rfl) (fun _ _ _ h => h) (yieldsIf_index (by kernel_rfl) rfl (by kernel_rfl) (by kernel_rfl) (hidx4 (cap := ce') HE4'.out hi4)) S0 ?_
              refine held_take (i := 15) (v := .slice (some ⟨b5, o5, none⟩) n5 k5) (some 56) rfl rfl (by kernel_rfl) (by kernel_rfl) (by kernel_rfl) (fun _ _ _ h => h) (yieldsIf_cell (by kernel_rfl) rfl (by kernel_rfl) (fun W h => hload3s W (later h (Nat.le_refl _) HE1.out))) S0 ?_
              refine held_take (i := 16) (v := .int .i64 (b : Int)) (some 57) rfl rfl (by kernel_rfl) (by kernel_rfl) (by kernel_rfl) (fun _ _ _ h => h) (yieldsIf_move (by kernel_rfl) rfl (by kernel_rfl)) S0 ?_
              refine held_take (i := 17) (v := .pointer (some ⟨b5, o5 + b, none⟩)) (some 58) rfl rfl (by kernel_rfl) (by kernel_rfl) (by kernel_rfl) (fun _ _ _ h => h) (yieldsIf_index (by kernel_rfl) rfl (by kernel_rfl) (by kernel_rfl) (hidx3 b5 o5 k5 hjd2)) S0 ?_
              refine held_take (i := 18) (v := .slice (some ⟨b6, o6, none⟩) n6 k6) (some 59) rfl rfl (by kernel_rfl) (by kernel_rfl) (by kernel_rfl) (fun _ _ _ h => h) (yieldsIf_cell (by kernel_rfl) rfl (by kernel_rfl) (fun W h => hload2s W (later h (Nat.le_refl _) HE2.out))) S0 ?_
              refine held_take (i := 19) (v := .int .i64 (r : Int)) (some 60) rfl rfl (by kernel_rfl) (by kernel_rfl) (by kernel_rfl) (fun _ _ _ h => h) (yieldsIf_move (by kernel_rfl) rfl (by kernel_rfl)) S0 ?_
              refine held_take (i := 20) (v := .pointer (some ⟨b6, o6 + r, none⟩)) (some 61) rfl rfl (by kernel_rfl) (by kernel_rfl) (by kernel_rfl) (fun _ _ _ h => h) (yieldsIf_index (by kernel_rfl) rfl (by kernel_rfl) (by kernel_rfl) (hidxS b6 o6 k6 hrd2)) S0 ?_
              refine held_take (i := 21) (v := .slice ad1 nd kd1) (some 62) rfl rfl (by kernel_rfl) (by kernel_rfl) (by kernel_rfl) (fun _ _ _ h => h) (yieldsIf_cell (by kernel_rfl) rfl (by kernel_rfl) (fun W h => hloadD W (later h (Nat.le_refl _) HE3.out))) S0 ?_
              refine held_take (i := 22) (v := .slice aa1 na ka1) (some 7) rfl rfl (by kernel_rfl) (by kernel_rfl) (by kernel_rfl) (fun _ _ _ h => h) (yieldsIf_assign (by kernel_rfl) rfl (by kernel_rfl)) S0 ?_
              refine held_take (i := 23) (v := .slice ad1 nd kd1) (some 8) rfl rfl (by kernel_rfl) (by kernel_rfl) (by kernel_rfl) (fun _ _ _ h => h) (yieldsIf_assign (by kernel_rfl) rfl (by kernel_rfl)) S0 ?_
              refine wpAnyH_done (by kernel_rfl) ?_ _
              simp only [Act.put, List.setIfInBounds_toArray, List.set_cons_zero, List.set_cons_succ]
              clear c0 c1 c2 c3 hu0 hui hue
              have HBD := Lib.hid S0
              have hsd := S0.size
              clear S0
              have HND : Hid (∀ W, Below wd.heap.size wd W → DBx w W w.heap.size p (.slice (some ⟨bb, o, none⟩) m cd) (.slice aa n1 ca') (.slice ae n4 ce') ds ac dn ∧ Below w1.heap.size w1 W) := Lib.hid (fun W hb => ⟨HNZ.out W (HBD.out.trans (hb.mono hsd)), (HBwz.out.trans ((HBD.out.trans (hb.mono hsd)).mono hzz))⟩)
              have HKA : Hid (∀ b', RowOk p (wid ds b' ((a : Int) - 1) b) (stp p ds ac dn ((a : Int) - 1) b ((tbl ac (a, b)).getD r []) b') ∧ wid ds b' ((a : Int) - 1) b ≤ 4 ∧ StOk p ds ac dn ((a : Int) - 1) b ((tbl ac (a, b)).getD r []) b') := Lib.hid (fun b' => ⟨stp_ok HP.out (st_left HP.out HOK.out HTB.out HC.out HRD.out b'), (wid_cast HOK.out b' _ _).2, st_left HP.out HOK.out HTB.out HC.out HRD.out b'⟩)
              have HKD : Hid (∀ b', RowOk p (wid ds b' a ((b : Int) - 1)) (stp p ds ac dn a ((b : Int) - 1) ((tbl dn (a, b)).getD r []) b') ∧ wid ds b' a ((b : Int) - 1) ≤ 4 ∧ StOk p ds ac dn a ((b : Int) - 1) ((tbl dn (a, b)).getD r []) b') := Lib.hid (fun b' => ⟨stp_ok HP.out (st_low HP.out HOK.out HTB.out HC.out HRD.out b'), (wid_cast HOK.out b' _ _).2, st_low HP.out HOK.out HTB.out HC.out HRD.out b'⟩)
              obtain ⟨zA, hzA⟩ : ∃ z, z = leadOf (stp p ds ac dn ((a : Int) - 1) b ((tbl ac (a, b)).getD r []) true) := ⟨_, rfl⟩
              have HLA : Hid (∀ W u, L1 0 W u (stp p ds ac dn ((a : Int) - 1) b ((tbl ac (a, b)).getD r []) true) → Calls Try.prog 108 #[u] W (QW (.int .i64 zA) W)) := Lib.hid (fun W u hu => by rw [hzA]; exact l01Lead_any u _ W hu (by have h1 := (HKA.out true).1.1; have h2 := (HKA.out true).2.1; omega))
              obtain ⟨zD, hzD⟩ : ∃ z, z = leadOf (stp p ds ac dn a ((b : Int) - 1) ((tbl dn (a, b)).getD r []) false) := ⟨_, rfl⟩
              have HLD : Hid (∀ W u, L1 0 W u (stp p ds ac dn a ((b : Int) - 1) ((tbl dn (a, b)).getD r []) false) → Calls Try.prog 108 #[u] W (QW (.int .i64 zD) W)) := Lib.hid (fun W u hu => by rw [hzD]; exact l01Lead_any u _ W hu (by have h1 := (HKD.out false).1.1; have h2 := (HKD.out false).2.1; omega))
              obtain ⟨zC, hzC⟩ : ∃ z, z = leadOf (toL (wid ds false ((a : Int) - 1) b) (Lin.add p (ofL (stp p ds ac dn ((a : Int) - 1) b ((tbl ac (a, b)).getD r []) false)) (-(-1)) (ofL (stp p ds ac dn a ((b : Int) - 1) ((tbl dn (a, b)).getD r []) true)))) := ⟨_, rfl⟩
              have HLC : Hid (∀ W u, L1 0 W u (toL (wid ds false ((a : Int) - 1) b) (Lin.add p (ofL (stp p ds ac dn ((a : Int) - 1) b ((tbl ac (a, b)).getD r []) false)) (-(-1)) (ofL (stp p ds ac dn a ((b : Int) - 1) ((tbl dn (a, b)).getD r []) true)))) → Calls Try.prog 108 #[u] W (QW (.int .i64 zC) W)) := Lib.hid (fun W u hu => by rw [hzC]; exact l01Lead_any u _ W hu (by have h2 := (HKA.out false).2.1; simp [toL]; omega))
              have HZA := Lib.hid hzA
              have HZD := Lib.hid hzD
              have HZC := Lib.hid hzC
              clear hzA hzD hzC
              have HSA : Hid (∀ W, Below wd.heap.size wd W → ∀ b', Calls Try.prog 116 #[.agg #[.int .i64 p, .slice (some ⟨bb, o, none⟩) m cd, .slice aa n1 ca', .slice ae n4 ce'], .int .i64 ((a : Int) - 1), .int .i64 (b : Int), .slice aa1 na ka1, .bool b'] W fun e w' => ∃ u, e = .returned u ∧ L1 0 w' u (stp p ds ac dn ((a : Int) - 1) b ((tbl ac (a, b)).getD r []) b') ∧ Below W.heap.size W w') := Lib.hid (fun W hb b' => HSTEP.out W (HND.out W hb).2 b' _ _ _ _ (HUA.out.below (HBD.out.trans (hb.mono hsd))) HAL.out (by omega) (by omega) (HKA.out b').2.2)
              have HSD : Hid (∀ W, Below wd.heap.size wd W → ∀ b', Calls Try.prog 116 #[.agg #[.int .i64 p, .slice (some ⟨bb, o, none⟩) m cd, .slice aa n1 ca', .slice ae n4 ce'], .int .i64 (a : Int), .int .i64 ((b : Int) - 1), .slice ad1 nd kd1, .bool b'] W fun e w' => ∃ u, e = .returned u ∧ L1 0 w' u (stp p ds ac dn a ((b : Int) - 1) ((tbl dn (a, b)).getD r []) b') ∧ Below W.heap.size W w') := Lib.hid (fun W hb b' => HSTEP.out W (HND.out W hb).2 b' _ _ _ _ (HUD.out.below (HBD.out.trans (hb.mono hsd))) HDL.out (by omega) (by omega) (HKD.out b').2.2)
              have hnd0 := (HND.out wd (Below.refl _ _)).1
              have c0 := hnd0.c0
              have c1 := hnd0.c1
              have c2 := hnd0.c2
              have c3 := hnd0.c3
              clear hnd0
              go_wp2_with fail
              refine (HSA.out wd (Below.refl _ _) true).mono ?_
              rintro e W3 ⟨u3, rfl, hl3, hb3⟩
              obtain ⟨a3, k3', hu3⟩ := Sl.shape hl3
              obtain ⟨n7, hn7⟩ : ∃ n, n = (stp p ds ac dn ((a : Int) - 1) b ((tbl ac (a, b)).getD r []) true).length := ⟨_, rfl⟩
              rw [← hn7] at hu3
              subst hu3
              have HB3 := Lib.hid hb3
              have HL3 := Lib.hid hl3
              clear hn7 hb3 hl3 c0 c1 c2 c3
              have hnd0 := (HND.out W3 HB3.out).1
              have c0 := hnd0.c0
              have c1 := hnd0.c1
              have c2 := hnd0.c2
              have c3 := hnd0.c3
              clear hnd0
              go_wp2_with fail
              refine (HLA.out W3 _ HL3.out).mono ?_
              rintro e w' ⟨rfl, rfl⟩
              by_cases hA0 : ∀ x ∈ (stp p ds ac dn ((a : Int) - 1) b ((tbl ac (a, b)).getD r []) true), x = 0
              · have hlt0 : zA = -1 := by rw [HZA.out]; exact leadOf_null hA0
                subst hlt0
                have HA0 := Lib.hid hA0
                clear hA0
                go_wp2_with fail
                refine (HSD.out W3 HB3.out false).mono ?_
                rintro e W4 ⟨u4, rfl, hl4, hb4⟩
                obtain ⟨a4, k4', hu4⟩ := Sl.shape hl4
                obtain ⟨n8, hn8⟩ : ∃ n, n = (stp p ds ac dn a ((b : Int) - 1) ((tbl dn (a, b)).getD r []) false).length := ⟨_, rfl⟩
                rw [← hn8] at hu4
                subst hu4
                have HB4 := Lib.hid (HB3.out.trans (hb4.mono HB3.out.size))
                have HL4 := Lib.hid hl4
                clear hn8 hb4 hl4 c0 c1 c2 c3
                have hnd0 := (HND.out W4 HB4.out).1
                have c0 := hnd0.c0
                have c1 := hnd0.c1
                have c2 := hnd0.c2
                have c3 := hnd0.c3
                clear hnd0
                go_wp2_with fail
                refine (HLD.out W4 _ HL4.out).mono ?_
                rintro e w' ⟨rfl, rfl⟩
                by_cases hD0 : ∀ x ∈ (stp p ds ac dn a ((b : Int) - 1) ((tbl dn (a, b)).getD r []) false), x = 0
                · have hlt0 : zD = -1 := by rw [HZD.out]; exact leadOf_null hD0
                  subst hlt0
                  have HD0 := Lib.hid hD0
                  clear hD0
                  go_upto_region 14 with fail
                  refine wp_region_held (S := fun W => Below W4.heap.size W4 W) (by kernel_rfl) ?_
                  have S0 : Below W4.heap.size W4 W4.drew := (Below.refl _ _).drew
                  change wpAnyH _ _ _ _ _ _ _ _ W4.drew
                  obtain ⟨we, hwe⟩ : ∃ we, we = W4.drew := ⟨_, rfl⟩
                  rw [← hwe] at S0 ⊢
                  clear hwe c0 c1 c2 c3
                  have hs4 := HB4.out.size
                  have HN4w : Hid (∀ W, Below W4.heap.size W4 W → Below wd.heap.size wd W) := Lib.hid (fun W hb => HB4.out.trans (hb.mono hs4))
                  refine held_take (i := 0) (v := .agg #[.int .i64 p, .slice (some ⟨bb, o, none⟩) m cd, .slice aa n1 ca', .slice ae n4 ce']) (some 81) rfl rfl (by kernel_rfl) (by kernel_rfl) (by kernel_rfl) (fun _ _ _ h => h) (yieldsIf_cell (by kernel_rfl) rfl (by kernel_rfl) (fun W h => hloadDb W (HND.out W (HN4w.out W h)).1)) S0 ?_
                  refine held_take (i := 1) (v := .int .i64 (a : Int)) (some 82) rfl rfl (by kernel_rfl) (by kernel_rfl) (by kernel_rfl) (fun _ _ _ h => h) (yieldsIf_move (by kernel_rfl) rfl (by kernel_rfl)) S0 ?_
                  refine held_take (i := 2) (v := .int .i64 ((a : Int) - 1)) (some 83) rfl rfl (by kernel_rfl) (by kernel_rfl) (by kernel_rfl) (fun _ _ _ h => h) (yieldsIf_bin (by kernel_rfl) rfl (by kernel_rfl) (by kernel_rfl) (fun _ => rfl) (hsubA wi)) S0 ?_
                  refine held_take (i := 3) (v := .int .i64 (b : Int)) (some 84) rfl rfl (by kernel_rfl) (by kernel_rfl) (by kernel_rfl) (fun _ _ _ h => h) (yieldsIf_move (by kernel_rfl) rfl (by kernel_rfl)) S0 ?_
                  refine held_take (i := 4) (v := .slice aa1 na ka1) (some 85) rfl rfl (by kernel_rfl) (by kernel_rfl) (by kernel_rfl) (fun _ _ _ h => h) (yieldsIf_move (by kernel_rfl) rfl (by kernel_rfl)) S0 ?_
                  refine held_take (i := 6) (v := .agg #[.int .i64 p, .slice (some ⟨bb, o, none⟩) m cd, .slice aa n1 ca', .slice ae n4 ce']) (some 87) rfl rfl (by kernel_rfl) (by kernel_rfl) (by kernel_rfl) (fun _ _ _ h => h) (yieldsIf_cell (by kernel_rfl) rfl (by kernel_rfl) (fun W h => hloadDb W (HND.out W (HN4w.out W h)).1)) S0 ?_
                  refine held_take (i := 7) (v := .int .i64 (a : Int)) (some 88) rfl rfl (by kernel_rfl) (by kernel_rfl) (by kernel_rfl) (fun _ _ _ h => h) (yieldsIf_move (by kernel_rfl) rfl (by kernel_rfl)) S0 ?_
                  refine held_take (i := 8) (v := .int .i64 (b : Int)) (some 89) rfl rfl (by kernel_rfl) (by kernel_rfl) (by kernel_rfl) (fun _ _ _ h => h) (yieldsIf_move (by kernel_rfl) rfl (by kernel_rfl)) S0 ?_
                  refine held_take (i := 9) (v := .int .i64 ((b : Int) - 1)) (some 90) rfl rfl (by kernel_rfl) (by kernel_rfl) (by kernel_rfl) (fun _ _ _ h => h) (yieldsIf_bin (by kernel_rfl) rfl (by kernel_rfl) (by kernel_rfl) (fun _ => rfl) (hsubA wj)) S0 ?_
                  refine held_take (i := 10) (v := .slice ad1 nd kd1) (some 91) rfl rfl (by kernel_rfl) (by kernel_rfl) (by kernel_rfl) (fun _ _ _ h => h) (yieldsIf_move (by kernel_rfl) rfl (by kernel_rfl)) S0 ?_
                  refine held_enter (i := 5) (some 86) (f := 116) (args := #[.agg #[.int .i64 p, .slice (some ⟨bb, o, none⟩) m cd, .slice aa n1 ca', .slice ae n4 ce'], .int .i64 ((a : Int) - 1), .int .i64 (b : Int), .slice aa1 na ka1, .bool false]) (by kernel_rfl) rfl rfl rfl (by kernel_rfl) (HSA.out _ (HN4w.out _ S0) false) ?_ (fun c w' h => by obtain ⟨_, h, _⟩ := h; cases h) (fun w' h => by obtain ⟨_, h, _⟩ := h; cases h)
                  rintro e5 W5 ⟨u5, he5, hl5, hb5⟩
                  injection he5 with he5
                  subst he5
                  have S1 : Below W4.heap.size W4 W5 := S0.trans (hb5.mono S0.size)
                  refine ⟨S1, ?_⟩
                  refine held_enter (i := 11) (some 92) (f := 116) (args := #[.agg #[.int .i64 p, .slice (some ⟨bb, o, none⟩) m cd, .slice aa n1 ca', .slice ae n4 ce'], .int .i64 (a : Int), .int .i64 ((b : Int) - 1), .slice ad1 nd kd1, .bool true]) (by kernel_rfl) rfl rfl rfl (by kernel_rfl) (HSD.out _ (HN4w.out _ S1) true) ?_ (fun c w' h => by obtain ⟨_, h, _⟩ := h; cases h) (fun w' h => by obtain ⟨_, h, _⟩ := h; cases h)
                  rintro e6 W6 ⟨u6, he6, hl6, hb6⟩
                  injection he6 with he6
                  subst he6
                  have S2 : Below W4.heap.size W4 W6 := S1.trans (hb6.mono S1.size)
                  refine ⟨S2, ?_⟩
                  obtain ⟨a5, k5', hu5⟩ := Sl.shape hl5
                  obtain ⟨n9, hn9⟩ : ∃ n, n = (stp p ds ac dn ((a : Int) - 1) b ((tbl ac (a, b)).getD r []) false).length := ⟨_, rfl⟩
                  rw [← hn9] at hu5
                  subst hu5
                  obtain ⟨a6, k6', hu6⟩ := Sl.shape hl6
                  obtain ⟨n10, hn10⟩ : ∃ n, n = (stp p ds ac dn a ((b : Int) - 1) ((tbl dn (a, b)).getD r []) true).length := ⟨_, rfl⟩
                  rw [← hn10] at hu6
                  subst hu6
                  refine held_take (i := 12) (v := .slice a5 n9 k5') (some 9) rfl rfl (by kernel_rfl) (by kernel_rfl) (by kernel_rfl) (fun _ _ _ h => h) (yieldsIf_assign (by kernel_rfl) rfl (by kernel_rfl)) S2 ?_
                  refine held_take (i := 13) (v := .slice a6 n10 k6') (some 10) rfl rfl (by kernel_rfl) (by kernel_rfl) (by kernel_rfl) (fun _ _ _ h => h) (yieldsIf_assign (by kernel_rfl) rfl (by kernel_rfl)) S2 ?_
                  refine wpAnyH_done (by kernel_rfl) ?_ _
                  simp only [Act.put, List.setIfInBounds_toArray, List.set_cons_zero, List.set_cons_succ]
                  have HB6 := Lib.hid (HN4w.out _ S2)
                  have hs5 : wd.heap.size ≤ W6.heap.size := HB6.out.size
                  have HLESS : Hid (Calls Try.prog 117 #[.int .i64 p, .slice a5 n9 k5', .slice a6 n10 k6', .int .i64 (-1)] W6 (GbR (toL (wid ds false ((a : Int) - 1) b) (Lin.add p (ofL (stp p ds ac dn ((a : Int) - 1) b ((tbl ac (a, b)).getD r []) false)) (-(-1)) (ofL (stp p ds ac dn a ((b : Int) - 1) ((tbl dn (a, b)).getD r []) true)))) W6)) := Lib.hid (by
                    have k1 := HKA.out false
                    have k2 := HKD.out true
                    have hwe : wid ds true a ((b : Int) - 1) = (wid ds false ((a : Int) - 1) b) := by unfold wid; simp
                    rw [hwe] at k2
                    refine l01Less1_any p (-1) _ _ _ _ _ W6 HP.out ?_ ?_ (ofL_md (by have := HP.out.lo; omega) k1.1) (ofL_md (by have := HP.out.lo; omega) k2.1) (by have := HP.out.lo; omega) (by have := k1.2.1; omega)
                    · rw [toL_ofL (by have := k1.1.1; omega)]; exact hl5.below hb6
                    · rw [toL_ofL (by have := k2.1.1; omega)]; exact hl6)
                  clear hl5 hl6 hb5 hb6 S0 S1 S2 hn9 hn10
                  have hnd0 := (HND.out W6 HB6.out).1
                  have c0 := hnd0.c0
                  clear hnd0
                  go_wp2_with fail
                  refine HLESS.out.mono ?_
                  rintro e W7 ⟨u7, rfl, hg7, hb7⟩
                  obtain ⟨a7, k7', hu7⟩ := Sl.shape hg7.l1
                  obtain ⟨n11, hn11⟩ : ∃ n, n = (toL (wid ds false ((a : Int) - 1) b) (Lin.add p (ofL (stp p ds ac dn ((a : Int) - 1) b ((tbl ac (a, b)).getD r []) false)) (-(-1)) (ofL (stp p ds ac dn a ((b : Int) - 1) ((tbl dn (a, b)).getD r []) true)))).length := ⟨_, rfl⟩
                  rw [← hn11] at hu7
                  subst hu7
                  have HL7 := Lib.hid hg7.l1
                  have HB7 := Lib.hid (HB6.out.trans (hb7.mono hs5))
                  clear hg7 hb7 hn11 c0 HLESS
                  go_wp2_with fail
                  refine (HLC.out W7 _ HL7.out).mono ?_
                  rintro e w' ⟨rfl, rfl⟩
                  by_cases hC0 : ∀ x ∈ (toL (wid ds false ((a : Int) - 1) b) (Lin.add p (ofL (stp p ds ac dn ((a : Int) - 1) b ((tbl ac (a, b)).getD r []) false)) (-(-1)) (ofL (stp p ds ac dn a ((b : Int) - 1) ((tbl dn (a, b)).getD r []) true)))), x = 0
                  · have hlt0 : zC = -1 := by rw [HZC.out]; exact leadOf_null hC0
                    subst hlt0
                    have HNEW : Hid (∀ r', r' < r + 1 → SqRow p ds ac dn (a, b) r') := Lib.hid (fun r' hr' => by
                      by_cases e : r' = r
                      · subst e; exact ⟨HA0.out, HD0.out, hC0⟩
                      · exact HRC.out r' (by omega))
                    clear hC0
                    have HBF := Lib.hid (HND.out W7 HB7.out).2
                    go_wp2
                    go_roundw
                    case rel => exact ⟨r + 1, by omega, by go_num, HBF, HNEW⟩
                    case measure => simp [intOf]; omega
                  · have hge : 0 ≤ zC := by rw [HZC.out]; exact leadOf_nn hC0
                    have HNO : Hid (¬ PP) := Lib.hid (fun h => hC0 (HPI.out.1 h _ HC.out r HRD.out).b)
                    clear hC0
                    go_wp2
                    go_ret
                    exact bb_false (HX1.out.below.trans (((HND.out W7 HB7.out).2).mono HX1.out.below.size)) HNO.out
                · have hge : 0 ≤ zD := by rw [HZD.out]; exact leadOf_nn hD0
                  have HNO : Hid (¬ PP) := Lib.hid (fun h => hD0 (HPI.out.1 h _ HC.out r HRD.out).d)
                  clear hD0
                  go_wp2
                  go_ret
                  exact bb_false (HX1.out.below.trans (((HND.out W4 HB4.out).2).mono HX1.out.below.size)) HNO.out
              · have hge : 0 ≤ zA := by rw [HZA.out]; exact leadOf_nn hA0
                have HNO : Hid (¬ PP) := Lib.hid (fun h => hA0 (HPI.out.1 h _ HC.out r HRD.out).a)
                clear hA0
                go_wp2
                go_ret
                exact bb_false (HX1.out.below.trans (((HND.out W3 HB3.out).2).mono HX1.out.below.size)) HNO.out
            · obtain rfl : r = d := by omega
              have HNEW : Hid (∀ b', b' < b + 1 → SqCell p ds ac dn (a, b')) := Lib.hid (fun b' hb' => by
                by_cases e : b' = b
                · subst e; intro r' hr'; exact HRC.out r' (by rw [HD.out]; exact hr')
                · exact HBC.out b' (by omega))
              go_wp2
              go_roundw
              case rel => exact ⟨b + 1, by omega, by go_num, HBwz, HNEW⟩
              case measure => simp [intOf]; omega
        · obtain rfl : b = q := by omega
          have HNEW : Hid (∀ c ∈ cellsTo ds ds.length, c.1 < a + 1 → SqCell p ds ac dn c) := Lib.hid (fun c hc hca => by
            by_cases e : c.1 = a
            · obtain ⟨c1', c2'⟩ := c
              dsimp only at e
              subst e
              refine HBC.out c2' ?_
              have h1 := mem_cells.1 hc
              dsimp only at h1
              rw [getD_of_lt _ h1.1, (HOK.out.col _ (List.getElem_mem h1.1)).1, ← HQ.out] at h1
              exact h1.2
            · exact HA.out c hc (by omega))
          go_wp2
          go_roundw
          case rel => exact ⟨a + 1, by omega, by go_num, HBwy, HNEW⟩
          case measure => simp [intOf]; omega
    · obtain rfl : a = m := by omega
      have HYES : Hid PP := Lib.hid (HPI.out.2 (fun c hc => HA.out c hc (by rw [HM.out]; exact (mem_cells.1 hc).1)))
      go_wp2
      go_ret
      exact bb_true (HX1.out.below.trans (HBwx.out.mono HX1.out.below.size)) HYES.out
end Go.Proofs.Ytlopenephgabhaa


namespace Go.Proofs.Ytlopenephgabhaa
open Go.RowKit

set_option maxRecDepth 100000 in
set_option maxHeartbeats 12800000 in
theorem l03Is_any (p : Int) (dv av vv : Value) (ds : List (List Int)) (ac dn : List (List (List (List Int)))) (w : World) (h : Dx 0 w dv av vv ds ac dn) (hbd : Bd2 1048576 ds) (hba : Bd4 1048576 ac) (hbv : Bd4 1048576 dn) :
    Calls Try.prog 42 #[.agg #[.int .i64 p, dv, av, vv]] w (BB (IsDb p ds ac dn) w) := by
  obtain ⟨PP, hPP⟩ : ∃ P : Prop, P = (IsDb p ds ac dn) := ⟨_, rfl⟩
  rw [← hPP]
  have HPI : Hid (PP ↔ (IsDb p ds ac dn)) := Lib.hid (by rw [hPP])
  clear hPP
  have HX := Lib.hid h
  have HBD := Lib.hid hbd
  have HBA := Lib.hid hba
  have HBV := Lib.hid hbv
  have hm8 := hbd.1
  have hn18 := hba.1
  have hn48 := hbv.1
  obtain ⟨ad, cd, rfl⟩ := Sl.shape h.dims
  obtain ⟨aa, ca', rfl⟩ := Sl.shape h.across
  obtain ⟨ae, ce', rfl⟩ := Sl.shape h.down
  clear h hbd hba hbv
  obtain ⟨m, hm⟩ : ∃ m, m = ds.length := ⟨_, rfl⟩
  obtain ⟨n1, hn1⟩ : ∃ n, n = ac.length := ⟨_, rfl⟩
  obtain ⟨n4, hn4⟩ : ∃ n, n = dn.length := ⟨_, rfl⟩
  rw [← hm, ← hn1, ← hn4] at HX ⊢
  rw [← hm] at hm8
  rw [← hn1] at hn18
  rw [← hn4] at hn48
  have HN1 := Lib.hid hn1
  have HN4 := Lib.hid hn4
  have HM := Lib.hid hm
  clear hn1 hn4 hm
  have hx0 := DBx.start (p := p) 28 HX.out
  obtain ⟨w1, hw1⟩ : ∃ w1, w1 = w.alloc (.cells #[.int .i64 p, .slice ad m cd, .slice aa n1 ca', .slice ae n4 ce'] 28) := ⟨_, rfl⟩
  rw [← hw1] at hx0
  have HX1 := Lib.hid hx0
  have c0 := hx0.c0
  have c1 := hx0.c1
  have c2 := hx0.c2
  have c3 := hx0.c3
  clear hx0
  by_cases hP : IsP p
  rotate_left
  · have HNO : Hid (¬ PP) := Lib.hid (fun h => hP (HPI.out.1 h).prime)
    go_enter Try.func42, Try.ntmps42
    go_wp2_with fail
    rw [← hw1]
    clear hw1
    refine (spprime_no hP _).mono ?_
    rintro e w' ⟨rfl, rfl⟩
    go_wp2
    go_ret
    exact bb_false HX1.out.below HNO.out
  have HP := Lib.hid hP
  by_cases h1 : (m : Int) < 1
  · have HNO : Hid (¬ PP) := Lib.hid (fun h => by have := (HPI.out.1 h).cel.len0; have := HM.out; omega)
    go_enter Try.func42, Try.ntmps42
    go_wp2_with fail
    rw [← hw1]
    clear hw1
    refine (spprime_yes hP _).mono ?_
    rintro e w' ⟨rfl, rfl⟩
    go_wp2
    go_ret
    exact bb_false HX1.out.below HNO.out
  by_cases h2 : 4 < (m : Int)
  · have HNO : Hid (¬ PP) := Lib.hid (fun h => by have := (HPI.out.1 h).cel.len1; have := HM.out; omega)
    go_enter Try.func42, Try.ntmps42
    go_wp2_with fail
    rw [← hw1]
    clear hw1
    refine (spprime_yes hP _).mono ?_
    rintro e w' ⟨rfl, rfl⟩
    go_wp2
    go_ret
    exact bb_false HX1.out.below HNO.out
  by_cases h3 : n1 = m
  rotate_left
  · have HNO : Hid (¬ PP) := Lib.hid (fun h => h3 (by rw [HN1.out, HM.out]; exact (HPI.out.1 h).tbs.la))
    have hq1 : ((n1 : Int) != (m : Int)) = true := by have hz : (n1 : Int) ≠ (m : Int) := (by omega); simp [hz]
    go_enter Try.func42, Try.ntmps42
    go_wp2_with fail
    rw [← hw1]
    clear hw1
    refine (spprime_yes hP _).mono ?_
    rintro e w' ⟨rfl, rfl⟩
    go_wp2
    go_ret
    exact bb_false HX1.out.below HNO.out
  by_cases h4 : n4 = m
  rotate_left
  · have HNO : Hid (¬ PP) := Lib.hid (fun h => h4 (by rw [HN4.out, HM.out]; exact (HPI.out.1 h).tbs.ld))
    subst h3
    have hq1 : ((n1 : Int) != (n1 : Int)) = false := by simp
    have hq2 : ((n4 : Int) != (n1 : Int)) = true := by have hz : (n4 : Int) ≠ (n1 : Int) := (by omega); simp [hz]
    go_enter Try.func42, Try.ntmps42
    go_wp2_with fail
    rw [← hw1]
    clear hw1
    refine (spprime_yes hP _).mono ?_
    rintro e w' ⟨rfl, rfl⟩
    go_wp2
    go_ret
    exact bb_false HX1.out.below HNO.out
  subst h3
  subst h4
  have hm1 : 1 ≤ n4 := by omega
  have hm4 : n4 ≤ 4 := by omega
  rcases HX.out.dims with ⟨hx, _⟩ | ⟨bb, o, cd', hv, _, hpos, hcl⟩
  · have h0 := HM.out; rw [hx] at h0; simp at h0; omega
  injection hv with e1 e2 e3
  subst e1 e3
  clear e2
  have HCL := Lib.hid hcl
  obtain ⟨u0, hu0, hr0⟩ := hcl 0 hpos
  rw [Nat.add_zero] at hu0
  obtain ⟨a0, z0, rfl⟩ := Sl.shape hr0
  rw [← getD_of_lt [] hpos] at hu0
  clear hr0
  obtain ⟨q, hq⟩ : ∃ q, q = (ds.getD 0 []).length := ⟨_, rfl⟩
  have hq8 : q ≤ 1048576 := by rw [hq, getD_of_lt _ hpos]; exact HBD.out.2 _ (List.getElem_mem hpos)
  rw [← hq] at hu0
  have HQ := Lib.hid hq
  clear hq hpos hcl
  have hu1 := later (B := w.heap.size) HX1.out.below (Nat.le_refl _) hu0
  clear hu0
  have HU1 := Lib.hid hu1
  have hq0 : ((n4 : Int) != (n4 : Int)) = false := by simp
  by_cases h5 : (q : Int) < 1
  · have HNO : Hid (¬ PP) := Lib.hid (fun h => by have := (HPI.out.1 h).cel.h0; have := HQ.out; omega)
    go_enter Try.func42, Try.ntmps42
    go_wp2_with fail
    rw [← hw1]
    clear hw1
    refine (spprime_yes hP _).mono ?_
    rintro e w' ⟨rfl, rfl⟩
    go_wp2
    go_ret
    exact bb_false HX1.out.below HNO.out
  by_cases h6 : 4 < (q : Int)
  · have HNO : Hid (¬ PP) := Lib.hid (fun h => by have := (HPI.out.1 h).cel.h1; have := HQ.out; omega)
    go_enter Try.func42, Try.ntmps42
    go_wp2_with fail
    rw [← hw1]
    clear hw1
    refine (spprime_yes hP _).mono ?_
    rintro e w' ⟨rfl, rfl⟩
    go_wp2
    go_ret
    exact bb_false HX1.out.below HNO.out
  go_enter Try.func42, Try.ntmps42
  go_wp2_with fail
  rw [← hw1]
  clear hw1
  refine (spprime_yes hP _).mono ?_
  rintro e w' ⟨rfl, rfl⟩
  go_wp2
  clear hq0 h1 h2
  go_loopw [5, 6] (fun i _ wr => ∃ a : Nat, a ≤ n4 ∧ i = .int .i64 a ∧ w1 = wr ∧ Hid (∀ a', a' < a → (ds.getD a' []).length = q ∧ (ac.getD a' []).length = q ∧ (dn.getD a' []).length = q ∧ AllIn 0 4 (ds.getD a' []))) (fun i _ _ => n4 - (intOf i).toNat)
  case atStart => exact ⟨0, Nat.zero_le _, rfl, rfl, Lib.hid (fun _ h => absurd h (Nat.not_lt_zero _))⟩
  case round =>
    obtain ⟨a, ha, rfl, rfl, HA⟩ := hrel
    by_cases hlt : a < n4
    · have hlti : (a : Int) < (n4 : Int) := by omega
      have hai : (0 : Int) ≤ (a : Int) := by omega
      have hal : a < ds.length := by rw [← HM.out]; exact hlt
      have haa : a < ac.length := by rw [← HN1.out]; exact hlt
      have had : a < dn.length := by rw [← HN4.out]; exact hlt
      obtain ⟨ui, hui, hri⟩ := HCL.out a hal
      rw [← getD_of_lt [] hal] at hri
      obtain ⟨xi, yi, rfl⟩ := Sl.shape hri
      rcases HX1.out.dx.across with ⟨hx, _⟩ | ⟨ba, oa, ca2, hva, _, hpa, hca⟩
      · exact absurd (hx ▸ haa) (Nat.not_lt_zero _)
      injection hva with e1 e2 e3
      subst e1 e3
      clear e2
      rcases HX1.out.dx.down with ⟨hx, _⟩ | ⟨be, oe, ce2, hvd, _, hpd, hcd⟩
      · exact absurd (hx ▸ had) (Nat.not_lt_zero _)
      injection hvd with e1 e2 e3
      subst e1 e3
      clear e2
      obtain ⟨uj, huj, hrj⟩ := hca a haa
      obtain ⟨xj, yj, rfl⟩ := Sl.shape hrj
      obtain ⟨uk, huk, hrk⟩ := hcd a had
      obtain ⟨xk, yk, rfl⟩ := Sl.shape hrk
      have hui1 := later (B := w.heap.size) HX1.out.below (Nat.le_refl _) hui
      clear hui hpa hpd hca hcd hrj hrk
      obtain ⟨l1, hl1⟩ : ∃ l, l = (ds.getD a []).length := ⟨_, rfl⟩
      obtain ⟨l2, hl2⟩ : ∃ l, l = (ac[a]).length := ⟨_, rfl⟩
      obtain ⟨l3, hl3⟩ : ∃ l, l = (dn[a]).length := ⟨_, rfl⟩
      rw [← hl1] at hui1
      rw [← hl2] at huj
      rw [← hl3] at huk
      have HL1 : Hid (l1 = (ds.getD a []).length) := Lib.hid hl1
      have HL2 : Hid (l2 = (ac.getD a []).length) := Lib.hid (by rw [getD_of_lt _ haa]; exact hl2)
      have HL3 : Hid (l3 = (dn.getD a []).length) := Lib.hid (by rw [getD_of_lt _ had]; exact hl3)
      have HRI := Lib.hid hri
      have hl18 : l1 ≤ 1048576 := by rw [hl1, getD_of_lt _ hal]; exact HBD.out.2 _ (List.getElem_mem hal)
      clear hl1 hl2 hl3 hri
      by_cases k1 : l1 = q
      rotate_left
      · have HNO : Hid (¬ PP) := Lib.hid (fun h => k1 (by rw [HL1.out, HQ.out, getD_of_lt _ hal]; exact ((HPI.out.1 h).cel.col _ (List.getElem_mem hal)).1))
        clear hal haa had
        have hq1 : ((l1 : Int) != (q : Int)) = true := by have hz : (l1 : Int) ≠ (q : Int) := (by omega); simp [hz]
        go_wp2
        go_ret
        exact bb_false HX1.out.below HNO.out
      by_cases k2 : l2 = q
      rotate_left
      · have HNO : Hid (¬ PP) := Lib.hid (fun h => k2 (by rw [HL2.out, (HPI.out.1 h).tbs.ca a hal, getD_of_lt _ hal, ((HPI.out.1 h).cel.col _ (List.getElem_mem hal)).1]; exact HQ.out.symm))
        clear hal haa had
        subst k1
        have hq1 : ((l1 : Int) != (l1 : Int)) = false := by simp
        have hq2 : ((l2 : Int) != (l1 : Int)) = true := by have hz : (l2 : Int) ≠ (l1 : Int) := (by omega); simp [hz]
        go_wp2
        go_ret
        exact bb_false HX1.out.below HNO.out
      by_cases k3 : l3 = q
      rotate_left
      · have HNO : Hid (¬ PP) := Lib.hid (fun h => k3 (by rw [HL3.out, (HPI.out.1 h).tbs.cd a hal, getD_of_lt _ hal, ((HPI.out.1 h).cel.col _ (List.getElem_mem hal)).1]; exact HQ.out.symm))
        clear hal haa had
        subst k1
        subst k2
        have hq1 : ((l2 : Int) != (l2 : Int)) = false := by simp
        have hq2 : ((l3 : Int) != (l2 : Int)) = true := by have hz : (l3 : Int) ≠ (l2 : Int) := (by omega); simp [hz]
        go_wp2
        go_ret
        exact bb_false HX1.out.below HNO.out
      subst k1
      subst k2
      subst k3
      have hq1 : ((l3 : Int) != (l3 : Int)) = false := by simp
      have HAL := Lib.hid hal
      clear hal haa had
      go_wp2
      clear hq1
      go_loopw [6] (fun j wr => ∃ b : Nat, b ≤ l3 ∧ j = .int .i64 b ∧ w1 = wr ∧ Hid (∀ b', b' < b → 0 ≤ (ds.getD a []).getD b' 0 ∧ (ds.getD a []).getD b' 0 ≤ 4)) (fun j _ => l3 - (intOf j).toNat)
      case atStart => exact ⟨0, Nat.zero_le _, rfl, rfl, Lib.hid (fun _ h => absurd h (Nat.not_lt_zero _))⟩
      case round =>
        obtain ⟨b, hb, rfl, rfl, HB⟩ := hrel
        by_cases hltb : b < l3
        · have hltj : (b : Int) < (l3 : Int) := by omega
          have hbi : (0 : Int) ≤ (b : Int) := by omega
          have hbl : b < (ds.getD a []).length := by rw [← HL1.out]; exact hltb
          rcases HRI.out with ⟨hx, _⟩ | ⟨bi, oi, ci, hvi, _, hpi, hci⟩
          · rw [hx] at hbl; exact absurd hbl (Nat.not_lt_zero _)
          injection hvi with e1 e2 e3
          subst e1 e3
          clear e2
          obtain ⟨ue, hue, hre⟩ := hci b hbl
          obtain ⟨d, hd⟩ : ∃ d, d = (ds.getD a []).getD b 0 := ⟨_, rfl⟩
          have hre' : ue = .int .i64 d := by rw [hd, getD_of_lt _ hbl]; exact hre
          subst hre'
          have hue1 := later (B := w.heap.size) HX1.out.below (Nat.le_refl _) hue
          have HBL := Lib.hid hbl
          have HDD := Lib.hid hd
          clear hue hci hpi hre hd hbl
          by_cases k4 : 0 ≤ d ∧ d ≤ 4
          rotate_left
          · have HNO : Hid (¬ PP) := Lib.hid (fun h => k4 (by have h1 := ((HPI.out.1 h).cel.col (ds.getD a []) (by rw [getD_of_lt _ HAL.out]; exact List.getElem_mem HAL.out)).2 _ (List.getElem_mem HBL.out); rw [HDD.out, getD_of_lt _ HBL.out]; exact h1))
            go_wp2_with fail
            refine (spin_no k4 _).mono ?_
            rintro e w' ⟨rfl, rfl⟩
            go_wp2
            go_ret
            exact bb_false HX1.out.below HNO.out
          have HK4 := Lib.hid k4
          go_wp2_with fail
          refine (spin_yes k4 _).mono ?_
          rintro e w' ⟨rfl, rfl⟩
          clear k4
          have HNEW : Hid (∀ b', b' < b + 1 → 0 ≤ (ds.getD a []).getD b' 0 ∧ (ds.getD a []).getD b' 0 ≤ 4) := Lib.hid (fun b' hb' => by
            by_cases e : b' = b
            · subst e; rw [← HDD.out]; exact HK4.out
            · exact HB.out b' (by omega))
          go_wp2
          go_roundw
          case rel => exact ⟨b + 1, by omega, by go_num, (by first | trivial | rfl), HNEW⟩
          case measure => simp [intOf]; omega
        · obtain rfl : b = l3 := by omega
          have HNEW : Hid (∀ a', a' < a + 1 → (ds.getD a' []).length = b ∧ (ac.getD a' []).length = b ∧ (dn.getD a' []).length = b ∧ AllIn 0 4 (ds.getD a' [])) := Lib.hid (fun a' ha' => by
            by_cases e : a' = a
            · subst e
              refine ⟨HL1.out.symm, HL2.out.symm, HL3.out.symm, fun x hx => ?_⟩
              obtain ⟨k, hk, rfl⟩ := List.getElem_of_mem hx
              have := HB.out k (by rw [HL1.out]; exact hk)
              rwa [getD_of_lt _ hk] at this
            · exact HA.out a' (by omega))
          go_wp2
          go_roundw
          case rel => exact ⟨a + 1, by omega, by go_num, (by first | trivial | rfl), HNEW⟩
          case measure => simp [intOf]; omega
    · obtain rfl : a = n4 := by omega
      have hcel : DclOk ds := by
        have h00 := HA.out 0 (by omega)
        refine ⟨by rw [← HM.out]; omega, by rw [← HM.out]; omega, by rw [h00.1]; omega, by rw [h00.1]; omega, fun r hr => ?_⟩
        obtain ⟨k, hk, rfl⟩ := List.getElem_of_mem hr
        have := HA.out k (by rw [HM.out]; exact hk)
        rw [getD_of_lt _ hk] at this
        exact ⟨by rw [this.1, h00.1], this.2.2.2⟩
      have HCEL := Lib.hid hcel
      clear hcel
      have HLL : Hid (∀ a', a' < a → (ds.getD a' []).length = q ∧ (ac.getD a' []).length = q ∧ (dn.getD a' []).length = q) := Lib.hid (fun a' h => ⟨(HA.out a' h).1, (HA.out a' h).2.1, (HA.out a' h).2.2.1⟩)
      have HDIM : Hid (∀ W, Below w1.heap.size w1 W → ∀ x y : Int, -1000 ≤ x ∧ x ≤ 1000 → -1000 ≤ y ∧ y ≤ 1000 → Calls Try.prog 90 #[.agg #[.int .i64 p, .slice (some ⟨bb, o, none⟩) a cd, .slice aa a ca', .slice ae a ce'], .int .i64 x, .int .i64 y] W fun r w' => r = .returned (.int .i64 (dco ds x y)) ∧ Below w1.heap.size w1 w') := Lib.hid (fun W hb x y hx hy => by
        have h0 := (HX1.out.next hb).dx.dims
        exact (l03Dim_any p x y _ _ _ ds W h0 HCEL.out hx hy).mono fun _ _ hh => ⟨hh.1, hb.trans (hh.2.mono hb.size)⟩)
      clear HA
      have hq4 : q ≤ 4 := by omega
      have hq1' : 1 ≤ q := by omega
      go_wp2
      go_loopw [7, 8] (fun i _ wr => ∃ x : Nat, x ≤ a ∧ i = .int .i64 x ∧ Hid (Below w1.heap.size w1 wr) ∧ Hid (∀ c ∈ cellsTo ds ds.length, c.1 < x → DTab p ds ac dn c)) (fun i _ _ => a - (intOf i).toNat)
      case atStart => exact ⟨0, Nat.zero_le _, rfl, Lib.hid (Below.refl _ _), Lib.hid (fun _ _ h => absurd h (Nat.not_lt_zero _))⟩
      case round =>
        obtain ⟨x, hx, rfl, HBwx, HTX⟩ := hrel
        obtain ⟨wx, hwx⟩ : ∃ wx : World, wx = wr := ⟨_, rfl⟩
        subst hwx
        by_cases hltx : x < a
        · have hltx' : (x : Int) < (a : Int) := by omega
          go_wp2
          go_loopw [8] (fun j wr => ∃ y : Nat, y ≤ q ∧ j = .int .i64 y ∧ Hid (Below w1.heap.size w1 wr) ∧ Hid (∀ y', y' < y → DTab p ds ac dn (x, y'))) (fun j _ => q - (intOf j).toNat)
          case atStart => exact ⟨0, Nat.zero_le _, rfl, HBwx, Lib.hid (fun _ h => absurd h (Nat.not_lt_zero _))⟩
          case round =>
            clear HBwx
            obtain ⟨y, hy, rfl, HBwy, HTY⟩ := hrel
            obtain ⟨wy, hwy⟩ : ∃ wy : World, wy = wr := ⟨_, rfl⟩
            subst hwy
            by_cases hlty : y < q
            · have hlty' : (y : Int) < (q : Int) := by omega
              have hal : x < ds.length := by rw [← HM.out]; exact hltx
              have hia : x < ac.length := by rw [← HN1.out]; exact hltx
              have hid : x < dn.length := by rw [← HN4.out]; exact hltx
              obtain ⟨hll1, hll2, hll3⟩ := HLL.out x hltx
              have hc : (x, y) ∈ cellsTo ds ds.length := mem_cells.2 ⟨hal, by dsimp only; rw [hll1]; exact hlty⟩
              have HC := Lib.hid hc
              rw [getD_of_lt _ hal] at hll1
              rw [getD_of_lt _ hia] at hll2
              rw [getD_of_lt _ hid] at hll3
              have hja : y < (ac[x]).length := by rw [hll2]; exact hlty
              have hjd : y < (dn[x]).length := by rw [hll3]; exact hlty
              have hdxy := (HX1.out.next HBwy.out).dx
              have hbz := HBwy.out
              have hzz := hbz.size
              obtain ⟨ba, oa, ca, b2, o2, k2, ut, hva, hA1, hA2, hTl⟩ := l4_at hdxy.across hia hja
              obtain ⟨be, oe, ce, b5, o5, k5, us, hvd, hE1, hE2, hSl⟩ := l4_at hdxy.down hid hjd
              have hT1b : Bd2 1048576 (ac[x])[y] := (HBA.out.2 _ (List.getElem_mem hia)).2 _ (List.getElem_mem hja)
              have hT2b : Bd2 1048576 (dn[x])[y] := (HBV.out.2 _ (List.getElem_mem hid)).2 _ (List.getElem_mem hjd)
              have hTt : (ac[x])[y] = (ac.getD x []).getD y [] := by rw [getD_of_lt _ hia, getD_of_lt _ hja]
              have hTs : (dn[x])[y] = (dn.getD x []).getD y [] := by rw [getD_of_lt _ hid, getD_of_lt _ hjd]
              rw [hTt] at hTl hT1b
              rw [hTs] at hSl hT2b
              rw [hll2] at hA1
              rw [hll3] at hE1
              injection hva with e1 e2 e3
              injection hvd with e4 e5 e6
              have HE1' : Hid (aa = some ⟨ba, oa, none⟩) := Lib.hid e1
              have HE4' : Hid (ae = some ⟨be, oe, none⟩) := Lib.hid e4
              clear e1 e2 e3 e4 e5 e6
              obtain ⟨ta, tc, hut⟩ := Sl.shape hTl
              obtain ⟨sa, sc, hus⟩ := Sl.shape hSl
              obtain ⟨TA, hTA⟩ : ∃ t, t = (ac.getD x []).getD y [] := ⟨_, rfl⟩
              obtain ⟨TD, hTD⟩ : ∃ t, t = (dn.getD x []).getD y [] := ⟨_, rfl⟩
              rw [← hTA] at hTl hT1b hut
              rw [← hTD] at hSl hT2b hus
              obtain ⟨nt, hnt⟩ : ∃ n, n = TA.length := ⟨_, rfl⟩
              obtain ⟨ns, hns⟩ : ∃ n, n = TD.length := ⟨_, rfl⟩
              rw [← hnt] at hut
              rw [← hns] at hus
              subst hut hus
              have HA1 := Lib.hid hA1
              have HA2 := Lib.hid hA2
              have HE1 := Lib.hid hE1
              have HE2 := Lib.hid hE2
              have HTL := Lib.hid hTl
              have HSL := Lib.hid hSl
              have HT1 := Lib.hid hT1b
              have HT2 := Lib.hid hT2b
              obtain ⟨d, hd⟩ : ∃ d, d = (ds.getD x []).getD y 0 := ⟨_, rfl⟩
              obtain ⟨ui, hui, hri⟩ := HCL.out x hal
              have hbl : y < (ds[x]).length := by rw [hll1]; exact hlty
              rcases hri with ⟨hx0, _⟩ | ⟨bi, oi, ci, rfl, _, hpi, hci⟩
              · rw [hx0] at hbl; exact absurd hbl (Nat.not_lt_zero _)
              obtain ⟨ue, hue, hre⟩ := hci y hbl
              have hre' : ue = .int .i64 d := by rw [hd, getD_of_lt _ hal, getD_of_lt _ hbl]; exact hre
              subst hre'
              rw [hll1] at hui
              have HUI : Hid (∀ W, Below wy.heap.size wy W → W.cell? ⟨bb, o + x, none⟩ = some (.slice (some ⟨bi, oi, none⟩) q ci) ∧ W.cell? ⟨bi, oi + y, none⟩ = some (.int .i64 d)) := Lib.hid (fun W hb => ⟨later (HX1.out.below.trans ((HBwy.out.trans (hb.mono hzz)).mono HX1.out.below.size)) (Nat.le_refl _) hui, later (HX1.out.below.trans ((HBwy.out.trans (hb.mono hzz)).mono HX1.out.below.size)) (Nat.le_refl _) hue⟩)
              have hcd := dco_dcl HCEL.out hc
              dsimp only at hcd
              have HDT : Hid (DTab p ds ac dn (x, y) ↔ TabOk p d (dco ds ((x : Int) - 1) y) TA ∧ TabOk p d (dco ds x ((y : Int) - 1)) TD) := Lib.hid (by
                show (TabOk p (dcl ds x y) (dcl ds ((x : Int) - 1) y) ((ac.getD x []).getD y []) ∧ TabOk p (dcl ds x y) (dcl ds x ((y : Int) - 1)) ((dn.getD x []).getD y [])) ↔ _
                rw [hcd.1, hcd.2, hTA, hTD, dcl_nat, hd])
              clear hA1 hA2 hE1 hE2 hTl hSl hT1b hT2b hTt hTs hTA hTD hnt hns hd hui hue hre hci hpi hcd hc hdxy hbl hja hjd hia hid hll1 hll2 hll3 hal
              obtain ⟨dl, hdl⟩ : ∃ z, z = dco ds ((x : Int) - 1) y := ⟨_, rfl⟩
              obtain ⟨db, hdb⟩ : ∃ z, z = dco ds x ((y : Int) - 1) := ⟨_, rfl⟩
              rw [← hdl, ← hdb] at HDT
              have HNZ : Hid (∀ W, Below wy.heap.size wy W → DBx w W w.heap.size p (.slice (some ⟨bb, o, none⟩) a cd) (.slice aa a ca') (.slice ae a ce') ds ac dn ∧ Below w1.heap.size w1 W) := Lib.hid (fun W hb => ⟨HX1.out.next (HBwy.out.trans (hb.mono hzz)), HBwy.out.trans (hb.mono hzz)⟩)
              have HDL : Hid (∀ W, Below wy.heap.size wy W → Calls Try.prog 90 #[.agg #[.int .i64 p, .slice (some ⟨bb, o, none⟩) a cd, .slice aa a ca', .slice ae a ce'], .int .i64 ((x : Int) - 1), .int .i64 (y : Int)] W fun r w' => r = .returned (.int .i64 dl) ∧ Below W.heap.size W w') := Lib.hid (fun W hb => by
                rw [hdl]
                exact l03Dim_any p _ _ _ _ _ ds W (HNZ.out W hb).1.dx.dims HCEL.out ⟨by omega, by omega⟩ ⟨by omega, by omega⟩)
              have HDB : Hid (∀ W, Below wy.heap.size wy W → Calls Try.prog 90 #[.agg #[.int .i64 p, .slice (some ⟨bb, o, none⟩) a cd, .slice aa a ca', .slice ae a ce'], .int .i64 (x : Int), .int .i64 ((y : Int) - 1)] W fun r w' => r = .returned (.int .i64 db) ∧ Below W.heap.size W w') := Lib.hid (fun W hb => by
                rw [hdb]
                exact l03Dim_any p _ _ _ _ _ ds W (HNZ.out W hb).1.dx.dims HCEL.out ⟨by omega, by omega⟩ ⟨by omega, by omega⟩)
              have HTA1 : Hid (∀ W, Below wy.heap.size wy W → Calls Try.prog 89 #[.int .i64 p, .slice ta nt tc, .int .i64 d, .int .i64 dl] W (BW (TabOk p d dl TA) W)) := Lib.hid (fun W hb => l01Table_any p _ _ _ _ W HP.out (HTL.out.below hb) HT1.out)
              have HTD1 : Hid (∀ W, Below wy.heap.size wy W → Calls Try.prog 89 #[.int .i64 p, .slice sa ns sc, .int .i64 d, .int .i64 db] W (BW (TabOk p d db TD) W)) := Lib.hid (fun W hb => l01Table_any p _ _ _ _ W HP.out (HSL.out.below hb) HT2.out)
              clear hdl hdb
              have wi : IntKind.i64.wrap ((x : Int) - 1) = (x : Int) - 1 := IntWalk.i64_in _ (by omega)
              have wj : IntKind.i64.wrap ((y : Int) - 1) = (y : Int) - 1 := IntWalk.i64_in _ (by omega)
              go_upto_region 23 with fail
              refine wp_region_held (S := fun W => Below wy.heap.size wy W) (by kernel_rfl) ?_
              have S0 : Below wy.heap.size wy wy.drew := (Below.refl _ _).drew
              change wpAnyH _ _ _ _ _ _ _ _ wy.drew
              obtain ⟨wd, hwd⟩ : ∃ wd, wd = wy.drew := ⟨_, rfl⟩
              rw [← hwd] at S0 ⊢
              clear hwd
              refine held_take (i := 0) (v := .pointer (some ⟨w.heap.size, 0, none⟩)) (some 107) rfl rfl (by kernel_rfl) (by kernel_rfl) (by kernel_rfl) (fun _ _ _ h => h) (yieldsIf_run0 (by kernel_rfl) (fun W _ => by kernel_rfl)) S0 ?_
              refine held_take (i := 1) (v := .int .i64 p) (some 108) rfl rfl (by kernel_rfl) (by kernel_rfl) (by kernel_rfl) (fun _ _ _ h => h) (yieldsIf_cell (by kernel_rfl) rfl (by kernel_rfl) (fun W h => hloadIn W (HNZ.out W h).1.c0)) S0 ?_
              refine held_take (i := 2) (v := .pointer (some ⟨w.heap.size, 2, none⟩)) (some 109) rfl rfl (by kernel_rfl) (by kernel_rfl) (by kernel_rfl) (fun _ _ _ h => h) (yieldsIf_run0 (by kernel_rfl) (fun W _ => by kernel_rfl)) S0 ?_
              refine held_take (i := 3) (v := .slice aa a ca') (some 110) rfl rfl (by kernel_rfl) (by kernel_rfl) (by kernel_rfl) (fun _ _ _ h => h) (yieldsIf_cell (by kernel_rfl) rfl (by kernel_rfl) (fun W h => hload4 W (HNZ.out W h).1.c2)) S0 ?_
              refine held_take (i := 4) (v := .int .i64 (x : Int)) (some 111) rfl rfl (by kernel_rfl) (by kernel_rfl) (by kernel_rfl) (fun _ _ _ h => h) (yieldsIf_move (by kernel_rfl) rfl (by kernel_rfl)) S0 ?_
              refine held_take (i := 5) (v := .pointer (some ⟨ba, oa + x, none⟩)) (some 112) rfl rfl (by kernel_rfl) (by kernel_rfl) (by kernel_rfl) (fun _ _ _ h => h) (yieldsIf_index (by kernel_rfl) rfl (by kernel_rfl) (by kernel_rfl) (hidx4 (cap := ca') HE1'.out hltx)) S0 ?_
              refine held_take (i := 6) (v := .slice (some ⟨b2, o2, none⟩) q k2) (some 113) rfl rfl (by kernel_rfl) (by kernel_rfl) (by kernel_rfl) (fun _ _ _ h => h) (yieldsIf_cell (by kernel_rfl) rfl (by kernel_rfl) (fun W h => hload3s W (later h (Nat.le_refl _) HA1.out))) S0 ?_
              refine held_take (i := 7) (v := .int .i64 (y : Int)) (some 114) rfl rfl (by kernel_rfl) (by kernel_rfl) (by kernel_rfl) (fun _ _ _ h => h) (yieldsIf_move (by kernel_rfl) rfl (by kernel_rfl)) S0 ?_
              refine held_take (i := 8) (v := .pointer (some ⟨b2, o2 + y, none⟩)) (some 115) rfl rfl (by kernel_rfl) (by kernel_rfl) (by kernel_rfl) (fun _ _ _ h => h) (yieldsIf_index (by kernel_rfl) rfl (by kernel_rfl) (by kernel_rfl) (hidx3 b2 o2 k2 hlty)) S0 ?_
              refine held_take (i := 9) (v := .slice ta nt tc) (some 116) rfl rfl (by kernel_rfl) (by kernel_rfl) (by kernel_rfl) (fun _ _ _ h => h) (yieldsIf_cell (by kernel_rfl) rfl (by kernel_rfl) (fun W h => hload2s W (later h (Nat.le_refl _) HA2.out))) S0 ?_
              refine held_take (i := 10) (v := .pointer (some ⟨w.heap.size, 1, none⟩)) (some 117) rfl rfl (by kernel_rfl) (by kernel_rfl) (by kernel_rfl) (fun _ _ _ h => h) (yieldsIf_run0 (by kernel_rfl) (fun W _ => by kernel_rfl)) S0 ?_
              refine held_take (i := 11) (v := .slice (some ⟨bb, o, none⟩) a cd) (some 118) rfl rfl (by kernel_rfl) (by kernel_rfl) (by kernel_rfl) (fun _ _ _ h => h) (yieldsIf_cell (by kernel_rfl) rfl (by kernel_rfl) (fun W h => hload2s W (HNZ.out W h).1.c1)) S0 ?_
              refine held_take (i := 12) (v := .int .i64 (x : Int)) (some 119) rfl rfl (by kernel_rfl) (by kernel_rfl) (by kernel_rfl) (fun _ _ _ h => h) (yieldsIf_move (by kernel_rfl) rfl (by kernel_rfl)) S0 ?_
              refine held_take (i := 13) (v := .pointer (some ⟨bb, o + x, none⟩)) (some 120) rfl rfl (by kernel_rfl) (by kernel_rfl) (by kernel_rfl) (fun _ _ _ h => h) (yieldsIf_index (by kernel_rfl) rfl (by kernel_rfl) (by kernel_rfl) (hidxS bb o cd hltx)) S0 ?_
              refine held_take (i := 14) (v := .slice (some ⟨bi, oi, none⟩) q ci) (some 121) rfl rfl (by kernel_rfl) (by kernel_rfl) (by kernel_rfl) (fun _ _ _ h => h) (yieldsIf_cell (by kernel_rfl) rfl (by kernel_rfl) (fun W h => hloadD W (HUI.out W h).1)) S0 ?_
              refine held_take (i := 15) (v := .int .i64 (y : Int)) (some 122) rfl rfl (by kernel_rfl) (by kernel_rfl) (by kernel_rfl) (fun _ _ _ h => h) (yieldsIf_move (by kernel_rfl) rfl (by kernel_rfl)) S0 ?_
              refine held_take (i := 16) (v := .pointer (some ⟨bi, oi + y, none⟩)) (some 123) rfl rfl (by kernel_rfl) (by kernel_rfl) (by kernel_rfl) (fun _ _ _ h => h) (yieldsIf_index (by kernel_rfl) rfl (by kernel_rfl) (by kernel_rfl) (hidxI bi oi ci hlty)) S0 ?_
              refine held_take (i := 17) (v := .int .i64 d) (some 124) rfl rfl (by kernel_rfl) (by kernel_rfl) (by kernel_rfl) (fun _ _ _ h => h) (yieldsIf_cell (by kernel_rfl) rfl (by kernel_rfl) (fun W h => hloadIn W (HUI.out W h).2)) S0 ?_
              refine held_take (i := 18) (v := .agg #[.int .i64 p, .slice (some ⟨bb, o, none⟩) a cd, .slice aa a ca', .slice ae a ce']) (some 125) rfl rfl (by kernel_rfl) (by kernel_rfl) (by kernel_rfl) (fun _ _ _ h => h) (yieldsIf_cell (by kernel_rfl) rfl (by kernel_rfl) (fun W h => hloadDb W (HNZ.out W h).1)) S0 ?_
              refine held_take (i := 19) (v := .int .i64 (x : Int)) (some 126) rfl rfl (by kernel_rfl) (by kernel_rfl) (by kernel_rfl) (fun _ _ _ h => h) (yieldsIf_move (by kernel_rfl) rfl (by kernel_rfl)) S0 ?_
              refine held_take (i := 20) (v := .int .i64 ((x : Int) - 1)) (some 127) rfl rfl (by kernel_rfl) (by kernel_rfl) (by kernel_rfl) (fun _ _ _ h => h) (yieldsIf_bin (by kernel_rfl) rfl (by kernel_rfl) (by kernel_rfl) (fun _ => rfl) (hsubA wi)) S0 ?_
              refine held_take (i := 21) (v := .int .i64 (y : Int)) (some 128) rfl rfl (by kernel_rfl) (by kernel_rfl) (by kernel_rfl) (fun _ _ _ h => h) (yieldsIf_move (by kernel_rfl) rfl (by kernel_rfl)) S0 ?_
              refine held_enter (i := 22) (some 129) (f := 90) (args := #[.agg #[.int .i64 p, .slice (some ⟨bb, o, none⟩) a cd, .slice aa a ca', .slice ae a ce'], .int .i64 ((x : Int) - 1), .int .i64 (y : Int)]) (by kernel_rfl) rfl rfl rfl (by kernel_rfl) (HDL.out _ S0) ?_ (fun c w' h => by cases h.1) (fun w' h => by cases h.1)
              rintro e3 W3 ⟨he3, hb3⟩
              injection he3 with he3
              subst he3
              have S1 : Below wy.heap.size wy W3 := S0.trans (hb3.mono S0.size)
              refine ⟨S1, ?_⟩
              refine held_enter (i := 23) (some 130) (f := 89) (args := #[.int .i64 p, .slice ta nt tc, .int .i64 d, .int .i64 dl]) (by kernel_rfl) rfl rfl rfl (by kernel_rfl) (HTA1.out _ S1) ?_ (fun c w' h => by obtain ⟨_, h, _⟩ := h; cases h) (fun w' h => by obtain ⟨_, h, _⟩ := h; cases h)
              rintro e4 W4 ⟨t1, he4, hw4, ht1⟩
              injection he4 with he4
              subst he4
              subst hw4
              refine ⟨S1, ?_⟩
              have HT1B := Lib.hid ht1
              clear ht1
              cases t1
              · refine held_take (i := 24) (v := .bool true) (some 131) rfl rfl (by kernel_rfl) (by kernel_rfl) (by kernel_rfl) (fun _ _ _ h => h) (yieldsIf_run0 (by kernel_rfl) (fun W _ => by kernel_rfl)) S1 ?_
                refine held_take (i := 25) (v := .bool true) (some 132) rfl rfl (by kernel_rfl) (by kernel_rfl) (by kernel_rfl) (fun _ _ _ h => h) (yieldsIf_move (by kernel_rfl) rfl (by kernel_rfl)) S1 ?_
                refine held_skip0 (i := 26) (some 133) rfl rfl (by kernel_rfl) (by kernel_rfl) (by kernel_rfl) (fun _ _ _ h => h) (by kernel_rfl) S1 ?_
                refine held_skip0 (i := 27) (some 134) rfl rfl (by kernel_rfl) (by kernel_rfl) (by kernel_rfl) (fun _ _ _ h => h) (by kernel_rfl) S1 ?_
                refine held_skip0 (i := 28) (some 135) rfl rfl (by kernel_rfl) (by kernel_rfl) (by kernel_rfl) (fun _ _ _ h => h) (by kernel_rfl) S1 ?_
                refine held_skip0 (i := 29) (some 136) rfl rfl (by kernel_rfl) (by kernel_rfl) (by kernel_rfl) (fun _ _ _ h => h) (by kernel_rfl) S1 ?_
                refine held_skip0 (i := 30) (some 137) rfl rfl (by kernel_rfl) (by kernel_rfl) (by kernel_rfl) (fun _ _ _ h => h) (by kernel_rfl) S1 ?_
                refine held_skip0 (i := 31) (some 138) rfl rfl (by kernel_rfl) (by kernel_rfl) (by kernel_rfl) (fun _ _ _ h => h) (by kernel_rfl) S1 ?_
                refine held_skip0 (i := 32) (some 139) rfl rfl (by kernel_rfl) (by kernel_rfl) (by kernel_rfl) (fun _ _ _ h => h) (by kernel_rfl) S1 ?_
                refine held_skip0 (i := 33) (some 140) rfl rfl (by kernel_rfl) (by kernel_rfl) (by kernel_rfl) (fun _ _ _ h => h) (by kernel_rfl) S1 ?_
                refine held_skip0 (i := 34) (some 141) rfl rfl (by kernel_rfl) (by kernel_rfl) (by kernel_rfl) (fun _ _ _ h => h) (by kernel_rfl) S1 ?_
                refine held_skip0 (i := 35) (some 142) rfl rfl (by kernel_rfl) (by kernel_rfl) (by kernel_rfl) (fun _ _ _ h => h) (by kernel_rfl) S1 ?_
                refine held_skip0 (i := 36) (some 143) rfl rfl (by kernel_rfl) (by kernel_rfl) (by kernel_rfl) (fun _ _ _ h => h) (by kernel_rfl) S1 ?_
                refine held_skip0 (i := 37) (some 144) rfl rfl (by kernel_rfl) (by kernel_rfl) (by kernel_rfl) (fun _ _ _ h => h) (by kernel_rfl) S1 ?_
                refine held_skip0 (i := 38) (some 145) rfl rfl (by kernel_rfl) (by kernel_rfl) (by kernel_rfl) (fun _ _ _ h => h) (by kernel_rfl) S1 ?_
                refine held_skip0 (i := 39) (some 146) rfl rfl (by kernel_rfl) (by kernel_rfl) (by kernel_rfl) (fun _ _ _ h => h) (by kernel_rfl) S1 ?_
                refine held_skip0 (i := 40) (some 147) rfl rfl (by kernel_rfl) (by kernel_rfl) (by kernel_rfl) (fun _ _ _ h => h) (by kernel_rfl) S1 ?_
                refine held_skip0 (i := 41) (some 148) rfl rfl (by kernel_rfl) (by kernel_rfl) (by kernel_rfl) (fun _ _ _ h => h) (by kernel_rfl) S1 ?_
                refine held_skip0 (i := 42) (some 149) rfl rfl (by kernel_rfl) (by kernel_rfl) (by kernel_rfl) (fun _ _ _ h => h) (by kernel_rfl) S1 ?_
                refine held_skip0 (i := 43) (some 150) rfl rfl (by kernel_rfl) (by kernel_rfl) (by kernel_rfl) (fun _ _ _ h => h) (by kernel_rfl) S1 ?_
                refine held_skip0 (i := 44) (some 151) rfl rfl (by kernel_rfl) (by kernel_rfl) (by kernel_rfl) (fun _ _ _ h => h) (by kernel_rfl) S1 ?_
                refine held_skip0 (i := 45) (some 152) rfl rfl (by kernel_rfl) (by kernel_rfl) (by kernel_rfl) (fun _ _ _ h => h) (by kernel_rfl) S1 ?_
                refine held_skip0 (i := 46) (some 153) rfl rfl (by kernel_rfl) (by kernel_rfl) (by kernel_rfl) (fun _ _ _ h => h) (by kernel_rfl) S1 ?_
                refine held_skip0 (i := 47) (some 154) rfl rfl (by kernel_rfl) (by kernel_rfl) (by kernel_rfl) (fun _ _ _ h => h) (by kernel_rfl) S1 ?_
                refine held_skip0 (i := 48) (some 155) rfl rfl (by kernel_rfl) (by kernel_rfl) (by kernel_rfl) (fun _ _ _ h => h) (by kernel_rfl) S1 ?_
                refine held_skip0 (i := 49) (some 156) rfl rfl (by kernel_rfl) (by kernel_rfl) (by kernel_rfl) (fun _ _ _ h => h) (by kernel_rfl) S1 ?_
                refine held_skip0 (i := 50) (some 157) rfl rfl (by kernel_rfl) (by kernel_rfl) (by kernel_rfl) (fun _ _ _ h => h) (by kernel_rfl) S1 ?_
                refine held_take (i := 51) (v := .bool true) (some 158) rfl rfl (by kernel_rfl) (by kernel_rfl) (by kernel_rfl) (fun _ _ _ h => h) (yieldsIf_run0 (by kernel_rfl) (fun W _ => by kernel_rfl)) S1 ?_
                refine wpAnyH_done (by kernel_rfl) ?_ _
                simp only [Act.put, List.setIfInBounds_toArray, List.set_cons_zero, List.set_cons_succ]
                have HS1 := Lib.hid (HNZ.out _ S1).2
                have HNO : Hid (¬ PP) := Lib.hid (fun h => by have h1 := HDT.out.1 ((HPI.out.1 h).tbs.tab _ HC.out); exact absurd (HT1B.out.2 h1.1) (by simp))
                clear S0 S1 hb3
                go_wp2
                go_ret
                exact bb_false (HX1.out.below.trans (HS1.out.mono HX1.out.below.size)) HNO.out
              · refine held_take (i := 24) (v := .bool false) (some 131) rfl rfl (by kernel_rfl) (by kernel_rfl) (by kernel_rfl) (fun _ _ _ h => h) (yieldsIf_run0 (by kernel_rfl) (fun W _ => by kernel_rfl)) S1 ?_
                refine held_take (i := 25) (v := .bool false) (some 132) rfl rfl (by kernel_rfl) (by kernel_rfl) (by kernel_rfl) (fun _ _ _ h => h) (yieldsIf_move (by kernel_rfl) rfl (by kernel_rfl)) S1 ?_
                refine held_take (i := 26) (v := .pointer (some ⟨w.heap.size, 0, none⟩)) (some 133) rfl rfl (by kernel_rfl) (by kernel_rfl) (by kernel_rfl) (fun _ _ _ h => h) (yieldsIf_runG (by kernel_rfl) (fun W _ => by kernel_rfl)) S1 ?_
                refine held_take (i := 27) (v := .int .i64 p) (some 134) rfl rfl (by kernel_rfl) (by kernel_rfl) (by kernel_rfl) (fun _ _ _ h => h) (yieldsIf_cellG (by kernel_rfl) rfl (by kernel_rfl) (fun W h => hloadIn W (HNZ.out W h).1.c0)) S1 ?_
                refine held_take (i := 28) (v := .pointer (some ⟨w.heap.size, 3, none⟩)) (some 135) rfl rfl (by kernel_rfl) (by kernel_rfl) (by kernel_rfl) (fun _ _ _ h => h) (yieldsIf_runG (by kernel_rfl) (fun W _ => by kernel_rfl)) S1 ?_
                refine held_take (i := 29) (v := .slice ae a ce') (some 136) rfl rfl (by kernel_rfl) (by kernel_rfl) (by kernel_rfl) (fun _ _ _ h => h) (yieldsIf_cellG (by kernel_rfl) rfl (by kernel_rfl) (fun W h => hload4 W (HNZ.out W h).1.c3)) S1 ?_
                refine held_take (i := 30) (v := .int .i64 (x : Int)) (some 137) rfl rfl (by kernel_rfl) (by kernel_rfl) (by kernel_rfl) (fun _ _ _ h => h) (yieldsIf_runG (by kernel_rfl) (fun W _ => by kernel_rfl)) S1 ?_
                refine held_take (i := 31) (v := .pointer (some ⟨be, oe + x, none⟩)) (some 138) rfl rfl (by kernel_rfl) (by kernel_rfl) (by kernel_rfl) (fun _ _ _ h => h) (yieldsIf_indexD (by kernel_rfl) rfl (by kernel_rfl) (by kernel_rfl) (hidx4 (cap := ce') HE4'.out hltx)) S1 ?_
                refine held_take (i := 32) (v := .slice (some ⟨b5, o5, none⟩) q k5) (some 139) rfl rfl (by kernel_rfl) (by kernel_rfl) (by kernel_rfl) (fun _ _ _ h => h) (yieldsIf_cellG (by kernel_rfl) rfl (by kernel_rfl) (fun W h => hload3s W (later h (Nat.le_refl _) HE1.out))) S1 ?_
                refine held_take (i := 33) (v := .int .i64 (y : Int)) (some 140) rfl rfl (by kernel_rfl) (by kernel_rfl) (by kernel_rfl) (fun _ _ _ h => h) (yieldsIf_runG (by kernel_rfl) (fun W _ => by kernel_rfl)) S1 ?_
                refine held_take (i := 34) (v := .pointer (some ⟨b5, o5 + y, none⟩)) (some 141) rfl rfl (by kernel_rfl) (by kernel_rfl) (by kernel_rfl) (fun _ _ _ h => h) (yieldsIf_indexD (by kernel_rfl) rfl (by kernel_rfl) (by kernel_rfl) (hidx3 b5 o5 k5 hlty)) S1 ?_
                refine held_take (i := 35) (v := .slice sa ns sc) (some 142) rfl rfl (by kernel_rfl) (by kernel_rfl) (by kernel_rfl) (fun _ _ _ h => h) (yieldsIf_cellG (by kernel_rfl) rfl (by kernel_rfl) (fun W h => hload2s W (later h (Nat.le_refl _) HE2.out))) S1 ?_
                refine held_take (i := 36) (v := .pointer (some ⟨w.heap.size, 1, none⟩)) (some 143) rfl rfl (by kernel_rfl) (by kernel_rfl) (by kernel_rfl) (fun _ _ _ h => h) (yieldsIf_runG (by kernel_rfl) (fun W _ => by kernel_rfl)) S1 ?_
                refine held_take (i := 37) (v := .slice (some ⟨bb, o, none⟩) a cd) (some 144) rfl rfl (by kernel_rfl) (by kernel_rfl) (by kernel_rfl) (fun _ _ _ h => h) (yieldsIf_cellG (by kernel_rfl) rfl (by kernel_rfl) (fun W h => hload2s W (HNZ.out W h).1.c1)) S1 ?_
                refine held_take (i := 38) (v := .int .i64 (x : Int)) (some 145) rfl rfl (by kernel_rfl) (by kernel_rfl) (by kernel_rfl) (fun _ _ _ h => h) (yieldsIf_runG (by kernel_rfl) (fun W _ => by kernel_rfl)) S1 ?_
                refine held_take (i := 39) (v := .pointer (some ⟨bb, o + x, none⟩)) (some 146) rfl rfl (by kernel_rfl) (by kernel_rfl) (by kernel_rfl) (fun _ _ _ h => h) (yieldsIf_indexD (by kernel_rfl) rfl (by kernel_rfl) (by kernel_rfl) (hidxS bb o cd hltx)) S1 ?_
                refine held_take (i := 40) (v := .slice (some ⟨bi, oi, none⟩) q ci) (some 147) rfl rfl (by kernel_rfl) (by kernel_rfl) (by kernel_rfl) (fun _ _ _ h => h) (yieldsIf_cellG (by kernel_rfl) rfl (by kernel_rfl) (fun W h => hloadD W (HUI.out W h).1)) S1 ?_
                refine held_take (i := 41) (v := .int .i64 (y : Int)) (some 148) rfl rfl (by kernel_rfl) (by kernel_rfl) (by kernel_rfl) (fun _ _ _ h => h) (yieldsIf_runG (by kernel_rfl) (fun W _ => by kernel_rfl)) S1 ?_
                refine held_take (i := 42) (v := .pointer (some ⟨bi, oi + y, none⟩)) (some 149) rfl rfl (by kernel_rfl) (by kernel_rfl) (by kernel_rfl) (fun _ _ _ h => h) (yieldsIf_indexD (by kernel_rfl) rfl (by kernel_rfl) (by kernel_rfl) (hidxI bi oi ci hlty)) S1 ?_
                refine held_take (i := 43) (v := .int .i64 d) (some 150) rfl rfl (by kernel_rfl) (by kernel_rfl) (by kernel_rfl) (fun _ _ _ h => h) (yieldsIf_cellG (by kernel_rfl) rfl (by kernel_rfl) (fun W h => hloadIn W (HUI.out W h).2)) S1 ?_
                refine held_take (i := 44) (v := .agg #[.int .i64 p, .slice (some ⟨bb, o, none⟩) a cd, .slice aa a ca', .slice ae a ce']) (some 151) rfl rfl (by kernel_rfl) (by kernel_rfl) (by kernel_rfl) (fun _ _ _ h => h) (yieldsIf_cellG (by kernel_rfl) rfl (by kernel_rfl) (fun W h => hloadDb W (HNZ.out W h).1)) S1 ?_
                refine held_take (i := 45) (v := .int .i64 (x : Int)) (some 152) rfl rfl (by kernel_rfl) (by kernel_rfl) (by kernel_rfl) (fun _ _ _ h => h) (yieldsIf_runG (by kernel_rfl) (fun W _ => by kernel_rfl)) S1 ?_
                refine held_take (i := 46) (v := .int .i64 (y : Int)) (some 153) rfl rfl (by kernel_rfl) (by kernel_rfl) (by kernel_rfl) (fun _ _ _ h => h) (yieldsIf_runG (by kernel_rfl) (fun W _ => by kernel_rfl)) S1 ?_
                refine held_take (i := 47) (v := .int .i64 ((y : Int) - 1)) (some 154) rfl rfl (by kernel_rfl) (by kernel_rfl) (by kernel_rfl) (fun _ _ _ h => h) (yieldsIf_binG (by kernel_rfl) rfl (by kernel_rfl) (by kernel_rfl) (fun _ => by kernel_rfl) (hsubA wj)) S1 ?_
                refine held_enterG (i := 48) (some 155) (f := 90) (args := #[.agg #[.int .i64 p, .slice (some ⟨bb, o, none⟩) a cd, .slice aa a ca', .slice ae a ce'], .int .i64 (x : Int), .int .i64 ((y : Int) - 1)]) (by kernel_rfl) rfl (by kernel_rfl) rfl (by kernel_rfl) (HDB.out _ S1) ?_ (fun c w' h => by cases h.1) (fun w' h => by cases h.1)
                rintro e5 W5 ⟨he5, hb5⟩
                injection he5 with he5
                subst he5
                have S2 : Below wy.heap.size wy W5 := S1.trans (hb5.mono S1.size)
                refine ⟨S2, ?_⟩
                refine held_enterG (i := 49) (some 156) (f := 89) (args := #[.int .i64 p, .slice sa ns sc, .int .i64 d, .int .i64 db]) (by kernel_rfl) rfl (by kernel_rfl) rfl (by kernel_rfl) (HTD1.out _ S2) ?_ (fun c w' h => by obtain ⟨_, h, _⟩ := h; cases h) (fun w' h => by obtain ⟨_, h, _⟩ := h; cases h)
                rintro e6 W6 ⟨t2, he6, hw6, ht2⟩
                injection he6 with he6
                subst he6
                subst hw6
                refine ⟨S2, ?_⟩
                have HT2B := Lib.hid ht2
                clear ht2
                cases t2
                · refine held_take (i := 50) (v := .bool true) (some 157) rfl rfl (by kernel_rfl) (by kernel_rfl) (by kernel_rfl) (fun _ _ _ h => h) (yieldsIf_runG (by kernel_rfl) (fun W _ => by kernel_rfl)) S2 ?_
                  refine held_take (i := 51) (v := .bool true) (some 158) rfl rfl (by kernel_rfl) (by kernel_rfl) (by kernel_rfl) (fun _ _ _ h => h) (yieldsIf_run0 (by kernel_rfl) (fun W _ => by kernel_rfl)) S2 ?_
                  refine wpAnyH_done (by kernel_rfl) ?_ _
                  simp only [Act.put, List.setIfInBounds_toArray, List.set_cons_zero, List.set_cons_succ]
                  have HS1 := Lib.hid (HNZ.out _ S2).2
                  have HNO : Hid (¬ PP) := Lib.hid (fun h => by have h1 := HDT.out.1 ((HPI.out.1 h).tbs.tab _ HC.out); exact absurd (HT2B.out.2 h1.2) (by simp))
                  clear S0 S1 S2 hb3 hb5
                  go_wp2
                  go_ret
                  exact bb_false (HX1.out.below.trans (HS1.out.mono HX1.out.below.size)) HNO.out
                · refine held_take (i := 50) (v := .bool false) (some 157) rfl rfl (by kernel_rfl) (by kernel_rfl) (by kernel_rfl) (fun _ _ _ h => h) (yieldsIf_runG (by kernel_rfl) (fun W _ => by kernel_rfl)) S2 ?_
                  refine held_take (i := 51) (v := .bool false) (some 158) rfl rfl (by kernel_rfl) (by kernel_rfl) (by kernel_rfl) (fun _ _ _ h => h) (yieldsIf_run0 (by kernel_rfl) (fun W _ => by kernel_rfl)) S2 ?_
                  refine wpAnyH_done (by kernel_rfl) ?_ _
                  simp only [Act.put, List.setIfInBounds_toArray, List.set_cons_zero, List.set_cons_succ]
                  have HS1 := Lib.hid (HNZ.out _ S2).2
                  have HNEW : Hid (∀ y', y' < y + 1 → DTab p ds ac dn (x, y')) := Lib.hid (fun y' hy' => by
                    by_cases e : y' = y
                    · subst e; exact HDT.out.2 ⟨HT1B.out.1 (by simp), HT2B.out.1 (by simp)⟩
                    · exact HTY.out y' (by omega))
                  clear S0 S1 S2 hb3 hb5
                  go_wp2
                  go_roundw
                  case rel => exact ⟨y + 1, by omega, by go_num, HS1, HNEW⟩
                  case measure => simp [intOf]; omega
            · obtain rfl : y = q := by omega
              have HNEW : Hid (∀ c ∈ cellsTo ds ds.length, c.1 < x + 1 → DTab p ds ac dn c) := Lib.hid (fun c hc hca => by
                by_cases e : c.1 = x
                · obtain ⟨c1', c2'⟩ := c
                  dsimp only at e
                  subst e
                  refine HTY.out c2' ?_
                  have h1 := mem_cells.1 hc
                  dsimp only at h1
                  rw [(HLL.out c1' hltx).1] at h1
                  exact h1.2
                · exact HTX.out c hc (by omega))
              go_wp2
              go_roundw
              case rel => exact ⟨x + 1, by omega, by go_num, HBwy, HNEW⟩
              case measure => simp [intOf]; omega
        · obtain rfl : x = a := by omega
          have HTB : Hid (TbsOk p ds ac dn) := Lib.hid ⟨by rw [← HN1.out]; exact HM.out, by rw [← HN4.out]; exact HM.out, fun i hi => by rw [← HM.out] at hi; rw [(HLL.out i hi).2.1, (HLL.out i hi).1], fun i hi => by rw [← HM.out] at hi; rw [(HLL.out i hi).2.2, (HLL.out i hi).1], fun c hc => HTX.out c hc (by rw [HM.out]; exact (mem_cells.1 hc).1)⟩
          have hxn := HX1.out.next HBwx.out
          have HXN := Lib.hid hxn
          have c0 := hxn.c0
          have c1 := hxn.c1
          have c2 := hxn.c2
          have c3 := hxn.c3
          clear hxn
          go_wp2_with fail
          refine (l03Square_any p HP.out _ _ _ ds ac dn _ HXN.out.dx HCEL.out HTB.out).mono ?_
          rintro e w' ⟨bq, rfl, hbq, hq2⟩
          have HBQ := Lib.hid hbq
          have HQ2 := Lib.hid hq2
          clear hbq hq2 c0 c1 c2 c3
          go_wp2
          go_ret
          exact ⟨bq, rfl, HXN.out.below.trans (HBQ.out.mono HXN.out.below.size), HQ2.out.trans ((sq_iff HP.out HCEL.out HTB.out).trans ⟨fun h => HPI.out.2 ⟨HP.out, HCEL.out, HTB.out, h⟩, fun h => (HPI.out.1 h).cnd⟩)⟩

end Go.Proofs.Ytlopenephgabhaa

