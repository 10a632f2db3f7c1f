/-
  Which lists are lists of bars in order, by contract: isBar, slices.IsSortedFunc, AreBars of the program.
-/
import Derived.Test.YtchijefibiaphaaBrc
namespace Go.Proofs.Ytchijefibiaphaa
open Go.RowKit Go.Sort

def GrB (P : Prop) (w : World) (e : Ending) (w' : World) : Prop := ∃ b : Bool, e = .returned (.bool b) ∧ Gr w w' ∧ (b = true ↔ P)
theorem GrB.yes {P : Prop} {w w' : World} (hg : Gr w w') (h : P) : GrB P w (.returned (.bool true)) w' := ⟨true, rfl, hg, ⟨fun _ => h, fun _ => rfl⟩⟩
theorem GrB.no {P : Prop} {w w' : World} (hg : Gr w w') (h : ¬ P) : GrB P w (.returned (.bool false)) w' := ⟨false, rfl, hg, ⟨fun h => absurd h (by simp), fun h2 => absurd h2 h⟩⟩

set_option maxHeartbeats 1600000 in
set_option maxRecDepth 100000 in
theorem isBar_any (x : B3) (w : World) : Calls Try.prog 74 #[bvl x] w (GrB (BarOk x) w) := by
  obtain ⟨a, b, d⟩ := x
  by_cases c1 : 0 ≤ a ∧ a ≤ 5
  · have I1 : ∀ W, Calls Try.prog 78 #[.int .i64 a, .int .i64 0, .int .i64 5] W (QW (.bool true) W) := fun W => in_yes c1 W
    by_cases c2 : 0 ≤ b ∧ b ≤ 5
    · have I2 : ∀ W, Calls Try.prog 78 #[.int .i64 b, .int .i64 0, .int .i64 5] W (QW (.bool true) W) := fun W => in_yes c2 W
      by_cases c3 : d = -1
      · have HP : Hid (BarOk (a, b, d)) := Lib.hid ⟨c1, c2, Or.inl c3⟩
        have h3 : (d == -1) = true := by simp [c3]
        clear c1 c2 c3
        unfold bvl
        dsimp only
        go_enter Try.func74, Try.ntmps74
        go_wp2_with (go_at_call 78; (first | with_reducible refine (I1 _).mono ?_ | with_reducible refine (I2 _).mono ?_); rintro e w' ⟨rfl, rfl⟩)
        go_ret
        exact GrB.yes (Gr.alloc _ _) HP.out
      · have h3 : (d == -1) = false := by simp [c3]
        by_cases c4 : b ≤ d ∧ d ≤ 5
        · have I4 : ∀ W, Calls Try.prog 78 #[.int .i64 d, .int .i64 b, .int .i64 5] W (QW (.bool true) W) := fun W => in_yes c4 W
          have HP : Hid (BarOk (a, b, d)) := Lib.hid ⟨c1, c2, Or.inr c4⟩
          clear c1 c2 c3 c4
          unfold bvl
          dsimp only
          go_enter Try.func74, Try.ntmps74
          go_wp2_with (go_at_call 78; (first | with_reducible refine (I1 _).mono ?_ | with_reducible refine (I2 _).mono ?_ | with_reducible refine (I4 _).mono ?_); rintro e w' ⟨rfl, rfl⟩)
          go_ret
          exact GrB.yes (Gr.alloc _ _) HP.out
        · have I4 : ∀ W, Calls Try.prog 78 #[.int .i64 d, .int .i64 b, .int .i64 5] W (QW (.bool false) W) := fun W => in_no c4 W
          have HP : Hid (¬ BarOk (a, b, d)) := Lib.hid (fun h => h.2.2.elim c3 c4)
          clear c1 c2 c3 c4
          unfold bvl
          dsimp only
          go_enter Try.func74, Try.ntmps74
          go_wp2_with (go_at_call 78; (first | with_reducible refine (I1 _).mono ?_ | with_reducible refine (I2 _).mono ?_ | with_reducible refine (I4 _).mono ?_); rintro e w' ⟨rfl, rfl⟩)
          go_ret
          exact GrB.no (Gr.alloc _ _) HP.out
    · have I2 : ∀ W, Calls Try.prog 78 #[.int .i64 b, .int .i64 0, .int .i64 5] W (QW (.bool false) W) := fun W => in_no c2 W
      have HP : Hid (¬ BarOk (a, b, d)) := Lib.hid (fun h => c2 h.2.1)
      clear c1 c2
      unfold bvl
      dsimp only
      go_enter Try.func74, Try.ntmps74
      go_wp2_with (go_at_call 78; (first | with_reducible refine (I1 _).mono ?_ | with_reducible refine (I2 _).mono ?_); rintro e w' ⟨rfl, rfl⟩)
      go_ret
      exact GrB.no (Gr.alloc _ _) HP.out
  · have I1 : ∀ W, Calls Try.prog 78 #[.int .i64 a, .int .i64 0, .int .i64 5] W (QW (.bool false) W) := fun W => in_no c1 W
    have HP : Hid (¬ BarOk (a, b, d)) := Lib.hid (fun h => c1 h.1)
    clear c1
    unfold bvl
    dsimp only
    go_enter Try.func74, Try.ntmps74
    go_wp2_with (go_at_call 78; (with_reducible refine (I1 _).mono ?_); rintro e w' ⟨rfl, rfl⟩)
    go_ret
    exact GrB.no (Gr.alloc _ _) HP.out

def SortedB (xs : List B3) : Prop := ∀ k (h : k + 1 < xs.length), ¬ cmp3 xs[k + 1] xs[k] < 0
set_option maxHeartbeats 3200000 in
set_option maxRecDepth 100000 in
theorem isSorted_any (v : Value) (xs : List B3) (w : World) (h : Br 0 w v xs) (hl : xs.length ≤ 1048576) : Calls Try.prog 75 #[v, .func (.func 76) #[] #[]] w (GrB (SortedB xs) w) := by
  obtain ⟨av, cv, rfl⟩ := h.shape
  have H := Lib.hid h
  have hw1 : IntKind.i64.wrap ((xs.length : Int) - 1) = (xs.length : Int) - 1 := IntWalk.i64_in _ (by omega)
  clear h
  go_enter Try.func75, Try.ntmps75
  go_wp2
  go_loopw [5] (fun i wr => ∃ (k : Int), (k = (xs.length : Int) - 1 ∨ 0 ≤ k ∧ k < (xs.length : Int)) ∧ i = .int .i64 k ∧ Hid (Gr w wr) ∧ Hid (∀ j (h : j + 1 < xs.length), k ≤ (j : Int) → 0 ≤ cmp3 xs[j + 1] xs[j])) (fun i _ => (intOf i + 1).toNat)
  case atStart => exact ⟨_, Or.inl rfl, rfl, Lib.hid (Gr.refl _), Lib.hid (fun j h h2 => absurd h2 (by omega))⟩
  case round =>
    obtain ⟨k, hk, rfl, HG, HD⟩ := hrel
    obtain ⟨wx, hwx⟩ : ∃ wx : World, wx = wr := ⟨_, rfl⟩
    subst hwx
    by_cases hk0 : 0 < k
    · obtain ⟨q, hq⟩ : ∃ q : Nat, k = (q : Int) + 1 := ⟨(k - 1).toNat, by omega⟩
      subst hq
      have hq1 : q + 1 < xs.length := by omega
      obtain ⟨bv, ov, hav, _, _, _, p0, p1, p2⟩ := H.out.at' (k := q + 1) hq1
      obtain ⟨bv2, ov2, hav2, _, _, _, r0, r1, r2⟩ := H.out.at' (k := q) (by omega)
      rw [hav] at hav2
      injection hav2 with e1
      injection e1 with e1 e2
      subst e1 e2 hav
      obtain ⟨x, hx⟩ : ∃ x, x = xs[q + 1] := ⟨_, rfl⟩
      obtain ⟨y, hy⟩ : ∃ y, y = xs[q] := ⟨_, rfl⟩
      rw [← hx] at p0 p1 p2
      rw [← hy] at r0 r1 r2
      have P0 := Lib.hid p0
      have P1 := Lib.hid p1
      have P2 := Lib.hid p2
      have R0 := Lib.hid r0
      have R1 := Lib.hid r1
      have R2 := Lib.hid r2
      have HX := Lib.hid hx
      have HY := Lib.hid hy
      have hk2 : (q : Int) + 1 < (xs.length : Int) := by omega
      have hk3 : (0 : Int) ≤ (q : Int) + 1 := by omega
      have hk4 : (q : Int) < (xs.length : Int) := by omega
      have hk5 : (0 : Int) ≤ (q : Int) := by omega
      have hn1 : ((q : Int) + 1).toNat = q + 1 := by omega
      have hwq : IntKind.i64.wrap ((q : Int) + 1 - 1) = (q : Int) := by rw [show (q : Int) + 1 - 1 = (q : Int) by omega]; exact IntWalk.i64_in _ (by omega)
      have hwq2 : IntKind.i64.wrap (q : Int) = (q : Int) := IntWalk.i64_in _ (by omega)
      have HGD : Hid (Gr w { wx with drawn := wx.drawn + 1 }) := Lib.hid (HG.out.trans (Gr.drewN1 wx))
      obtain ⟨wd, hwd⟩ : ∃ wd : World, wd = { wx with drawn := wx.drawn + 1 } := ⟨_, rfl⟩
      rw [← hwd] at HGD
      have S0 := HGD.out
      clear p0 p1 p2 r0 r1 r2 hx hy hk
      go_wp2
      refine wp_region_held (S := fun W => Gr w W) (by kernel_rfl) ?_
      rw [← hwd]
      clear hwd
      refine held_take (i := 0) (v := .func (.func 76) #[] #[]) (some 13) rfl rfl (by kernel_rfl) (by kernel_rfl) (by kernel_rfl) (fun _ _ _ h => h) (yieldsIf_move (by kernel_rfl) rfl (by kernel_rfl)) S0 ?_
      refine held_take (i := 1) (v := .slice (some ⟨bv, ov, none⟩) xs.length cv) (some 14) rfl rfl (by kernel_rfl) (by kernel_rfl) (by kernel_rfl) (fun _ _ _ h => h) (yieldsIf_move (by kernel_rfl) rfl (by kernel_rfl)) S0 ?_
      refine held_take (i := 2) (v := .int .i64 ((q : Int) + 1)) (some 15) rfl rfl (by kernel_rfl) (by kernel_rfl) (by kernel_rfl) (fun _ _ _ h => h) (yieldsIf_move (by kernel_rfl) rfl (by kernel_rfl)) S0 ?_
      refine held_take (i := 3) (v := .pointer (some ⟨bv, ov + (q + 1) * 3, none⟩)) (some 16) rfl rfl (by kernel_rfl) (by kernel_rfl) (by kernel_rfl) (fun _ _ _ h => h) (yieldsIf_run (by kernel_rfl) (fun W _ => by go_simp)) S0 ?_
      refine held_take (i := 4) (v := bvl x) (some 17) rfl rfl (by kernel_rfl) (by kernel_rfl) (by kernel_rfl) (fun _ _ _ h => h) (yieldsIf_cell (by kernel_rfl) rfl (by kernel_rfl) (fun W h => hloadBI W (later (Gr.below h) (Nat.le_refl _) P0.out) (later (Gr.below h) (Nat.le_refl _) P1.out) (later (Gr.below h) (Nat.le_refl _) P2.out))) S0 ?_
      refine held_take (i := 5) (v := .slice (some ⟨bv, ov, none⟩) xs.length cv) (some 18) rfl rfl (by kernel_rfl) (by kernel_rfl) (by kernel_rfl) (fun _ _ _ h => h) (yieldsIf_move (by kernel_rfl) rfl (by kernel_rfl)) S0 ?_
      refine held_take (i := 6) (v := .int .i64 ((q : Int) + 1)) (some 19) rfl rfl (by kernel_rfl) (by kernel_rfl) (by kernel_rfl) (fun _ _ _ h => h) (yieldsIf_move (by kernel_rfl) rfl (by kernel_rfl)) S0 ?_
      refine held_take (i := 7) (v := .int .i64 (q : Int)) (some 20) rfl rfl (by kernel_rfl) (by kernel_rfl) (by kernel_rfl) (fun _ _ _ h => h) (yieldsIf_run (by kernel_rfl) (fun W _ => by go_simp)) S0 ?_
      refine held_take (i := 8) (v := .pointer (some ⟨bv, ov + q * 3, none⟩)) (some 21) rfl rfl (by kernel_rfl) (by kernel_rfl) (by kernel_rfl) (fun _ _ _ h => h) (yieldsIf_run (by kernel_rfl) (fun W _ => by go_simp)) S0 ?_
      refine held_take (i := 9) (v := bvl y) (some 22) rfl rfl (by kernel_rfl) (by kernel_rfl) (by kernel_rfl) (fun _ _ _ h => h) (yieldsIf_cell (by kernel_rfl) rfl (by kernel_rfl) (fun W h => hloadBI W (later (Gr.below h) (Nat.le_refl _) R0.out) (later (Gr.below h) (Nat.le_refl _) R1.out) (later (Gr.below h) (Nat.le_refl _) R2.out))) S0 ?_
      refine held_enter (i := 10) (some 23) (f := 76) (args := #[bvl x, bvl y]) (by kernel_rfl) rfl rfl rfl (by kernel_rfl) (compareBars_any x y _) ?_ (fun c w' h => by cases h.1) (fun w' h => by cases h.1)
      rintro v w2 ⟨he, hg⟩
      injection he with he
      subst he
      have S2 := S0.trans hg
      refine ⟨S2, ?_⟩
      have HS2 := Lib.hid S2
      obtain ⟨r, hr⟩ : ∃ r, r = cmp3 x y := ⟨_, rfl⟩
      rw [← hr]
      have HR := Lib.hid hr
      clear hr
      by_cases hr0 : r < 0
      · refine held_take (i := 11) (v := .bool true) (some 24) rfl rfl (by kernel_rfl) (by kernel_rfl) (by kernel_rfl) (fun _ _ _ h => h) (yieldsIf_run (by kernel_rfl) (fun W _ => by go_simp)) S2 ?_
        refine wpAnyH_done (by kernel_rfl) ?_ _
        simp only [Act.put, List.setIfInBounds_toArray, List.set_cons_zero, List.set_cons_succ]
        clear S0 S2 hg
        go_wp2
        go_ret
        exact GrB.no HS2.out (fun h => h q hq1 (by rw [← HX.out, ← HY.out, ← HR.out]; exact hr0))
      · refine held_take (i := 11) (v := .bool false) (some 24) rfl rfl (by kernel_rfl) (by kernel_rfl) (by kernel_rfl) (fun _ _ _ h => h) (yieldsIf_run (by kernel_rfl) (fun W _ => by go_simp)) S2 ?_
        refine wpAnyH_done (by kernel_rfl) ?_ _
        simp only [Act.put, List.setIfInBounds_toArray, List.set_cons_zero, List.set_cons_succ]
        clear S0 S2 hg
        go_wp2
        go_roundw
        case rel => exact ⟨(q : Int), Or.inr ⟨hk5, hk4⟩, by go_num, HS2, Lib.hid (fun j h h2 => by
          by_cases e : j = q
          · subst e
            rw [← HX.out, ← HY.out, ← HR.out]
            exact Int.not_lt.1 hr0
          · exact HD.out j h (by omega))⟩
        case measure => simp [intOf]; omega
    · go_wp2
      go_ret
      exact GrB.yes HG.out (fun j h => Int.not_lt.2 (HD.out j h (by omega)))

set_option maxHeartbeats 3200000 in
set_option maxRecDepth 100000 in
theorem areBars_any (v : Value) (xs : List B3) (w : World) (h : Br 0 w v xs) (hl : xs.length ≤ 1048576) : Calls Try.prog 30 #[v] w (GrB (BarsOk xs) w) := by
  obtain ⟨av, cv, rfl⟩ := h.shape
  have H := Lib.hid h
  clear h
  by_cases h24 : (24 : Int) < (xs.length : Int)
  · go_enter Try.func30, Try.ntmps30
    go_wp2
    go_ret
    exact GrB.no (Gr.refl _) (fun h => by have := h.1; omega)
  · go_enter Try.func30, Try.ntmps30
    go_wp2
    go_loopw [10] (fun i wr => ∃ (k : Nat), k ≤ xs.length ∧ i = .int .i64 k ∧ Hid (Gr w wr) ∧ Hid (∀ j (h : j < xs.length), j < k → BarOk xs[j])) (fun i _ => xs.length - (intOf i).toNat)
    case atStart => exact ⟨0, Nat.zero_le _, rfl, Lib.hid (Gr.refl _), Lib.hid (fun _ _ h => absurd h (Nat.not_lt_zero _))⟩
    case round =>
      obtain ⟨k, hk, rfl, HG, HD⟩ := hrel
      obtain ⟨wx, hwx⟩ : ∃ wx : World, wx = wr := ⟨_, rfl⟩
      subst hwx
      by_cases hlt : k < xs.length
      · have hkl : (k : Int) < (xs.length : Int) := by omega
        obtain ⟨bv, ov, hav, _, _, _, p0, p1, p2⟩ := H.out.at' (k := k) hlt
        subst hav
        obtain ⟨x, hx⟩ : ∃ x, x = xs[k] := ⟨_, rfl⟩
        rw [← hx] at p0 p1 p2
        have q0 := later HG.out.below (Nat.le_refl _) p0
        have q1 := later HG.out.below (Nat.le_refl _) p1
        have q2 := later HG.out.below (Nat.le_refl _) p2
        have HX := Lib.hid hx
        have HG2 := Lib.hid (HG.out.trans (Gr.alloc wx (.cells #[.int .i64 x.1, .int .i64 x.2.1, .int .i64 x.2.2] 53)))
        clear p0 p1 p2 hx
        go_wp2_with fail
        refine (isBar_any x _).mono ?_
        rintro e w3 ⟨bb, rfl, hg3, hbb⟩
        have HG3 := Lib.hid (HG2.out.trans hg3)
        have HBB := Lib.hid hbb
        clear hg3 hbb q0 q1 q2
        cases bb with
        | true =>
          go_wp2
          go_roundw
          case rel => exact ⟨k + 1, by omega, by go_num, HG3, Lib.hid (fun j h hjk => by
            by_cases e : j = k
            · subst e
              rw [← HX.out]
              first | exact HBB.out.1 rfl | exact HBB.out | simpa using HBB.out
            · exact HD.out j h (by omega))⟩
          case measure => simp [intOf]; omega
        | false =>
          go_wp2
          go_ret
          exact GrB.no HG3.out (fun h => by
            have h2 := h.2.1 k hlt
            rw [← HX.out] at h2
            first | (have := HBB.out.2 h2; cases this) | exact HBB.out h2 | (have := HBB.out; simp [h2] at this))
      · have hkl : ¬ (k : Int) < (xs.length : Int) := by omega
        have HDD : Hid (∀ j (h : j < xs.length), BarOk xs[j]) := Lib.hid (fun j h => HD.out j h (by omega))
        have HV := Lib.hid (H.out.below HG.out.below)
        go_wp2_with fail
        refine (isSorted_any _ xs _ HV.out hl).mono ?_
        rintro e w3 ⟨bb, rfl, hg3, hbb⟩
        have HG3 := Lib.hid (HG.out.trans hg3)
        have HBB := Lib.hid hbb
        clear hg3 hbb
        go_wp2
        go_ret
        exact ⟨bb, rfl, HG3.out, ⟨fun hb => ⟨by omega, HDD.out, HBB.out.1 hb⟩, fun h => HBB.out.2 h.2.2⟩⟩
end Go.Proofs.Ytchijefibiaphaa
