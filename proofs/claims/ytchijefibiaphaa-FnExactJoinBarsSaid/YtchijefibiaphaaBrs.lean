/-
  Which lists are lists of bars in order, by contract: l09End, l09Before, l09Are of the model.
-/
import Derived.Test.YtchijefibiaphaaBra
namespace Go.Proofs.Ytchijefibiaphaa
open Go.RowKit Go.Sort

/-- The Death as the model orders it. -/
def bk1 (x : B3) : Int := if x.2.2 < 0 then 100 else x.2.2
/-- The order of the model. -/
def befS (x y : B3) : Prop := x.1 < y.1 ∨ x.1 = y.1 ∧ (x.2.1 < y.2.1 ∨ x.2.1 = y.2.1 ∧ bk1 x < bk1 y)
theorem befS_cmp {x y : B3} (hx : BarOk x) (hy : BarOk y) : befS x y ↔ cmp3 x y < 0 := by
  obtain ⟨a, b, d⟩ := x
  obtain ⟨a2, b2, d2⟩ := y
  unfold BarOk at hx hy
  simp only at hx hy
  have e1 : bk1 (a, b, d) < bk1 (a2, b2, d2) ↔ bk (a, b, d) < bk (a2, b2, d2) := by
    unfold bk1 bk
    simp only
    split <;> split <;> split <;> split <;> omega
  have e2 : bk1 (a2, b2, d2) < bk1 (a, b, d) ↔ bk (a2, b2, d2) < bk (a, b, d) := by
    unfold bk1 bk
    simp only
    split <;> split <;> split <;> split <;> omega
  unfold befS cmp3
  simp only [e1]
  repeat' split
  all_goals omega

set_option maxHeartbeats 400000 in
theorem l09End_any (x : B3) (w : World) : Calls Try.prog 139 #[bvl x] w (GrR (.int .i64 (bk1 x)) w) := by
  obtain ⟨a, b, d⟩ := x
  obtain ⟨r, hr⟩ : ∃ r, r = bk1 (a, b, d) := ⟨_, rfl⟩
  rw [← hr]
  unfold bk1 at hr
  dsimp only at hr
  unfold bvl
  dsimp only
  by_cases h : d < 0
  · rw [if_pos h] at hr
    subst hr
    go_enter Try.func139, Try.ntmps139
    go_wp2
    go_ret
    exact ⟨rfl, Gr.alloc _ _⟩
  · rw [if_neg h] at hr
    subst hr
    go_enter Try.func139, Try.ntmps139
    go_wp2
    go_ret
    exact ⟨rfl, Gr.alloc _ _⟩

set_option maxHeartbeats 1600000 in
set_option maxRecDepth 100000 in
theorem l09Before_any (x y : B3) (w : World) : Calls Try.prog 109 #[bvl x, bvl y] w (GrB (befS x y) w) := by
  obtain ⟨a, b, d⟩ := x
  obtain ⟨a2, b2, d2⟩ := y
  have HG : Hid (Gr w ((w.alloc (.cells #[.int .i64 a, .int .i64 b, .int .i64 d] 53)).alloc (.cells #[.int .i64 a2, .int .i64 b2, .int .i64 d2] 53))) := Lib.hid ((Gr.alloc _ _).trans (Gr.alloc _ _))
  by_cases h1 : a = a2
  · have h1n : (a != a2) = false := by simp [h1]
    by_cases h2 : b = b2
    · have h2n : (b != b2) = false := by simp [h2]
      have HE1 := Lib.hid (l09End_any (a, b, d))
      have HE2 := Lib.hid (l09End_any (a2, b2, d2))
      obtain ⟨e1, he1⟩ : ∃ e, e = bk1 (a, b, d) := ⟨_, rfl⟩
      obtain ⟨e2, he2⟩ : ∃ e, e = bk1 (a2, b2, d2) := ⟨_, rfl⟩
      rw [← he1] at HE1
      rw [← he2] at HE2
      have HP : Hid (befS (a, b, d) (a2, b2, d2) ↔ e1 < e2) := Lib.hid (by
        rw [he1, he2]
        unfold befS
        dsimp only
        constructor
        · rintro (h | ⟨_, h | ⟨_, h⟩⟩)
          · omega
          · omega
          · exact h
        · exact fun h => Or.inr ⟨h1, Or.inr ⟨h2, h⟩⟩)
      obtain ⟨w1, hw1⟩ : ∃ w1 : World, w1 = (w.alloc (.cells #[.int .i64 a, .int .i64 b, .int .i64 d] 53)).alloc (.cells #[.int .i64 a2, .int .i64 b2, .int .i64 d2] 53) := ⟨_, rfl⟩
      have HA0 : Hid (w1.cell? ⟨w.heap.size, 0, none⟩ = some (.int .i64 a)) := Lib.hid (by rw [hw1]; simp)
      have HA1 : Hid (w1.cell? ⟨w.heap.size, 1, none⟩ = some (.int .i64 b)) := Lib.hid (by rw [hw1]; simp)
      have HA2 : Hid (w1.cell? ⟨w.heap.size, 2, none⟩ = some (.int .i64 d)) := Lib.hid (by rw [hw1]; simp)
      have HB0 : Hid (w1.cell? ⟨w.heap.size + 1, 0, none⟩ = some (.int .i64 a2)) := Lib.hid (by rw [hw1]; simp)
      have HB1 : Hid (w1.cell? ⟨w.heap.size + 1, 1, none⟩ = some (.int .i64 b2)) := Lib.hid (by rw [hw1]; simp)
      have HB2 : Hid (w1.cell? ⟨w.heap.size + 1, 2, none⟩ = some (.int .i64 d2)) := Lib.hid (by rw [hw1]; simp)
      rw [← hw1] at HG
      have a0 := HA0.out
      have a1 := HA1.out
      have a2' := HA2.out
      have b0 := HB0.out
      have b1 := HB1.out
      have b2' := HB2.out
      clear h1 h2 he1 he2
      unfold bvl at *
      dsimp only at *
      go_enter Try.func109, Try.ntmps109
      go_upto_region 1 with fail
      rw [← hw1]
      clear hw1
      go_upto_region 5 with fail
      refine wp_region_held (S := fun W => Gr w1 W) (by kernel_rfl) ?_
      have S0 := Gr.drewN1 w1
      obtain ⟨wd, hwd⟩ : ∃ wd : World, wd = { w1 with drawn := w1.drawn + 1 } := ⟨_, rfl⟩
      rw [← hwd] at S0 ⊢
      clear hwd a0 a1 a2' b0 b1 b2'
      refine held_take (i := 0) (v := .agg #[.int .i64 a, .int .i64 b, .int .i64 d]) (some 27) rfl rfl (by kernel_rfl) (by kernel_rfl) (by kernel_rfl) (fun _ _ _ h => h) (yieldsIf_cell (by kernel_rfl) rfl (by kernel_rfl) (fun W h => hloadB0 W (later (Gr.below h) (Nat.le_refl _) HA0.out) (later (Gr.below h) (Nat.le_refl _) HA1.out) (later (Gr.below h) (Nat.le_refl _) HA2.out))) S0 ?_
      refine held_take (i := 2) (v := .agg #[.int .i64 a2, .int .i64 b2, .int .i64 d2]) (some 29) rfl rfl (by kernel_rfl) (by kernel_rfl) (by kernel_rfl) (fun _ _ _ h => h) (yieldsIf_cell (by kernel_rfl) rfl (by kernel_rfl) (fun W h => hloadB0 W (later (Gr.below h) (Nat.le_refl _) HB0.out) (later (Gr.below h) (Nat.le_refl _) HB1.out) (later (Gr.below h) (Nat.le_refl _) HB2.out))) S0 ?_
      refine held_enter (i := 1) (some 28) (f := 139) (args := #[.agg #[.int .i64 a, .int .i64 b, .int .i64 d]]) (by kernel_rfl) rfl rfl rfl (by kernel_rfl) (HE1.out _) ?_ (fun c w' h => by cases h.1) (fun w' h => by cases h.1)
      rintro v w1k ⟨he, hg⟩
      injection he with he
      subst he
      have S1 := S0.trans hg
      clear hg
      refine ⟨S1, ?_⟩
      refine held_enter (i := 3) (some 30) (f := 139) (args := #[.agg #[.int .i64 a2, .int .i64 b2, .int .i64 d2]]) (by kernel_rfl) rfl rfl rfl (by kernel_rfl) (HE2.out _) ?_ (fun c w' h => by cases h.1) (fun w' h => by cases h.1)
      rintro v w2k ⟨he, hg⟩
      injection he with he
      subst he
      have S2 := S1.trans hg
      clear hg
      refine ⟨S2, ?_⟩
      by_cases h3 : e1 < e2
      · refine held_take (i := 4) (v := .bool true) (some 31) rfl rfl (by kernel_rfl) (by kernel_rfl) (by kernel_rfl) (fun _ _ _ h => h) (yieldsIf_run (by kernel_rfl) (fun W _ => by go_simp)) S2 ?_
        refine held_take (i := 5) (v := .bool true) (some 4) rfl rfl (by kernel_rfl) (by kernel_rfl) (by kernel_rfl) (fun _ _ _ h => h) (yieldsIf_run (by kernel_rfl) (fun W _ => by kernel_rfl)) S2 ?_
        refine wpAnyH_done (by kernel_rfl) ?_ _
        simp only [Act.put, List.setIfInBounds_toArray, List.set_cons_zero, List.set_cons_succ]
        go_wp2
        go_ret
        exact GrB.yes (HG.out.trans S2) (HP.out.2 h3)
      · refine held_take (i := 4) (v := .bool false) (some 31) rfl rfl (by kernel_rfl) (by kernel_rfl) (by kernel_rfl) (fun _ _ _ h => h) (yieldsIf_run (by kernel_rfl) (fun W _ => by go_simp)) S2 ?_
        refine held_take (i := 5) (v := .bool false) (some 4) rfl rfl (by kernel_rfl) (by kernel_rfl) (by kernel_rfl) (fun _ _ _ h => h) (yieldsIf_run (by kernel_rfl) (fun W _ => by kernel_rfl)) S2 ?_
        refine wpAnyH_done (by kernel_rfl) ?_ _
        simp only [Act.put, List.setIfInBounds_toArray, List.set_cons_zero, List.set_cons_succ]
        go_wp2
        go_ret
        exact GrB.no (HG.out.trans S2) (fun h => absurd (HP.out.1 h) (by omega))
    · have h2n : (b != b2) = true := by simp [h2]
      by_cases h3 : b < b2
      · have HP : Hid (befS (a, b, d) (a2, b2, d2)) := Lib.hid (Or.inr ⟨h1, Or.inl h3⟩)
        clear h1 h2
        unfold bvl
        dsimp only
        go_enter Try.func109, Try.ntmps109
        go_wp2
        go_ret
        exact GrB.yes HG.out HP.out
      · have HP : Hid (¬ befS (a, b, d) (a2, b2, d2)) := Lib.hid (by unfold befS; simp only; omega)
        clear h1 h2
        unfold bvl
        dsimp only
        go_enter Try.func109, Try.ntmps109
        go_wp2
        go_ret
        exact GrB.no HG.out HP.out
  · have h1n : (a != a2) = true := by simp [h1]
    by_cases h3 : a < a2
    · have HP : Hid (befS (a, b, d) (a2, b2, d2)) := Lib.hid (Or.inl h3)
      clear h1
      unfold bvl
      dsimp only
      go_enter Try.func109, Try.ntmps109
      go_wp2
      go_ret
      exact GrB.yes HG.out HP.out
    · have HP : Hid (¬ befS (a, b, d) (a2, b2, d2)) := Lib.hid (by unfold befS; simp only; omega)
      clear h1
      unfold bvl
      dsimp only
      go_enter Try.func109, Try.ntmps109
      go_wp2
      go_ret
      exact GrB.no HG.out HP.out

set_option maxHeartbeats 6400000 in
set_option maxRecDepth 100000 in
theorem l09Are_any (v : Value) (xs : List B3) (w : World) (h : Br 0 w v xs) (hl : xs.length ≤ 1048576) : Calls Try.prog 72 #[v] w (GrB (BarsOk xs) w) := by
  obtain ⟨av, cv, rfl⟩ := h.shape
  have H := Lib.hid h
  clear h
  by_cases h24 : (24 : Int) < (xs.length : Int)
  · go_enter Try.func72, Try.ntmps72
    go_wp2
    go_ret
    exact GrB.no (Gr.refl _) (fun h => by have := h.1; omega)
  · go_enter Try.func72, Try.ntmps72
    go_wp2
    go_loopw [3] (fun i wr => ∃ (k : Nat), k ≤ xs.length ∧ i = .int .i64 k ∧ Hid (Gr w wr) ∧ Hid ((∀ j (h : j < xs.length), j < k → BarOk xs[j]) ∧ ∀ j (h : j + 1 < xs.length), j + 1 < k → 0 ≤ cmp3 xs[j + 1] xs[j])) (fun i _ => xs.length - (intOf i).toNat)
    case atStart => exact ⟨0, Nat.zero_le _, rfl, Lib.hid (Gr.refl _), Lib.hid ⟨fun _ _ h => absurd h (Nat.not_lt_zero _), fun _ _ h => absurd h (Nat.not_lt_zero _)⟩⟩
    case round =>
      obtain ⟨k, hk, rfl, HG, HD⟩ := hrel
      obtain ⟨wx, hwx⟩ : ∃ wx : World, wx = wr := ⟨_, rfl⟩
      subst hwx
      by_cases hlt : k < xs.length
      · have hkl : (k : Int) < (xs.length : Int) := by omega
        obtain ⟨bv, ov, hav, _, _, hbl, p0, p1, p2⟩ := H.out.at' (k := k) hlt
        subst hav
        obtain ⟨x, hx⟩ : ∃ x, x = xs[k] := ⟨_, rfl⟩
        rw [← hx] at p0 p1 p2
        have q0 := later HG.out.below (Nat.le_refl _) p0
        have q1 := later HG.out.below (Nat.le_refl _) p1
        have q2 := later HG.out.below (Nat.le_refl _) p2
        have HX := Lib.hid hx
        obtain ⟨wb, hwb⟩ : ∃ wb : World, wb = wx.alloc (.cells #[.int .i64 x.1, .int .i64 x.2.1, .int .i64 x.2.2] 53) := ⟨_, rfl⟩
        have HG2 : Hid (Gr w wb) := Lib.hid (by rw [hwb]; exact HG.out.trans (Gr.alloc _ _))
        have HGB : Hid (Gr wx wb) := Lib.hid (by rw [hwb]; exact Gr.alloc _ _)
        have t0 : wb.cell? ⟨wx.heap.size, 0, none⟩ = some (.int .i64 x.1) := by rw [hwb]; simp
        have t1 : wb.cell? ⟨wx.heap.size, 1, none⟩ = some (.int .i64 x.2.1) := by rw [hwb]; simp
        have t2 : wb.cell? ⟨wx.heap.size, 2, none⟩ = some (.int .i64 x.2.2) := by rw [hwb]; simp
        have T0 := Lib.hid t0
        have T1 := Lib.hid t1
        have T2 := Lib.hid t2
        clear p0 p1 p2 hx
        go_upto_region 7 with fail
        rw [← hwb]
        clear hwb q0 q1 q2
        by_cases c1 : 0 ≤ x.1 ∧ x.1 ≤ 5
        · have I1 : ∀ W, Calls Try.prog 77 #[.int .i64 x.1, .int .i64 0, .int .i64 5] W (QW (.bool true) W) := fun W => spin_yes c1 W
          by_cases c2 : 0 ≤ x.2.1 ∧ x.2.1 ≤ 5
          · have I2 : ∀ W, Calls Try.prog 77 #[.int .i64 x.2.1, .int .i64 0, .int .i64 5] W (QW (.bool true) W) := fun W => spin_yes c2 W
            by_cases c3 : x.2.2 = -1
            · have h3 : (x.2.2 != -1) = false := by simp [c3]
              have I4 := I1
              have HP : Hid (BarOk x) := Lib.hid ⟨c1, c2, Or.inl c3⟩
              clear c1 c2 c3
              go_upto_region 9 with (go_at_call 77; (first | with_reducible refine (I1 _).mono ?_ | with_reducible refine (I2 _).mono ?_ | with_reducible refine (I4 _).mono ?_); rintro e w' ⟨rfl, rfl⟩)
              clear t0 t1 t2
              by_cases hk0 : k = 0
              · subst hk0
                refine wp_region_held (S := fun W => Gr w W) (by kernel_rfl) ?_
                have S0 := HG2.out.trans (Gr.drewN1 wb)
                obtain ⟨wd, hwd⟩ : ∃ wd : World, wd = { wb with drawn := wb.drawn + 1 } := ⟨_, rfl⟩
                rw [← hwd] at S0 ⊢
                clear hwd
                refine held_take (i := 0) (v := .int .i64 ((0 : Nat) : Int)) (some 41) rfl rfl (by kernel_rfl) (by kernel_rfl) (by kernel_rfl) (fun _ _ _ h => h) (yieldsIf_move (by kernel_rfl) rfl (by kernel_rfl)) S0 ?_
                refine held_take (i := 1) (v := .bool false) (some 42) rfl rfl (by kernel_rfl) (by kernel_rfl) (by kernel_rfl) (fun _ _ _ h => h) (yieldsIf_run (by kernel_rfl) (fun W _ => by kernel_rfl)) S0 ?_
                refine held_take (i := 2) (v := .bool false) (some 43) rfl rfl (by kernel_rfl) (by kernel_rfl) (by kernel_rfl) (fun _ _ _ h => h) (yieldsIf_move (by kernel_rfl) rfl (by kernel_rfl)) S0 ?_
                refine held_skip0 (i := 3) (some 44) rfl rfl (by kernel_rfl) (by kernel_rfl) (by kernel_rfl) (fun _ _ _ h => h) (by kernel_rfl) S0 ?_
                refine held_skip0 (i := 4) (some 45) rfl rfl (by kernel_rfl) (by kernel_rfl) (by kernel_rfl) (fun _ _ _ h => h) (by kernel_rfl) S0 ?_
                refine held_skip0 (i := 5) (some 46) rfl rfl (by kernel_rfl) (by kernel_rfl) (by kernel_rfl) (fun _ _ _ h => h) (by kernel_rfl) S0 ?_
                refine held_skip0 (i := 6) (some 47) rfl rfl (by kernel_rfl) (by kernel_rfl) (by kernel_rfl) (fun _ _ _ h => h) (by kernel_rfl) S0 ?_
                refine held_skip0 (i := 7) (some 48) rfl rfl (by kernel_rfl) (by kernel_rfl) (by kernel_rfl) (fun _ _ _ h => h) (by kernel_rfl) S0 ?_
                refine held_skip0 (i := 8) (some 49) rfl rfl (by kernel_rfl) (by kernel_rfl) (by kernel_rfl) (fun _ _ _ h => h) (by kernel_rfl) S0 ?_
                refine held_skip0 (i := 9) (some 50) rfl rfl (by kernel_rfl) (by kernel_rfl) (by kernel_rfl) (fun _ _ _ h => h) (by kernel_rfl) S0 ?_
                refine held_take (i := 10) (v := .bool false) (some 51) rfl rfl (by kernel_rfl) (by kernel_rfl) (by kernel_rfl) (fun _ _ _ h => h) (yieldsIf_run (by kernel_rfl) (fun W _ => by kernel_rfl)) S0 ?_
                refine wpAnyH_done (by kernel_rfl) ?_ _
                simp only [Act.put, List.setIfInBounds_toArray, List.set_cons_zero, List.set_cons_succ]
                have HS := Lib.hid S0
                clear S0
                go_wp2
                go_roundw
                case rel => exact ⟨1, by omega, by go_num, HS, Lib.hid ⟨fun j h hjk => by
                    obtain rfl : j = 0 := by omega
                    rw [← HX.out]
                    exact HP.out, fun j h hjk => absurd hjk (by omega)⟩⟩
                case measure => simp [intOf]; omega
              · obtain ⟨q, hq⟩ : ∃ q, k = q + 1 := ⟨k - 1, by omega⟩
                subst hq
                obtain ⟨bv2, ov2, hav2, _, _, _, r0, r1, r2⟩ := H.out.at' (k := q) (by omega)
                injection hav2 with e1
                injection e1 with e1 e2
                subst e1 e2
                obtain ⟨y, hy⟩ : ∃ y, y = xs[q] := ⟨_, rfl⟩
                rw [← hy] at r0 r1 r2
                have R0 := Lib.hid r0
                have R1 := Lib.hid r1
                have R2 := Lib.hid r2
                have HY := Lib.hid hy
                have hwq : IntKind.i64.wrap (q : Int) = (q : Int) := IntWalk.i64_in _ (by omega)
                have hk4 : (q : Int) < (xs.length : Int) := by omega
                have hk5 : (0 : Int) ≤ (q : Int) := by omega
                have hk6 : (0 : Int) < (q : Int) + 1 := by omega
                have hcast : ((q + 1 : Nat) : Int) = (q : Int) + 1 := by omega
                clear r0 r1 r2 hy
                refine wp_region_held (S := fun W => Gr w W ∧ Gr wb W) (by kernel_rfl) ?_
                have S0 : Gr w { wb with drawn := wb.drawn + 1 } ∧ Gr wb { wb with drawn := wb.drawn + 1 } := ⟨HG2.out.trans (Gr.drewN1 wb), Gr.drewN1 wb⟩
                obtain ⟨wd, hwd⟩ : ∃ wd : World, wd = { wb with drawn := wb.drawn + 1 } := ⟨_, rfl⟩
                rw [← hwd] at S0 ⊢
                clear hwd
                refine held_take (i := 0) (v := .int .i64 ((q + 1 : Nat) : Int)) (some 41) rfl rfl (by kernel_rfl) (by kernel_rfl) (by kernel_rfl) (fun _ _ _ h => h) (yieldsIf_move (by kernel_rfl) rfl (by kernel_rfl)) S0 ?_
                refine held_take (i := 1) (v := .bool true) (some 42) rfl rfl (by kernel_rfl) (by kernel_rfl) (by kernel_rfl) (fun _ _ _ h => h) (yieldsIf_run (by kernel_rfl) (fun W _ => by go_simp)) S0 ?_
                refine held_take (i := 2) (v := .bool true) (some 43) rfl rfl (by kernel_rfl) (by kernel_rfl) (by kernel_rfl) (fun _ _ _ h => h) (yieldsIf_move (by kernel_rfl) rfl (by kernel_rfl)) S0 ?_
                refine held_take (i := 3) (v := bvl x) (some 44) rfl rfl (by kernel_rfl) (by kernel_rfl) (by kernel_rfl) (fun _ _ _ h => h) (yieldsIf_cellG (by kernel_rfl) rfl (by kernel_rfl) (fun W h => hloadB0 W (later (Gr.below h.2) (Nat.le_refl _) T0.out) (later (Gr.below h.2) (Nat.le_refl _) T1.out) (later (Gr.below h.2) (Nat.le_refl _) T2.out))) S0 ?_
                refine held_take (i := 4) (v := .slice (some ⟨bv, ov, none⟩) xs.length cv) (some 45) rfl rfl (by kernel_rfl) (by kernel_rfl) (by kernel_rfl) (fun _ _ _ h => h) (yieldsIf_runG (by kernel_rfl) (fun W _ => by kernel_rfl)) S0 ?_
                refine held_take (i := 5) (v := .int .i64 ((q + 1 : Nat) : Int)) (some 46) rfl rfl (by kernel_rfl) (by kernel_rfl) (by kernel_rfl) (fun _ _ _ h => h) (yieldsIf_runG (by kernel_rfl) (fun W _ => by kernel_rfl)) S0 ?_
                refine held_take (i := 6) (v := .int .i64 (q : Int)) (some 47) rfl rfl (by kernel_rfl) (by kernel_rfl) (by kernel_rfl) (fun _ _ _ h => h) (yieldsIf_runG (by kernel_rfl) (fun W _ => by go_simp)) S0 ?_
                refine held_take (i := 7) (v := .pointer (some ⟨bv, ov + q * 3, none⟩)) (some 48) rfl rfl (by kernel_rfl) (by kernel_rfl) (by kernel_rfl) (fun _ _ _ h => h) (yieldsIf_runG (by kernel_rfl) (fun W _ => by go_simp)) S0 ?_
                refine held_take (i := 8) (v := bvl y) (some 49) rfl rfl (by kernel_rfl) (by kernel_rfl) (by kernel_rfl) (fun _ _ _ h => h) (yieldsIf_cellG (by kernel_rfl) rfl (by kernel_rfl) (fun W h => hloadBI W (later (Gr.below h.1) (Nat.le_refl _) R0.out) (later (Gr.below h.1) (Nat.le_refl _) R1.out) (later (Gr.below h.1) (Nat.le_refl _) R2.out))) S0 ?_
                refine held_enterG (i := 9) (some 50) (f := 109) (args := #[bvl x, bvl y]) (by kernel_rfl) rfl (by kernel_rfl) rfl (by kernel_rfl) (l09Before_any x y _) ?_ (fun c w' h => by obtain ⟨_, h, _⟩ := h; cases h) (fun w' h => by obtain ⟨_, h, _⟩ := h; cases h)
                rintro v w2 ⟨bb, he, hg, hbb⟩
                injection he with he
                subst he
                have S2 : Gr w w2 ∧ Gr wb w2 := ⟨S0.1.trans hg, S0.2.trans hg⟩
                refine ⟨S2, ?_⟩
                have HS2 := Lib.hid S2.1
                have HYO : Hid (BarOk y) := Lib.hid (by rw [HY.out]; exact HD.out.1 q (by omega) (by omega))
                have HBB : Hid (bb = true ↔ cmp3 x y < 0) := Lib.hid (hbb.trans (befS_cmp HP.out HYO.out))
                clear hg hbb
                cases bb with
                | true =>
                    refine held_take (i := 10) (v := .bool true) (some 51) rfl rfl (by kernel_rfl) (by kernel_rfl) (by kernel_rfl) (fun _ _ _ h => h) (yieldsIf_run (by kernel_rfl) (fun W _ => by kernel_rfl)) S2 ?_
                    refine wpAnyH_done (by kernel_rfl) ?_ _
                    simp only [Act.put, List.setIfInBounds_toArray, List.set_cons_zero, List.set_cons_succ]
                    clear S0 S2
                    go_wp2
                    go_ret
                    exact GrB.no HS2.out (fun h => by
                      have h2 := h.2.2 q (by omega)
                      rw [← HX.out, ← HY.out] at h2
                      have h3 := HBB.out
                      simp only [true_iff] at h3
                      exact h2 h3)
                | false =>
                    refine held_take (i := 10) (v := .bool false) (some 51) rfl rfl (by kernel_rfl) (by kernel_rfl) (by kernel_rfl) (fun _ _ _ h => h) (yieldsIf_run (by kernel_rfl) (fun W _ => by kernel_rfl)) S2 ?_
                    refine wpAnyH_done (by kernel_rfl) ?_ _
                    simp only [Act.put, List.setIfInBounds_toArray, List.set_cons_zero, List.set_cons_succ]
                    clear S0 S2
                    go_wp2
                    go_roundw
                    case rel => exact ⟨q + 2, by omega, by go_num, HS2, Lib.hid ⟨fun j h hjk => by
                      by_cases e : j = q + 1
                      · subst e
                        rw [← HX.out]
                        exact HP.out
                      · exact HD.out.1 j h (by omega), fun j h hjk => by
                      by_cases e : j = q
                      · subst e
                        rw [← HX.out, ← HY.out]
                        have h3 := HBB.out
                        simp only [Bool.false_eq_true, false_iff] at h3
                        exact Int.not_lt.1 h3
                      · exact HD.out.2 j h (by omega)⟩⟩
                    case measure => simp [intOf]; omega
            · have h3 : (x.2.2 != -1) = true := by simp [c3]
              by_cases c4 : x.2.1 ≤ x.2.2 ∧ x.2.2 ≤ 5
              · have I4 : ∀ W, Calls Try.prog 77 #[.int .i64 x.2.2, .int .i64 x.2.1, .int .i64 5] W (QW (.bool true) W) := fun W => spin_yes c4 W
                have HP : Hid (BarOk x) := Lib.hid ⟨c1, c2, Or.inr c4⟩
                clear c1 c2 c3 c4
                go_upto_region 9 with (go_at_call 77; (first | with_reducible refine (I1 _).mono ?_ | with_reducible refine (I2 _).mono ?_ | with_reducible refine (I4 _).mono ?_); rintro e w' ⟨rfl, rfl⟩)
                clear t0 t1 t2
                by_cases hk0 : k = 0
                · subst hk0
                  refine wp_region_held (S := fun W => Gr w W) (by kernel_rfl) ?_
                  have S0 := HG2.out.trans (Gr.drewN1 wb)
                  obtain ⟨wd, hwd⟩ : ∃ wd : World, wd = { wb with drawn := wb.drawn + 1 } := ⟨_, rfl⟩
                  rw [← hwd] at S0 ⊢
                  clear hwd
                  refine held_take (i := 0) (v := .int .i64 ((0 : Nat) : Int)) (some 41) rfl rfl (by kernel_rfl) (by kernel_rfl) (by kernel_rfl) (fun _ _ _ h => h) (yieldsIf_move (by kernel_rfl) rfl (by kernel_rfl)) S0 ?_
                  refine held_take (i := 1) (v := .bool false) (some 42) rfl rfl (by kernel_rfl) (by kernel_rfl) (by kernel_rfl) (fun _ _ _ h => h) (yieldsIf_run (by kernel_rfl) (fun W _ => by kernel_rfl)) S0 ?_
                  refine held_take (i := 2) (v := .bool false) (some 43) rfl rfl (by kernel_rfl) (by kernel_rfl) (by kernel_rfl) (fun _ _ _ h => h) (yieldsIf_move (by kernel_rfl) rfl (by kernel_rfl)) S0 ?_
                  refine held_skip0 (i := 3) (some 44) rfl rfl (by kernel_rfl) (by kernel_rfl) (by kernel_rfl) (fun _ _ _ h => h) (by kernel_rfl) S0 ?_
                  refine held_skip0 (i := 4) (some 45) rfl rfl (by kernel_rfl) (by kernel_rfl) (by kernel_rfl) (fun _ _ _ h => h) (by kernel_rfl) S0 ?_
                  refine held_skip0 (i := 5) (some 46) rfl rfl (by kernel_rfl) (by kernel_rfl) (by kernel_rfl) (fun _ _ _ h => h) (by kernel_rfl) S0 ?_
                  refine held_skip0 (i := 6) (some 47) rfl rfl (by kernel_rfl) (by kernel_rfl) (by kernel_rfl) (fun _ _ _ h => h) (by kernel_rfl) S0 ?_
                  refine held_skip0 (i := 7) (some 48) rfl rfl (by kernel_rfl) (by kernel_rfl) (by kernel_rfl) (fun _ _ _ h => h) (by kernel_rfl) S0 ?_
                  refine held_skip0 (i := 8) (some 49) rfl rfl (by kernel_rfl) (by kernel_rfl) (by kernel_rfl) (fun _ _ _ h => h) (by kernel_rfl) S0 ?_
                  refine held_skip0 (i := 9) (some 50) rfl rfl (by kernel_rfl) (by kernel_rfl) (by kernel_rfl) (fun _ _ _ h => h) (by kernel_rfl) S0 ?_
                  refine held_take (i := 10) (v := .bool false) (some 51) rfl rfl (by kernel_rfl) (by kernel_rfl) (by kernel_rfl) (fun _ _ _ h => h) (yieldsIf_run (by kernel_rfl) (fun W _ => by kernel_rfl)) S0 ?_
                  refine wpAnyH_done (by kernel_rfl) ?_ _
                  simp only [Act.put, List.setIfInBounds_toArray, List.set_cons_zero, List.set_cons_succ]
                  have HS := Lib.hid S0
                  clear S0
                  go_wp2
                  go_roundw
                  case rel => exact ⟨1, by omega, by go_num, HS, Lib.hid ⟨fun j h hjk => by
                      obtain rfl : j = 0 := by omega
                      rw [← HX.out]
                      exact HP.out, fun j h hjk => absurd hjk (by omega)⟩⟩
                  case measure => simp [intOf]; omega
                · obtain ⟨q, hq⟩ : ∃ q, k = q + 1 := ⟨k - 1, by omega⟩
                  subst hq
                  obtain ⟨bv2, ov2, hav2, _, _, _, r0, r1, r2⟩ := H.out.at' (k := q) (by omega)
                  injection hav2 with e1
                  injection e1 with e1 e2
                  subst e1 e2
                  obtain ⟨y, hy⟩ : ∃ y, y = xs[q] := ⟨_, rfl⟩
                  rw [← hy] at r0 r1 r2
                  have R0 := Lib.hid r0
                  have R1 := Lib.hid r1
                  have R2 := Lib.hid r2
                  have HY := Lib.hid hy
                  have hwq : IntKind.i64.wrap (q : Int) = (q : Int) := IntWalk.i64_in _ (by omega)
                  have hk4 : (q : Int) < (xs.length : Int) := by omega
                  have hk5 : (0 : Int) ≤ (q : Int) := by omega
                  have hk6 : (0 : Int) < (q : Int) + 1 := by omega
                  have hcast : ((q + 1 : Nat) : Int) = (q : Int) + 1 := by omega
                  clear r0 r1 r2 hy
                  refine wp_region_held (S := fun W => Gr w W ∧ Gr wb W) (by kernel_rfl) ?_
                  have S0 : Gr w { wb with drawn := wb.drawn + 1 } ∧ Gr wb { wb with drawn := wb.drawn + 1 } := ⟨HG2.out.trans (Gr.drewN1 wb), Gr.drewN1 wb⟩
                  obtain ⟨wd, hwd⟩ : ∃ wd : World, wd = { wb with drawn := wb.drawn + 1 } := ⟨_, rfl⟩
                  rw [← hwd] at S0 ⊢
                  clear hwd
                  refine held_take (i := 0) (v := .int .i64 ((q + 1 : Nat) : Int)) (some 41) rfl rfl (by kernel_rfl) (by kernel_rfl) (by kernel_rfl) (fun _ _ _ h => h) (yieldsIf_move (by kernel_rfl) rfl (by kernel_rfl)) S0 ?_
                  refine held_take (i := 1) (v := .bool true) (some 42) rfl rfl (by kernel_rfl) (by kernel_rfl) (by kernel_rfl) (fun _ _ _ h => h) (yieldsIf_run (by kernel_rfl) (fun W _ => by go_simp)) S0 ?_
                  refine held_take (i := 2) (v := .bool true) (some 43) rfl rfl (by kernel_rfl) (by kernel_rfl) (by kernel_rfl) (fun _ _ _ h => h) (yieldsIf_move (by kernel_rfl) rfl (by kernel_rfl)) S0 ?_
                  refine held_take (i := 3) (v := bvl x) (some 44) rfl rfl (by kernel_rfl) (by kernel_rfl) (by kernel_rfl) (fun _ _ _ h => h) (yieldsIf_cellG (by kernel_rfl) rfl (by kernel_rfl) (fun W h => hloadB0 W (later (Gr.below h.2) (Nat.le_refl _) T0.out) (later (Gr.below h.2) (Nat.le_refl _) T1.out) (later (Gr.below h.2) (Nat.le_refl _) T2.out))) S0 ?_
                  refine held_take (i := 4) (v := .slice (some ⟨bv, ov, none⟩) xs.length cv) (some 45) rfl rfl (by kernel_rfl) (by kernel_rfl) (by kernel_rfl) (fun _ _ _ h => h) (yieldsIf_runG (by kernel_rfl) (fun W _ => by kernel_rfl)) S0 ?_
                  refine held_take (i := 5) (v := .int .i64 ((q + 1 : Nat) : Int)) (some 46) rfl rfl (by kernel_rfl) (by kernel_rfl) (by kernel_rfl) (fun _ _ _ h => h) (yieldsIf_runG (by kernel_rfl) (fun W _ => by kernel_rfl)) S0 ?_
                  refine held_take (i := 6) (v := .int .i64 (q : Int)) (some 47) rfl rfl (by kernel_rfl) (by kernel_rfl) (by kernel_rfl) (fun _ _ _ h => h) (yieldsIf_runG (by kernel_rfl) (fun W _ => by go_simp)) S0 ?_
                  refine held_take (i := 7) (v := .pointer (some ⟨bv, ov + q * 3, none⟩)) (some 48) rfl rfl (by kernel_rfl) (by kernel_rfl) (by kernel_rfl) (fun _ _ _ h => h) (yieldsIf_runG (by kernel_rfl) (fun W _ => by go_simp)) S0 ?_
                  refine held_take (i := 8) (v := bvl y) (some 49) rfl rfl (by kernel_rfl) (by kernel_rfl) (by kernel_rfl) (fun _ _ _ h => h) (yieldsIf_cellG (by kernel_rfl) rfl (by kernel_rfl) (fun W h => hloadBI W (later (Gr.below h.1) (Nat.le_refl _) R0.out) (later (Gr.below h.1) (Nat.le_refl _) R1.out) (later (Gr.below h.1) (Nat.le_refl _) R2.out))) S0 ?_
                  refine held_enterG (i := 9) (some 50) (f := 109) (args := #[bvl x, bvl y]) (by kernel_rfl) rfl (by kernel_rfl) rfl (by kernel_rfl) (l09Before_any x y _) ?_ (fun c w' h => by obtain ⟨_, h, _⟩ := h; cases h) (fun w' h => by obtain ⟨_, h, _⟩ := h; cases h)
                  rintro v w2 ⟨bb, he, hg, hbb⟩
                  injection he with he
                  subst he
                  have S2 : Gr w w2 ∧ Gr wb w2 := ⟨S0.1.trans hg, S0.2.trans hg⟩
                  refine ⟨S2, ?_⟩
                  have HS2 := Lib.hid S2.1
                  have HYO : Hid (BarOk y) := Lib.hid (by rw [HY.out]; exact HD.out.1 q (by omega) (by omega))
                  have HBB : Hid (bb = true ↔ cmp3 x y < 0) := Lib.hid (hbb.trans (befS_cmp HP.out HYO.out))
                  clear hg hbb
                  cases bb with
                  | true =>
                      refine held_take (i := 10) (v := .bool true) (some 51) rfl rfl (by kernel_rfl) (by kernel_rfl) (by kernel_rfl) (fun _ _ _ h => h) (yieldsIf_run (by kernel_rfl) (fun W _ => by kernel_rfl)) S2 ?_
                      refine wpAnyH_done (by kernel_rfl) ?_ _
                      simp only [Act.put, List.setIfInBounds_toArray, List.set_cons_zero, List.set_cons_succ]
                      clear S0 S2
                      go_wp2
                      go_ret
                      exact GrB.no HS2.out (fun h => by
                        have h2 := h.2.2 q (by omega)
                        rw [← HX.out, ← HY.out] at h2
                        have h3 := HBB.out
                        simp only [true_iff] at h3
                        exact h2 h3)
                  | false =>
                      refine held_take (i := 10) (v := .bool false) (some 51) rfl rfl (by kernel_rfl) (by kernel_rfl) (by kernel_rfl) (fun _ _ _ h => h) (yieldsIf_run (by kernel_rfl) (fun W _ => by kernel_rfl)) S2 ?_
                      refine wpAnyH_done (by kernel_rfl) ?_ _
                      simp only [Act.put, List.setIfInBounds_toArray, List.set_cons_zero, List.set_cons_succ]
                      clear S0 S2
                      go_wp2
                      go_roundw
                      case rel => exact ⟨q + 2, by omega, by go_num, HS2, Lib.hid ⟨fun j h hjk => by
                        by_cases e : j = q + 1
                        · subst e
                          rw [← HX.out]
                          exact HP.out
                        · exact HD.out.1 j h (by omega), fun j h hjk => by
                        by_cases e : j = q
                        · subst e
                          rw [← HX.out, ← HY.out]
                          have h3 := HBB.out
                          simp only [Bool.false_eq_true, false_iff] at h3
                          exact Int.not_lt.1 h3
                        · exact HD.out.2 j h (by omega)⟩⟩
                      case measure => simp [intOf]; omega
              · have I4 : ∀ W, Calls Try.prog 77 #[.int .i64 x.2.2, .int .i64 x.2.1, .int .i64 5] W (QW (.bool false) W) := fun W => spin_no c4 W
                have HP : Hid (¬ BarOk x) := Lib.hid (fun h => h.2.2.elim c3 c4)
                clear c1 c2 c3 c4
                go_wp2_with (go_at_call 77; (first | with_reducible refine (I1 _).mono ?_ | with_reducible refine (I2 _).mono ?_ | with_reducible refine (I4 _).mono ?_); rintro e w' ⟨rfl, rfl⟩)
                go_ret
                exact GrB.no HG2.out (fun h => HP.out (by have := h.2.1 k hlt; rwa [← HX.out] at this))
          · have I2 : ∀ W, Calls Try.prog 77 #[.int .i64 x.2.1, .int .i64 0, .int .i64 5] W (QW (.bool false) W) := fun W => spin_no c2 W
            have HP : Hid (¬ BarOk x) := Lib.hid (fun h => c2 h.2.1)
            have I4 := I1
            clear c1 c2
            go_wp2_with (go_at_call 77; (first | with_reducible refine (I1 _).mono ?_ | with_reducible refine (I2 _).mono ?_ | with_reducible refine (I4 _).mono ?_); rintro e w' ⟨rfl, rfl⟩)
            go_ret
            exact GrB.no HG2.out (fun h => HP.out (by have := h.2.1 k hlt; rwa [← HX.out] at this))
        · have I1 : ∀ W, Calls Try.prog 77 #[.int .i64 x.1, .int .i64 0, .int .i64 5] W (QW (.bool false) W) := fun W => spin_no c1 W
          have HP : Hid (¬ BarOk x) := Lib.hid (fun h => c1 h.1)
          have I2 := I1
          have I4 := I1
          clear c1
          go_wp2_with (go_at_call 77; (first | with_reducible refine (I1 _).mono ?_ | with_reducible refine (I2 _).mono ?_ | with_reducible refine (I4 _).mono ?_); rintro e w' ⟨rfl, rfl⟩)
          go_ret
          exact GrB.no HG2.out (fun h => HP.out (by have := h.2.1 k hlt; rwa [← HX.out] at this))
      · have hkl : ¬ (k : Int) < (xs.length : Int) := by omega
        have HDD : Hid (BarsOk xs) := Lib.hid ⟨by omega, fun j h => HD.out.1 j h (by omega), fun j h => Int.not_lt.2 (HD.out.2 j h (by omega))⟩
        go_wp2
        go_ret
        exact GrB.yes HG.out HDD.out
end Go.Proofs.Ytchijefibiaphaa
