/-
  Lists of bars compared: laws.eqBarS; AreBars of both sides by contract.
-/
import Derived.Test.YtchijefibiaphaaBrs
import Derived.Test.YtchijefibiaphaaVal
namespace Go.Proofs.Ytchijefibiaphaa
open Go.RowKit Go.Sort

theorem below_drewN1 (w : World) : Below w.heap.size w { w with drawn := w.drawn + 1 } := ⟨rfl, rfl, rfl, Nat.le_refl _, fun _ _ => rfl⟩
set_option maxHeartbeats 3200000 in
set_option maxRecDepth 100000 in
theorem eqB_true (va vb : Value) (xs : List B3) (w : World) (ha : Br 0 w va xs) (hb : Br 0 w vb xs) (hl : xs.length ≤ 1048576) : Calls Try.prog 31 #[va, vb] w (BR (.bool true) w) := by
  obtain ⟨aa, ca, rfl⟩ := ha.shape
  obtain ⟨ab, cb, rfl⟩ := hb.shape
  have HA := Lib.hid ha
  have HB := Lib.hid hb
  have hn : ((xs.length : Int) != (xs.length : Int)) = false := by simp
  clear ha hb
  go_enter Try.func31, Try.ntmps31
  go_wp2
  go_loopw [5] (fun i wr => ∃ (k : Nat), k ≤ xs.length ∧ i = .int .i64 k ∧ Hid (Below w.heap.size w wr)) (fun i _ => xs.length - (intOf i).toNat)
  case atStart => exact ⟨0, Nat.zero_le _, rfl, Lib.hid (Below.refl _ _)⟩
  case round =>
    obtain ⟨k, hk, rfl, HG⟩ := hrel
    obtain ⟨wx, hwx⟩ : ∃ wx : World, wx = wr := ⟨_, rfl⟩
    subst hwx
    by_cases hlt : k < xs.length
    · have hkl : (k : Int) < (xs.length : Int) := by omega
      obtain ⟨bv, ov, hav, _, _, _, p0, p1, p2⟩ := HA.out.at' (k := k) hlt
      obtain ⟨bv2, ov2, hav2, _, _, _, r0, r1, r2⟩ := HB.out.at' (k := k) hlt
      subst hav hav2
      obtain ⟨x, hx⟩ : ∃ x, x = xs[k] := ⟨_, rfl⟩
      rw [← hx] at p0 p1 p2 r0 r1 r2
      have P0 := Lib.hid p0
      have P1 := Lib.hid p1
      have P2 := Lib.hid p2
      have R0 := Lib.hid r0
      have R1 := Lib.hid r1
      have R2 := Lib.hid r2
      have S0 : Below w.heap.size w { wx with drawn := wx.drawn + 1 } := HG.out.trans ((below_drewN1 wx).mono HG.out.size)
      obtain ⟨wd, hwd⟩ : ∃ wd : World, wd = { wx with drawn := wx.drawn + 1 } := ⟨_, rfl⟩
      rw [← hwd] at S0
      clear p0 p1 p2 r0 r1 r2 hx
      go_wp2
      refine wp_region_held (S := fun W => Below w.heap.size w W) (by kernel_rfl) ?_
      rw [← hwd]
      clear hwd
      refine held_take (i := 0) (v := .slice (some ⟨bv, ov, none⟩) xs.length ca) (some 17) rfl rfl (by kernel_rfl) (by kernel_rfl) (by kernel_rfl) (fun _ _ _ h => h) (yieldsIf_move (by kernel_rfl) rfl (by kernel_rfl)) S0 ?_
      refine held_take (i := 1) (v := .int .i64 (k : Int)) (some 18) rfl rfl (by kernel_rfl) (by kernel_rfl) (by kernel_rfl) (fun _ _ _ h => h) (yieldsIf_move (by kernel_rfl) rfl (by kernel_rfl)) S0 ?_
      refine held_take (i := 2) (v := .pointer (some ⟨bv, ov + k * 3, none⟩)) (some 19) rfl rfl (by kernel_rfl) (by kernel_rfl) (by kernel_rfl) (fun _ _ _ h => h) (yieldsIf_run (by kernel_rfl) (fun W _ => by go_simp)) S0 ?_
      refine held_take (i := 3) (v := bvl x) (some 20) rfl rfl (by kernel_rfl) (by kernel_rfl) (by kernel_rfl) (fun _ _ _ h => h) (yieldsIf_cell (by kernel_rfl) rfl (by kernel_rfl) (fun W h => hloadBI W (later h (Nat.le_refl _) P0.out) (later h (Nat.le_refl _) P1.out) (later h (Nat.le_refl _) P2.out))) S0 ?_
      refine held_take (i := 4) (v := .slice (some ⟨bv2, ov2, none⟩) xs.length cb) (some 21) rfl rfl (by kernel_rfl) (by kernel_rfl) (by kernel_rfl) (fun _ _ _ h => h) (yieldsIf_move (by kernel_rfl) rfl (by kernel_rfl)) S0 ?_
      refine held_take (i := 5) (v := .int .i64 (k : Int)) (some 22) rfl rfl (by kernel_rfl) (by kernel_rfl) (by kernel_rfl) (fun _ _ _ h => h) (yieldsIf_move (by kernel_rfl) rfl (by kernel_rfl)) S0 ?_
      refine held_take (i := 6) (v := .pointer (some ⟨bv2, ov2 + k * 3, none⟩)) (some 23) rfl rfl (by kernel_rfl) (by kernel_rfl) (by kernel_rfl) (fun _ _ _ h => h) (yieldsIf_run (by kernel_rfl) (fun W _ => by go_simp)) S0 ?_
      refine held_take (i := 7) (v := bvl x) (some 24) rfl rfl (by kernel_rfl) (by kernel_rfl) (by kernel_rfl) (fun _ _ _ h => h) (yieldsIf_cell (by kernel_rfl) rfl (by kernel_rfl) (fun W h => hloadBI W (later h (Nat.le_refl _) R0.out) (later h (Nat.le_refl _) R1.out) (later h (Nat.le_refl _) R2.out))) S0 ?_
      refine held_enter (i := 8) (some 25) (f := 40) (args := #[bvl x, bvl x]) (by kernel_rfl) rfl rfl rfl (by kernel_rfl) (eqBar_any x _) ?_ (fun c w' h => by cases h.1) (fun w' h => by cases h.1)
      rintro v w2 ⟨he, hg⟩
      injection he with he
      subst he
      have S2 := S0.trans (hg.mono S0.size)
      refine ⟨S2, ?_⟩
      refine held_take (i := 9) (v := .bool false) (some 26) rfl rfl (by kernel_rfl) (by kernel_rfl) (by kernel_rfl) (fun _ _ _ h => h) (yieldsIf_run (by kernel_rfl) (fun W _ => by kernel_rfl)) S2 ?_
      refine wpAnyH_done (by kernel_rfl) ?_ _
      simp only [Act.put, List.setIfInBounds_toArray, List.set_cons_zero, List.set_cons_succ]
      have HS := Lib.hid S2
      clear S0 S2 hg
      go_wp2
      go_roundw
      case rel => exact ⟨k + 1, by omega, by go_num, HS⟩
      case measure => simp [intOf]; omega
    · have hkl : ¬ (k : Int) < (xs.length : Int) := by omega
      go_wp2
      go_ret
      exact ⟨rfl, HG.out⟩

theorem bools_eq {P : Prop} {a b : Bool} (h : a = true ↔ P) (k : b = true ↔ P) : a = b := by
  cases a <;> cases b <;> simp_all
theorem arBars_any (v : Value) (xs : List B3) (w : World) (h : Br 0 w v xs) (hl : xs.length ≤ 1048576) : Calls Try.prog 30 #[v] w (VrB (fun b => b = true ↔ BarsOk xs) w) :=
  (areBars_any v xs w h hl).mono fun _ _ ⟨b, he, hg, hb⟩ => ⟨b, he, hg.below, hb⟩
set_option maxHeartbeats 400000 in
theorem spArBars_any (v : Value) (xs : List B3) (w : World) (h : Br 0 w v xs) (hl : xs.length ≤ 1048576) : Calls Try.prog 28 #[v] w (VrB (fun b => b = true ↔ BarsOk xs) w) := by
  have H := Lib.hid (l09Are_any v xs w h hl)
  clear h
  go_enter Try.func28, Try.ntmps28
  go_wp2_with fail
  refine H.out.mono ?_
  rintro e w2 ⟨b, rfl, hg, hb⟩
  have HG := Lib.hid hg
  have HB := Lib.hid hb
  clear hg hb
  go_wp2
  go_ret
  exact ⟨b, rfl, HG.out.below, HB.out⟩
end Go.Proofs.Ytchijefibiaphaa
