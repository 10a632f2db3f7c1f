/-
  spec.l06Place by contract.
-/
import Derived.Test.YtpdkfidmmjlmnaaPlm
import Derived.Test.YtpdkfidmmjlmnaaHld
import Derived.Test.YtpdkfidmmjlmnaaStx
import Derived.Deep.Cut
import Derived.Deep.CutRange
import Derived.BigRegion
namespace Go.Proofs.Ytpdkfidmmjlmnaa
open Go.RowKit

theorem plS_bd {p p2 : Int} {ds : List Int} {ms : List (List (List Int))} {ds2 : List Int} {ms2 : List (List (List Int))} (h : IsCx p ds ms) (h2 : IsCx p2 ds2 ms2) (n : Int) (k : Nat) : plS ds ds2 n k ≤ 64 * k := by
  induction k with
  | zero => simp [plS]
  | succ k ih =>
    rw [plS]
    have h1 := h.1.dim k
    have h3 := dimZ_b h2 (n - (k : Int))
    have : (ds.getD k 0).toNat * (dimZ ds2 (n - (k : Int))).toNat ≤ 8 * 8 := Nat.mul_le_mul (by omega) (by omega)
    omega

set_option maxHeartbeats 3200000 in
set_option maxRecDepth 100000 in
theorem l06Place_any (p p2 : Int) (i a j b : Nat) (dv mv dv2 mv2 : Value) (ds : List Int) (ms : List (List (List Int))) (ds2 : List Int) (ms2 : List (List (List Int))) (w : World) (h : Cx 0 w dv mv ds ms) (h2 : Cx 0 w dv2 mv2 ds2 ms2) (hcx : IsCx p ds ms) (hcy : IsCx p2 ds2 ms2) (hi : i < ds.length) (ha : a ≤ 8) (hj : j ≤ 8) (hb : b ≤ 8) :
    Calls Try.prog 131 #[.agg #[.int .i64 p, dv, mv], .agg #[.int .i64 p2, dv2, mv2], .int .i64 (i : Int), .int .i64 (a : Int), .int .i64 (j : Int), .int .i64 (b : Int)] w (BR (.int .i64 ((plS ds ds2 ((i : Int) + (j : Int)) i + (a * (dimZ ds2 (j : Int)).toNat + b) : Nat) : Int)) w) := by
  obtain ⟨ad, cap, rfl⟩ := Sl.shape h.dims
  obtain ⟨am, capm, rfl⟩ := Sl.shape h.maps
  obtain ⟨ad2, cap2, rfl⟩ := Sl.shape h2.dims
  obtain ⟨am2, capm2, rfl⟩ := Sl.shape h2.maps
  obtain ⟨k1, k2⟩ := bx_two (p := p) (p2 := p2) 28 h h2
  have HX0 := Lib.hid k1
  have HY0 := Lib.hid k2
  obtain ⟨w1, hw1⟩ : ∃ w1, w1 = ((w.alloc (.cells #[.int .i64 p, .slice ad ds.length cap, .slice am ms.length capm] 28)).alloc (.cells #[.int .i64 p2, .slice ad2 ds2.length cap2, .slice am2 ms2.length capm2] 28)) := ⟨_, rfl⟩
  rw [← hw1] at HX0 HY0
  have HN : Hid (∀ W, Below w1.heap.size w1 W → Bx w W w.heap.size p (.slice ad ds.length cap) (.slice am ms.length capm) ds ms ∧ Bx w W (w.heap.size + 1) p2 (.slice ad2 ds2.length cap2) (.slice am2 ms2.length capm2) ds2 ms2) := Lib.hid (fun W hb => ⟨HX0.out.next hb, HY0.out.next hb⟩)
  have HCX := Lib.hid hcx
  have HCY := Lib.hid hcy
  have hl6 := hcx.1.len1
  have hl7 := hcy.1.len1
  clear h h2 k1 k2 hcx hcy
  go_enter Try.func131, Try.ntmps131
  go_upto_region 1 with fail
  rw [← hw1]
  clear hw1
  go_wp2
  go_loopw [13, 14] (fun s i0 wr => ∃ (k : Nat), k ≤ i ∧ i0 = .int .i64 k ∧ s = .int .i64 (plS ds ds2 ((i : Int) + (j : Int)) k : Nat) ∧ Hid (Below w1.heap.size w1 wr)) (fun _ i0 _ => i - (intOf i0).toNat)
  case atStart => exact ⟨0, Nat.zero_le _, rfl, rfl, Lib.hid (Below.refl _ _)⟩
  case round =>
    obtain ⟨k, hk, rfl, rfl, HB⟩ := hrel
    obtain ⟨wx, hwx⟩ : ∃ wx : World, wx = wr := ⟨_, rfl⟩
    subst hwx
    have hbd := plS_bd HCX.out HCY.out ((i : Int) + (j : Int)) k
    by_cases hlt : k < i
    · obtain ⟨s, hs⟩ : ∃ s, s = plS ds ds2 ((i : Int) + (j : Int)) k := ⟨_, rfl⟩
      rw [← hs] at hbd
      have HS := Lib.hid hs
      obtain ⟨x, hx⟩ : ∃ x, x = (ds.getD k 0).toNat := ⟨_, rfl⟩
      obtain ⟨y, hy⟩ : ∃ y, y = (dimZ ds2 ((i : Int) + (j : Int) - (k : Int))).toNat := ⟨_, rfl⟩
      have hd1 := HCX.out.1.dim k
      have hd2 := dimZ_b HCY.out ((i : Int) + (j : Int) - (k : Int))
      have HDX : Hid (dimZ ds (k : Int) = (x : Int)) := Lib.hid (by unfold dimZ; rw [if_pos ⟨by omega, by omega⟩, Int.toNat_natCast]; omega)
      have HDY : Hid (dimZ ds2 ((i : Int) + (j : Int) - (k : Int)) = (y : Int)) := Lib.hid (by omega)
      have hx8 : x ≤ 8 := by omega
      have hy8 : y ≤ 8 := by omega
      have hxy : x * y ≤ 64 := Nat.le_trans (Nat.mul_le_mul hx8 hy8) (by omega)
      have hm : (x : Int) * (y : Int) = ((x * y : Nat) : Int) := by simp
      have HSN : Hid (s + x * y = plS ds ds2 ((i : Int) + (j : Int)) (k + 1)) := Lib.hid (by rw [plS, hs, hx, hy])
      have HM := Lib.hid hm
      clear hs hx hy hd1 hd2 hm
      rw [← HS.out]
      go_upto_region 5 with fail
      refine wp_region_held (S := fun W => Below w1.heap.size w1 W) (by kernel_rfl) ?_
      have S0 : Below w1.heap.size w1 wx.drew := HB.out.drew
      refine held_take (i := 0) (v := .int .i64 (s : Int)) (some 20) rfl rfl (by kernel_rfl) (by kernel_rfl) (by kernel_rfl) (fun _ _ _ h => h) (yieldsIf_move (by kernel_rfl) rfl (by kernel_rfl)) S0 ?_
      refine held_take (i := 1) (v := .agg #[.int .i64 p, .slice ad ds.length cap, .slice am ms.length capm]) (some 21) rfl rfl (by kernel_rfl) (by kernel_rfl) (by kernel_rfl) (fun _ _ _ h => h) (yieldsIf_cell (by kernel_rfl) rfl (by kernel_rfl) (fun W h => hload3x (HN.out W h).1)) S0 ?_
      refine held_take (i := 2) (v := .int .i64 (k : Int)) (some 22) rfl rfl (by kernel_rfl) (by kernel_rfl) (by kernel_rfl) (fun _ _ _ h => h) (yieldsIf_move (by kernel_rfl) rfl (by kernel_rfl)) S0 ?_
      refine held_take (i := 4) (v := .agg #[.int .i64 p2, .slice ad2 ds2.length cap2, .slice am2 ms2.length capm2]) (some 24) rfl rfl (by kernel_rfl) (by kernel_rfl) (by kernel_rfl) (fun _ _ _ h => h) (yieldsIf_cell (by kernel_rfl) rfl (by kernel_rfl) (fun W h => hload3x (HN.out W h).2)) S0 ?_
      refine held_take (i := 5) (v := .int .i64 (i : Int)) (some 25) rfl rfl (by kernel_rfl) (by kernel_rfl) (by kernel_rfl) (fun _ _ _ h => h) (yieldsIf_move (by kernel_rfl) rfl (by kernel_rfl)) S0 ?_
      refine held_take (i := 6) (v := .int .i64 (j : Int)) (some 26) rfl rfl (by kernel_rfl) (by kernel_rfl) (by kernel_rfl) (fun _ _ _ h => h) (yieldsIf_move (by kernel_rfl) rfl (by kernel_rfl)) S0 ?_
      refine held_take (i := 7) (v := .int .i64 ((i : Int) + (j : Int))) (some 27) rfl rfl (by kernel_rfl) (by kernel_rfl) (by kernel_rfl) (fun _ _ _ h => h) (yieldsIf_bin (by kernel_rfl) rfl (by kernel_rfl) (by kernel_rfl) (fun _ => rfl) (haddA (IntWalk.i64_in _ (by omega)))) S0 ?_
      refine held_take (i := 8) (v := .int .i64 (k : Int)) (some 28) rfl rfl (by kernel_rfl) (by kernel_rfl) (by kernel_rfl) (fun _ _ _ h => h) (yieldsIf_move (by kernel_rfl) rfl (by kernel_rfl)) S0 ?_
      refine held_take (i := 9) (v := .int .i64 ((i : Int) + (j : Int) - (k : Int))) (some 29) rfl rfl (by kernel_rfl) (by kernel_rfl) (by kernel_rfl) (fun _ _ _ h => h) (yieldsIf_bin (by kernel_rfl) rfl (by kernel_rfl) (by kernel_rfl) (fun _ => rfl) (hsubA (IntWalk.i64_in _ (by omega)))) S0 ?_
      refine held_enter (i := 3) (some 23) (f := 91) (args := #[.agg #[.int .i64 p, .slice ad ds.length cap, .slice am ms.length capm], .int .i64 (k : Int)]) (by kernel_rfl) rfl rfl rfl (by kernel_rfl) (l01Dim_any p (k : Int) _ _ ds ms _ (HN.out _ S0).1.cx (by omega)) ?_ (fun c w' h => by cases h.1) (fun w' h => by cases h.1)
      rintro e1 W1 ⟨he1, hb1⟩
      injection he1 with he1
      subst he1
      have S1 : Below w1.heap.size w1 W1 := S0.trans (hb1.mono S0.size)
      refine ⟨S1, ?_⟩
      refine held_enter (i := 10) (some 30) (f := 91) (args := #[.agg #[.int .i64 p2, .slice ad2 ds2.length cap2, .slice am2 ms2.length capm2], .int .i64 ((i : Int) + (j : Int) - (k : Int))]) (by kernel_rfl) rfl rfl rfl (by kernel_rfl) (l01Dim_any p2 ((i : Int) + (j : Int) - (k : Int)) _ _ ds2 ms2 _ (HN.out _ S1).2.cx (by omega)) ?_ (fun c w' h => by cases h.1) (fun w' h => by cases h.1)
      rintro e2 W2 ⟨he2, hb2⟩
      injection he2 with he2
      subst he2
      have S2 : Below w1.heap.size w1 W2 := S1.trans (hb2.mono S1.size)
      refine ⟨S2, ?_⟩
      rw [HDX.out, HDY.out]
      refine held_take (i := 11) (v := .int .i64 ((x * y : Nat) : Int)) (some 31) rfl rfl (by kernel_rfl) (by kernel_rfl) (by kernel_rfl) (fun _ _ _ h => h) (yieldsIf_bin (by kernel_rfl) rfl (by kernel_rfl) (by kernel_rfl) (fun _ => rfl) (hmulA (by rw [HM.out]; exact IntWalk.i64_in _ (by omega)))) S2 ?_
      refine held_take (i := 12) (v := .int .i64 ((s + x * y : Nat) : Int)) (some 32) rfl rfl (by kernel_rfl) (by kernel_rfl) (by kernel_rfl) (fun _ _ _ h => h) (yieldsIf_bin (by kernel_rfl) rfl (by kernel_rfl) (by kernel_rfl) (fun _ => rfl) (haddA (by rw [show (s : Int) + ((x * y : Nat) : Int) = ((s + x * y : Nat) : Int) by simp]; exact IntWalk.i64_in _ (by omega)))) S2 ?_
      refine held_take (i := 13) (v := .int .i64 ((s + x * y : Nat) : Int)) (some 13) rfl rfl (by kernel_rfl) (by kernel_rfl) (by kernel_rfl) (fun _ _ _ h => h) (yieldsIf_assign (by kernel_rfl) rfl (by kernel_rfl)) S2 ?_
      refine wpAnyH_done (by kernel_rfl) ?_ _
      simp only [Act.put, List.setIfInBounds_toArray, List.set_cons_zero, List.set_cons_succ]
      have HB2 := Lib.hid S2
      clear S0 S1 S2 hb1 hb2
      rw [HSN.out]
      go_wp2
      go_roundw
      case rel => first | exact ⟨k + 1, by omega, by go_num, rfl, HB2⟩ | exact ⟨k + 1, ⟨by omega, by go_num, HB2⟩, rfl⟩ | ((repeat apply Exists.intro); exact ⟨⟨k + 1, by omega, by go_num, rfl, HB2⟩, rfl⟩)
      case measure => simp [intOf]; omega
    · have HKI : Hid (k = i) := Lib.hid (by omega)
      have hXX := HN.out _ HB.out
      have HXX := Lib.hid hXX
      have c0 := hXX.2.c0
      have c1 := hXX.2.c1
      have c2 := hXX.2.c2
      have hd2 := dimZ_b HCY.out (j : Int)
      obtain ⟨y, hy⟩ : ∃ y, y = (dimZ ds2 (j : Int)).toNat := ⟨_, rfl⟩
      have HDY : Hid (dimZ ds2 (j : Int) = (y : Int)) := Lib.hid (by omega)
      have HYE := Lib.hid hy
      have hy8 : y ≤ 8 := by omega
      obtain ⟨s, hs⟩ : ∃ s, s = plS ds ds2 ((i : Int) + (j : Int)) k := ⟨_, rfl⟩
      rw [← hs] at hbd
      have HS := Lib.hid hs
      have hay : a * y ≤ 64 := Nat.le_trans (Nat.mul_le_mul ha hy8) (by omega)
      have hm1 : IntKind.i64.wrap ((a : Int) * (y : Int)) = ((a * y : Nat) : Int) := by rw [show (a : Int) * (y : Int) = ((a * y : Nat) : Int) by simp]; exact IntWalk.i64_in _ (by omega)
      have hm2 : IntKind.i64.wrap ((s : Int) + ((a * y : Nat) : Int)) = ((s + a * y : Nat) : Int) := by rw [show (s : Int) + ((a * y : Nat) : Int) = ((s + a * y : Nat) : Int) by simp]; exact IntWalk.i64_in _ (by omega)
      have hm3 : IntKind.i64.wrap (((s + a * y : Nat) : Int) + (b : Int)) = ((s + a * y + b : Nat) : Int) := by rw [show ((s + a * y : Nat) : Int) + (b : Int) = ((s + a * y + b : Nat) : Int) by simp]; exact IntWalk.i64_in _ (by omega)
      have HM1 := Lib.hid hm1
      have HM2 := Lib.hid hm2
      have HM3 := Lib.hid hm3
      rw [← HS.out]
      clear hs hy hd2 hXX hm1 hm2 hm3
      go_wp2_with fail
      refine (l01Dim_any p2 (j : Int) _ _ ds2 ms2 _ HXX.out.2.cx (by omega)).mono ?_
      rintro e4 w4 ⟨rfl, hb4⟩
      have HX4 := Lib.hid (HXX.out.1.next hb4)
      have hm1 := HM1.out
      have hm2 := HM2.out
      have hm3 := HM3.out
      rw [HDY.out]
      clear hb4 c0 c1 c2
      go_wp2
      go_ret
      refine ⟨ret_int ?_, HX4.out.below⟩
      rw [← HYE.out, ← HKI.out, HS.out, HKI.out]
      omega
end Go.Proofs.Ytpdkfidmmjlmnaa
