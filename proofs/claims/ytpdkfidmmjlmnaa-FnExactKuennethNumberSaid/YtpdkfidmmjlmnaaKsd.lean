/-
  sumOverDegrees of lists of vectors: by their lengths.
-/
import Derived.Test.YtpdkfidmmjlmnaaTdm
namespace Go.Proofs.Ytpdkfidmmjlmnaa
open Go.RowKit

/-- A slice of slices with these lengths. -/
def Lq (w : World) (v : Value) (ns : List Int) : Prop := Sl 0 (fun _ u (x : Int) => ∃ (m : Nat) (a : Option Addr) (c : Nat), x = (m : Int) ∧ u = .slice a m c) w v ns
theorem Lq.below {w w' : World} {v : Value} {ns : List Int} (h : Lq w v ns) (hb : Below w.heap.size w w') : Lq w' v ns := by
  rcases h with h | ⟨b, o, cap, hv, hlo, hpos, hc⟩
  · exact Or.inl h
  · refine Or.inr ⟨b, o, cap, hv, hlo, hpos, fun k hk => ?_⟩
    obtain ⟨u, hu, hr⟩ := hc k hk
    exact ⟨u, later hb (Nat.le_refl _) hu, hr⟩

theorem knMul_any {m1 m2 : Nat} {z : Int} (a1 : Option Addr) (c1 : Nat) (a2 : Option Addr) (c2 : Nat) (hz : z = (m1 : Int) * (m2 : Int)) (h0 : 0 ≤ z ∧ z ≤ 64) (w : World) : Calls Try.prog 133 #[.slice a1 m1 c1, .slice a2 m2 c2] w (QW (.int .i64 z) w) := by
  have hmul : IntKind.i64.wrap ((m1 : Int) * (m2 : Int)) = z := by rw [← hz]; exact IntWalk.i64_in _ (by omega)
  clear hz
  go_enter Try.func133, Try.ntmps133
  go_wp2
  go_ret
  exact ⟨rfl, rfl⟩

set_option maxHeartbeats 1600000 in
set_option maxRecDepth 100000 in
theorem sumVec_any (n : Nat) (v v2 : Value) (ds ds2 : List Int) (w : World) (h : Lq w v ds) (h2 : Lq w v2 ds2) (hl : ds.length ≤ 100) (hl2 : ds2.length ≤ 100) (hn : n ≤ 200) (hb : ∀ n, 0 ≤ dimZ ds n ∧ dimZ ds n ≤ 8) (hb2 : ∀ n, 0 ≤ dimZ ds2 n ∧ dimZ ds2 n ≤ 8) :
    Calls Try.prog 134 #[v, v2, .int .i64 (n : Int), .func (.func 133) #[] #[]] w (QW (.int .i64 (tdN ds ds2 n)) w) := by
  rw [← tdS_full]
  obtain ⟨ad, cap, rfl⟩ := Sl.shape h
  obtain ⟨ad2, cap2, rfl⟩ := Sl.shape h2
  have H := Lib.hid h
  have H2 := Lib.hid h2
  have HB := Lib.hid hb
  have HB2 := Lib.hid hb2
  clear h h2 hb hb2
  go_enter Try.func134, Try.ntmps134
  go_wp2
  go_loop [9, 15] (fun s i => ∃ k : Nat, k ≤ ds.length ∧ i = .int .i64 k ∧ s = .int .i64 (tdS ds ds2 n k)) (fun _ i => ds.length - (intOf i).toNat)
  case atStart => exact ⟨0, Nat.zero_le _, rfl, rfl⟩
  case round =>
    obtain ⟨k, hk, rfl, rfl⟩ := hrel
    by_cases hlt : k < ds.length
    · have hkl : (k : Int) < (ds.length : Int) := by omega
      refine Sl.cases H.out (fun _ _ hx _ => absurd hlt (by simp [hx])) (fun bt ot ct2 hvt _ _ hcl => ?_)
      injection hvt with e1 e2 e3
      clear e2
      subst e1 e3
      obtain ⟨u, hu, hru⟩ := hcl k hlt
      obtain ⟨x, hx⟩ : ∃ x, x = ds[k] := ⟨_, rfl⟩
      obtain ⟨m1, a1, c1, hxm, hue⟩ := hru
      subst hue
      have hux : w.cell? ⟨bt, ot + k, none⟩ = some (.slice a1 m1 c1) := hu
      rw [← hx] at hxm
      have HXD : Hid (dimZ ds (k : Int) = x) := Lib.hid (by rw [hx, dimZ_in rfl hlt])
      have hsb := tdS_bd HB.out HB2.out n k
      have hk1 : (k : Int) ≤ 100 := by omega
      have hsub : IntKind.i64.wrap ((n : Int) - (k : Int)) = (n : Int) - (k : Int) := IntWalk.i64_in _ (by omega)
      have hsl : IntKind.i64.wrap ((ds2.length : Int) - 1) = (ds2.length : Int) - 1 := IntWalk.i64_in _ (by omega)
      obtain ⟨s, hs⟩ : ∃ s, s = tdS ds ds2 n k := ⟨_, rfl⟩
      rw [← hs] at hsb ⊢
      have HS := Lib.hid hs
      clear hs hx hcl hu
      by_cases hj : 0 ≤ (n : Int) - (k : Int) ∧ (n : Int) - (k : Int) ≤ (ds2.length : Int) - 1
      · have HJ := Lib.hid hj
        have hj2 : n - k < ds2.length := by omega
        have hj3 : (n : Int) - (k : Int) = ((n - k : Nat) : Int) := by omega
        obtain ⟨y, hy⟩ : ∃ y, y = ds2[n - k] := ⟨_, rfl⟩
        refine Sl.cases H2.out (fun _ _ hx _ => absurd hj2 (by simp [hx])) (fun bt2 ot2 ct3 hvt _ _ hcl => ?_)
        injection hvt with e1 e2 e3
        clear e2
        subst e1 e3
        obtain ⟨u, hu, hru⟩ := hcl (n - k) hj2
        obtain ⟨m2, a2, c2, hym, hue⟩ := hru
        subst hue
        have huy : w.cell? ⟨bt2, ot2 + (n - k), none⟩ = some (.slice a2 m2 c2) := hu
        rw [← hy] at hym
        have HYD : Hid (dimZ ds2 ((n : Int) - (k : Int)) = y) := Lib.hid (by rw [hy, dimZ_in hj3 hj2])
        obtain ⟨z, hz⟩ : ∃ z, z = x * y := ⟨_, rfl⟩
        have hzb : 0 ≤ z ∧ z ≤ 64 := by have := td_term HB.out HB2.out (k : Int) ((n : Int) - (k : Int)); rw [HXD.out, HYD.out, ← hz] at this; exact this
        have HZ := Lib.hid hz
        have HST : Hid (tdS ds ds2 n (k + 1) = s + z) := Lib.hid (by rw [tdS, HXD.out, HYD.out, ← HS.out, ← hz])
        have hi2 : (0 : Int) ≤ (n : Int) - (k : Int) := by omega
        have hi3 : (n : Int) - (k : Int) < (ds2.length : Int) := by omega
        have hi4 : ((n : Int) - (k : Int)).toNat = n - k := by omega
        have HZM : Hid (z = (m1 : Int) * (m2 : Int)) := Lib.hid (by rw [hz, hxm, hym])
        clear hy hcl hz hj hj3 hu
        go_wp2_with fail
        refine (in_yes HJ.out _).mono ?_
        rintro ee w' ⟨rfl, rfl⟩
        go_wp2_with fail
        refine (knMul_any a1 c1 a2 c2 HZM.out hzb _).mono ?_
        rintro ee w' ⟨rfl, rfl⟩
        go_wp2
        go_round
        case rel => exact ⟨k + 1, by omega, by go_num, by rw [HST.out]⟩
        case measure => simp [intOf]; omega
      · have HJ := Lib.hid hj
        have HST : Hid (tdS ds ds2 n (k + 1) = s) := Lib.hid (by rw [tdS, dimZ_out hj, Int.mul_zero, Int.add_zero, HS.out])
        clear hj
        go_wp2_with fail
        refine (in_no HJ.out _).mono ?_
        rintro ee w' ⟨rfl, rfl⟩
        go_wp2
        go_round
        case rel => exact ⟨k + 1, by omega, by go_num, by rw [HST.out]⟩
        case measure => simp [intOf]; omega
    · have HK : Hid (k = ds.length) := Lib.hid (by omega)
      go_wp2
      go_ret
      exact ⟨ret_int (by rw [HK.out]), rfl⟩
end Go.Proofs.Ytpdkfidmmjlmnaa
