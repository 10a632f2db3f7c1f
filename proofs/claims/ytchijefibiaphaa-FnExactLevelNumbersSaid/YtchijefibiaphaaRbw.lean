/-
  RankBetween of the program by contract.
-/
import Derived.Test.YtchijefibiaphaaRbv
namespace Go.Proofs.Ytchijefibiaphaa
open Go.RowKit

set_option maxHeartbeats 1600000 in
set_option maxRecDepth 100000 in
theorem rankBetweenOf_any (p n q s : Int) (dv mv lv : Value) (ds : List Int) (ms : List (List (List Int))) (ls : List (List Int)) (w : World) (h : Fi 0 w dv mv lv ds ms ls) (hd : ds.length ≤ 1048576) (hm : Bd3 1048576 ms) (hl : Bd2 1048576 ls) :
    Calls Try.prog 48 #[.agg #[.int .i64 p, dv, mv, lv], .int .i64 n, .int .i64 q, .int .i64 s] w (NumW (fun x => RkBet p ds ms ls n.toNat q s x) (rkCode p ds ms ls n q s) w) := by
  have HX0 := Lib.hid (Fx.start (p := p) 67 h)
  have HCK := Lib.hid (checkCell_any p 0 n s dv mv lv ds ms ls _ HX0.out.fi hd hm hl)
  have c0 := HX0.out.c0
  have c1 := HX0.out.c1
  have c2 := HX0.out.c2
  have c3 := HX0.out.c3
  obtain ⟨kc, hkc⟩ : ∃ kc, kc = celCode p ds ms ls 0 n s := ⟨_, rfl⟩
  rw [← hkc] at HCK
  have HKE := Lib.hid hkc
  clear h hm hl hkc
  go_enter Try.func48, Try.ntmps48
  go_wp2_with fail
  refine HCK.out.mono ?_
  rintro e w1 ⟨rfl, hb1⟩
  have HX1 := Lib.hid (HX0.out.next hb1)
  clear hb1 c0 c1 c2 c3 HCK
  have c0 := HX1.out.c0
  have c1 := HX1.out.c1
  have c2 := HX1.out.c2
  have c3 := HX1.out.c3
  by_cases hk : kc = 0
  · subst hk
    have HCO : Hid (celCode p ds ms ls 0 n s = 0) := Lib.hid HKE.out.symm
    obtain ⟨hfil, _, hr, hcq⟩ := celCode_zero HKE.out.symm
    by_cases hq : 0 ≤ q ∧ q ≤ s
    · have HQ := Lib.hid hq
      obtain ⟨k, rfl⟩ : ∃ k : Nat, n = (k : Int) := ⟨n.toNat, by have := hr.1; omega⟩
      obtain ⟨a, rfl⟩ : ∃ a : Nat, q = (a : Int) := ⟨q.toNat, by have := hq.1; omega⟩
      obtain ⟨b, rfl⟩ : ∃ b : Nat, s = (b : Int) := ⟨s.toNat, by have := hcq.1; omega⟩
      have hkd : k < ds.length := by have := hr.2; omega
      have HB := Lib.hid (rankBetween_any p k a b dv mv lv ds ms ls _ HX1.out.fi hfil hkd (by omega) (by omega))
      clear hfil hr hcq hkd hq
      go_wp2_with fail
      refine (in_yes HQ.out _).mono ?_
      rintro e w' ⟨rfl, rfl⟩
      go_wp2_with fail
      refine HB.out.mono ?_
      rintro e w2 ⟨x, rfl, hb2, hx⟩
      have HX2 := Lib.hid (HX1.out.next hb2)
      have HN := Lib.hid hx
      clear hb2 hx HB
      go_wp2
      go_ret2
      exact ⟨x, 0, rfl, HX2.out.below, by rw [rkCode_ok HCO.out HQ.out]; exact NOut.of_ok (by rw [Int.toNat_natCast]; exact HN.out)⟩
    · have HQ := Lib.hid hq
      clear hfil hr hcq hq
      go_wp2_with fail
      refine (in_no HQ.out _).mono ?_
      rintro e w' ⟨rfl, rfl⟩
      go_wp2
      go_ret2
      exact ⟨0, 2, rfl, HX1.out.below, by rw [rkCode_out HCO.out HQ.out]; exact NOut.of_no (by decide)⟩
  · have hne2 : (kc != 0) = true := by simp [hk]
    have hne3 : (kc == 0) = false := by simp [hk]
    have HK := Lib.hid hk
    clear hk
    go_wp2
    go_ret2
    refine ⟨0, kc, rfl, HX1.out.below, ?_⟩
    rw [rkCode_no (by rw [← HKE.out]; exact HK.out), ← HKE.out]
    exact NOut.of_no HK.out
end Go.Proofs.Ytchijefibiaphaa
