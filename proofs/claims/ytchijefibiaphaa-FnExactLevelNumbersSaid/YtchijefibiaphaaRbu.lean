/-
  The levels' list of the program by contract.
-/
import Derived.Test.YtchijefibiaphaaRbe
import Derived.Test.YtchijefibiaphaaBot
import Derived.Test.YtchijefibiaphaaStx
namespace Go.Proofs.Ytchijefibiaphaa
open Go.RowKit

/-- A list of the levels below m. -/
def Nd (p : Int) (ds : List Int) (ms : List (List (List Int))) (ls : List (List Int)) (k : Nat) : Nat → World → Value → Prop
  | 0, _, v => v = .pointer none
  | m + 1, w, v => ∃ (g : Nat) (cv bv bl : Value) (A B : List Lin.V), v = .pointer (some ⟨g, 0, none⟩) ∧ w.cell? ⟨g, 0, none⟩ = some (.int .i64 (m : Int)) ∧ w.cell? ⟨g, 1, none⟩ = some cv ∧ w.cell? ⟨g, 2, none⟩ = some bv ∧ w.cell? ⟨g, 3, none⟩ = some bl ∧ Vs 0 w cv A ∧ Vs 0 w bv B ∧
      SpF p (dimN ds (k : Int)) (ZcD p ds ms ls k (m : Int) (-1)) A ∧ SpF p (dimN ds (k : Int)) (Lin.Sp p (bdL p ds ms ls k (m : Int))) B ∧ Nd p ds ms ls k m w bl
theorem Nd.below {p : Int} {ds : List Int} {ms : List (List (List Int))} {ls : List (List Int)} {k : Nat} {w w' : World} (hb : Below w.heap.size w w') : ∀ {m : Nat} {v : Value}, Nd p ds ms ls k m w v → Nd p ds ms ls k m w' v
  | 0, _, h => h
  | _ + 1, _, ⟨g, cv, bv, bl, A, B, hv, h0, h1, h2, h3, ha, hb2, hz, hbd, hn⟩ => ⟨g, cv, bv, bl, A, B, hv, later hb (Nat.le_refl _) h0, later hb (Nat.le_refl _) h1, later hb (Nat.le_refl _) h2, later hb (Nat.le_refl _) h3, ha.below hb, hb2.below hb, hz, hbd, Nd.below hb hn⟩
theorem Nd.shape {p : Int} {ds : List Int} {ms : List (List (List Int))} {ls : List (List Int)} {k : Nat} {w : World} : ∀ {m : Nat} {v : Value}, Nd p ds ms ls k m w v → ∃ pa, v = .pointer pa
  | 0, _, h => ⟨_, h⟩
  | _ + 1, _, ⟨_, _, _, _, _, _, hv, _⟩ => ⟨_, hv⟩
def NdR (p : Int) (ds : List Int) (ms : List (List (List Int))) (ls : List (List Int)) (k m : Nat) (w : World) (e : Ending) (w' : World) : Prop := ∃ v, e = .returned v ∧ Nd p ds ms ls k m w' v ∧ Below w.heap.size w w'

set_option maxHeartbeats 6400000 in
set_option maxRecDepth 100000 in
theorem levelsUpTo_any (p : Int) (k s : Nat) (dv mv lv : Value) (ds : List Int) (ms : List (List (List Int))) (ls : List (List Int)) (w : World) (h : Fi 0 w dv mv lv ds ms ls) (hf : IsFil p ds ms ls) (hk : k < ds.length) (hs : s ≤ 5) :
    Calls Try.prog 125 #[.agg #[.int .i64 p, dv, mv, lv], .int .i64 (k : Int), .int .i64 (s : Int)] w (NdR p ds ms ls k (s + 1) w) := by
  have hp1 := hf.1.1.prime.lo1
  have HF := Lib.hid hf
  have hl6 := hf.1.1.len1
  have hd8 := (dimN_le8 hf.1 k).1
  obtain ⟨w1, hw1⟩ : ∃ w1, w1 = w.alloc (.cells #[.int .i64 p, dv, mv, lv] 67) := ⟨_, rfl⟩
  have HX0 : Hid (Fx w w1 w.heap.size p dv mv lv ds ms ls) := Lib.hid (by rw [hw1]; exact Fx.start _ h)
  have HNX : Hid (∀ W, Below w1.heap.size w1 W → Fx w W w.heap.size p dv mv lv ds ms ls) := Lib.hid (fun W hb => HX0.out.next hb)
  have hw5 : IntKind.i64.wrap ((s : Int) + 1) = (s : Int) + 1 := IntWalk.i64_in _ (by omega)
  have HZ : Hid (∀ (m : Nat), m ≤ 5 → ∀ W, Below w1.heap.size w1 W → Calls Try.prog 155 #[.agg #[.int .i64 p, dv, mv, lv], .int .i64 ((m : Int) + 1), .int .i64 (k : Int), .int .i64 (m : Int)] W (VsR (SpF p (dimN ds (k : Int)) (ZcD p ds ms ls k (m : Int) (-1))) W)) := Lib.hid (fun m hm W hW => by
    have := approximateSpace_any p k ((m : Int) + 1) (m : Int) dv mv lv ds ms ls W (HNX.out W hW).fi HF.out hk (by omega) (by omega)
    rwa [Int.toNat_natCast, show (m : Int) - ((m : Int) + 1) = -1 by omega] at this)
  have HU : Hid (∀ (m : Nat), m ≤ 5 → ∀ W, Below w1.heap.size w1 W → Calls Try.prog 155 #[.agg #[.int .i64 p, dv, mv, lv], .int .i64 0, .int .i64 ((k : Int) + 1), .int .i64 (m : Int)] W (VsR (UpP p ds ms ls (k + 1) (m : Int) (m : Int)) W)) := Lib.hid (fun m hm W hW => by
    by_cases hkl : k + 1 < ds.length
    · have := approximateSpace_any p (k + 1) 0 (m : Int) dv mv lv ds ms ls W (HNX.out W hW).fi HF.out hkl (by omega) (by omega)
      rw [Int.toNat_natCast, show (m : Int) - 0 = (m : Int) by omega, show ((k + 1 : Nat) : Int) = (k : Int) + 1 by omega] at this
      exact this.mono (fun e w' ⟨s, L, h1, h2, h3, h4⟩ => ⟨s, L, h1, h2, h3, fun _ => by rw [show ((k + 1 : Nat) : Int) = (k : Int) + 1 by omega]; exact h4, fun hn => absurd hkl hn⟩)
    · have := approximateSpace_out p ((k : Int) + 1) 0 (m : Int) dv mv lv ds ms ls W (HNX.out W hW).fi (by omega) (by omega)
      exact this.mono (fun e w' ⟨s, L, h1, h2, h3, h4⟩ => ⟨s, L, h1, h2, h3, fun hn => absurd hn hkl, fun _ => h4⟩))
  have HD : Hid (∀ (m : Nat) W sl R, Below w1.heap.size w1 W → Vs 0 W sl R → UpP p ds ms ls (k + 1) (m : Int) (m : Int) R → Calls Try.prog 157 #[.agg #[.int .i64 p, dv, mv], .int .i64 ((k : Int) + 1), sl] W (VsR (fun M => M = dimgs p ds ms (k + 1) R) W)) := Lib.hid (fun m W sl R hW hV hR => by
    by_cases hkl : k + 1 < ds.length
    · have hR1 := hR.1 hkl
      have hs := hR.short HF.out.1
      have := differentialsOf_s p (k + 1) sl R dv mv ds ms W (HNX.out W hW).fi.cx HF.out.1 hkl (by omega) hV hR1.1.md hR1.2.1 (by omega)
      rw [show ((k + 1 : Nat) : Int) = (k : Int) + 1 by omega] at this
      unfold dimgs
      rw [show ((k + 1 : Nat) : Int) = (k : Int) + 1 by omega]
      exact this
    · have hR0 := hR.2 hkl
      subst hR0
      exact differentialsOf_nil p ((k : Int) + 1) sl dv mv ds ms W (HNX.out W hW).fi.cx hV (by omega))
  have HK1 : Hid (∀ w, (binOp .add 2 (.int .i64 (k : Int)) (.int .i64 1)).run Try.prog w = .ok (.int .i64 ((k : Int) + 1)) w) := Lib.hid (fun w => haddI (a := (k : Int)) (b := 1) (by omega) (by omega) w)
  have HB0 : Hid (Below w1.heap.size w1 w1) := Lib.hid (Below.refl _ _)
  have HN0 : Hid (Nd p ds ms ls k 0 w1 (.pointer none)) := Lib.hid rfl
  clear h hf
  go_enter Try.func125, Try.ntmps125
  go_wp2_with (fail)
  rw [← hw1]
  clear hw1
  go_loopw [7, 8, 11] (fun nv _ i wr => ∃ (m : Nat), m ≤ s + 1 ∧ i = .int .i64 (m : Int) ∧ Hid (Below w1.heap.size w1 wr) ∧ Hid (Nd p ds ms ls k m wr nv)) (fun _ _ i _ => s + 1 - (intOf i).toNat)
  case atStart => exact ⟨0, Nat.zero_le _, rfl, HB0, HN0⟩
  case round =>
    clear HB0 HN0
    obtain ⟨m, hm, rfl, HB, HN⟩ := hrel
    obtain ⟨np, hnv⟩ := HN.out.shape
    subst hnv
    obtain ⟨wx, hwx⟩ : ∃ wx : World, wx = wr := ⟨_, rfl⟩
    subst hwx
    by_cases hlt : m < s + 1
    · have hml : (m : Int) < (s : Int) + 1 := by omega
      have HM1 : Hid (∀ w, (binOp .add 2 (.int .i64 (m : Int)) (.int .i64 1)).run Try.prog w = .ok (.int .i64 ((m : Int) + 1)) w) := Lib.hid (fun w => haddI (a := (m : Int)) (b := 1) (by omega) (by omega) w)
      go_wp2_with fail
      refine wp_region_held (S := fun W => Below w1.heap.size w1 W) (by kernel_rfl) ?_
      have S0 : Below w1.heap.size w1 wx.drew := HB.out.drew
      refine held_take (i := 0) (v := (.int .i64 (m : Int))) (some 14) rfl rfl (by kernel_rfl) (by kernel_rfl) (by kernel_rfl) (fun _ _ _ h => h) (yieldsIf_move (by kernel_rfl) rfl (by kernel_rfl)) S0 ?_
      refine held_take (i := 1) (v := (.agg #[.int .i64 p, dv, mv, lv])) (some 15) rfl rfl (by kernel_rfl) (by kernel_rfl) (by kernel_rfl) (fun _ _ _ h => h) (yieldsIf_cell (by kernel_rfl) rfl (by kernel_rfl) (fun W h => hloadF W (HNX.out W h).c0 (HNX.out W h).c1 (HNX.out W h).c2 (HNX.out W h).c3)) S0 ?_
      refine held_take (i := 2) (v := (.int .i64 (m : Int))) (some 16) rfl rfl (by kernel_rfl) (by kernel_rfl) (by kernel_rfl) (fun _ _ _ h => h) (yieldsIf_move (by kernel_rfl) rfl (by kernel_rfl)) S0 ?_
      refine held_take (i := 3) (v := (.int .i64 ((m : Int) + 1))) (some 17) rfl rfl (by kernel_rfl) (by kernel_rfl) (by kernel_rfl) (fun _ _ _ h => h) (yieldsIf_bin (by kernel_rfl) rfl (by kernel_rfl) (by kernel_rfl) (fun _ => rfl) HM1.out) S0 ?_
      refine held_take (i := 4) (v := (.int .i64 (k : Int))) (some 18) rfl rfl (by kernel_rfl) (by kernel_rfl) (by kernel_rfl) (fun _ _ _ h => h) (yieldsIf_move (by kernel_rfl) rfl (by kernel_rfl)) S0 ?_
      refine held_take (i := 5) (v := (.int .i64 (m : Int))) (some 19) rfl rfl (by kernel_rfl) (by kernel_rfl) (by kernel_rfl) (fun _ _ _ h => h) (yieldsIf_move (by kernel_rfl) rfl (by kernel_rfl)) S0 ?_
      refine held_take (i := 7) (v := (.pointer (some ⟨w.heap.size, 0, none⟩))) (some 21) rfl rfl (by kernel_rfl) (by kernel_rfl) (by kernel_rfl) (fun _ _ _ h => h) (yieldsIf_run (by kernel_rfl) (fun W _ => by kernel_rfl)) S0 ?_
      refine held_take (i := 8) (v := (.pointer (some ⟨w.heap.size, 0, none⟩))) (some 22) rfl rfl (by kernel_rfl) (by kernel_rfl) (by kernel_rfl) (fun _ _ _ h => h) (yieldsIf_run (by kernel_rfl) (fun W _ => by kernel_rfl)) S0 ?_
      refine held_take (i := 9) (v := (.int .i64 p)) (some 23) rfl rfl (by kernel_rfl) (by kernel_rfl) (by kernel_rfl) (fun _ _ _ h => h) (yieldsIf_cell (by kernel_rfl) rfl (by kernel_rfl) (fun W h => hload W (HNX.out W h).c0)) S0 ?_
      refine held_take (i := 10) (v := (.pointer (some ⟨w.heap.size, 0, none⟩))) (some 24) rfl rfl (by kernel_rfl) (by kernel_rfl) (by kernel_rfl) (fun _ _ _ h => h) (yieldsIf_run (by kernel_rfl) (fun W _ => by kernel_rfl)) S0 ?_
      refine held_take (i := 11) (v := (.agg #[.int .i64 p, dv, mv])) (some 25) rfl rfl (by kernel_rfl) (by kernel_rfl) (by kernel_rfl) (fun _ _ _ h => h) (yieldsIf_cell (by kernel_rfl) rfl (by kernel_rfl) (fun W h => hloadC W (HNX.out W h).c0 (HNX.out W h).c1 (HNX.out W h).c2)) S0 ?_
      refine held_take (i := 12) (v := (.int .i64 (k : Int))) (some 26) rfl rfl (by kernel_rfl) (by kernel_rfl) (by kernel_rfl) (fun _ _ _ h => h) (yieldsIf_move (by kernel_rfl) rfl (by kernel_rfl)) S0 ?_
      refine held_take (i := 13) (v := (.int .i64 ((k : Int) + 1))) (some 27) rfl rfl (by kernel_rfl) (by kernel_rfl) (by kernel_rfl) (fun _ _ _ h => h) (yieldsIf_bin (by kernel_rfl) rfl (by kernel_rfl) (by kernel_rfl) (fun _ => rfl) HK1.out) S0 ?_
      refine held_take (i := 14) (v := (.agg #[.int .i64 p, dv, mv, lv])) (some 28) rfl rfl (by kernel_rfl) (by kernel_rfl) (by kernel_rfl) (fun _ _ _ h => h) (yieldsIf_cell (by kernel_rfl) rfl (by kernel_rfl) (fun W h => hloadF W (HNX.out W h).c0 (HNX.out W h).c1 (HNX.out W h).c2 (HNX.out W h).c3)) S0 ?_
      refine held_take (i := 15) (v := (.int .i64 (k : Int))) (some 29) rfl rfl (by kernel_rfl) (by kernel_rfl) (by kernel_rfl) (fun _ _ _ h => h) (yieldsIf_move (by kernel_rfl) rfl (by kernel_rfl)) S0 ?_
      refine held_take (i := 16) (v := (.int .i64 ((k : Int) + 1))) (some 30) rfl rfl (by kernel_rfl) (by kernel_rfl) (by kernel_rfl) (fun _ _ _ h => h) (yieldsIf_bin (by kernel_rfl) rfl (by kernel_rfl) (by kernel_rfl) (fun _ => rfl) HK1.out) S0 ?_
      refine held_take (i := 17) (v := (.int .i64 (m : Int))) (some 31) rfl rfl (by kernel_rfl) (by kernel_rfl) (by kernel_rfl) (fun _ _ _ h => h) (yieldsIf_move (by kernel_rfl) rfl (by kernel_rfl)) S0 ?_
      refine held_take (i := 21) (v := (.pointer np)) (some 35) rfl rfl (by kernel_rfl) (by kernel_rfl) (by kernel_rfl) (fun _ _ _ h => h) (yieldsIf_move (by kernel_rfl) rfl (by kernel_rfl)) S0 ?_
      refine held_enter (i := 6) (some 20) (f := 155) (args := #[.agg #[.int .i64 p, dv, mv, lv], .int .i64 ((m : Int) + 1), .int .i64 (k : Int), .int .i64 (m : Int)]) (by kernel_rfl) rfl rfl rfl (by kernel_rfl) (HZ.out m (by omega) _ S0) ?_ (fun c w' h => by obtain ⟨_, _, h, _⟩ := h; cases h) (fun w' h => by obtain ⟨_, _, h, _⟩ := h; cases h)
      rintro e4 W4 ⟨s4, A, he4, hb4, ho4, hz4⟩
      injection he4 with he4
      subst he4
      have S1 : Below w1.heap.size w1 W4 := S0.trans (hb4.mono S0.size)
      have HV4 := Lib.hid (ho4.vs.lower (Nat.zero_le _))
      have HZ4 := Lib.hid hz4
      refine ⟨S1, ?_⟩
      refine held_enter (i := 18) (some 32) (f := 155) (args := #[.agg #[.int .i64 p, dv, mv, lv], .int .i64 0, .int .i64 ((k : Int) + 1), .int .i64 (m : Int)]) (by kernel_rfl) rfl rfl rfl (by kernel_rfl) (HU.out m (by omega) _ S1) ?_ (fun c w' h => by obtain ⟨_, _, h, _⟩ := h; cases h) (fun w' h => by obtain ⟨_, _, h, _⟩ := h; cases h)
      rintro e5 W5 ⟨s5, R, he5, hb5, ho5, hr5⟩
      injection he5 with he5
      subst he5
      have S2 : Below w1.heap.size w1 W5 := S1.trans (hb5.mono S1.size)
      have HV5 := Lib.hid (ho5.vs.lower (Nat.zero_le _))
      have HR5 := Lib.hid hr5
      have HV45 := Lib.hid (HV4.out.below hb5)
      refine ⟨S2, ?_⟩
      refine held_enter (i := 19) (some 33) (f := 157) (args := #[.agg #[.int .i64 p, dv, mv], .int .i64 ((k : Int) + 1), e5]) (by kernel_rfl) rfl rfl rfl (by kernel_rfl) (HD.out m _ e5 R S2 HV5.out HR5.out) ?_ (fun c w' h => by obtain ⟨_, _, h, _⟩ := h; cases h) (fun w' h => by obtain ⟨_, _, h, _⟩ := h; cases h)
      rintro e6 W6 ⟨s6, D, he6, hb6, ho6, hd6⟩
      injection he6 with he6
      subst he6
      subst hd6
      have S3 : Below w1.heap.size w1 W6 := S2.trans (hb6.mono S2.size)
      have HV6 := Lib.hid (ho6.vs.lower (Nat.zero_le _))
      have HV46 := Lib.hid (HV45.out.below hb6)
      have hrl := HR5.out.short HF.out.1
      have hdml : (dimgs p ds ms (k + 1) R).length = R.length := by simp [dimgs]
      refine ⟨S3, ?_⟩
      refine held_enter (i := 20) (some 34) (f := 156) (args := #[.int .i64 p, e6]) (by kernel_rfl) rfl rfl rfl (by kernel_rfl) (reducedList_any p e6 (dimgs p ds ms (k + 1) R) W6 HF.out.1.1.prime HV6.out (dimgs_md (by omega) ds ms (k + 1) R) (fun u hu => wd_wider (dimgs_wd HF.out.1 HR5.out u hu) (by omega)) (by omega)) ?_ (fun c w' h => by obtain ⟨_, _, h, _⟩ := h; cases h) (fun w' h => by obtain ⟨_, _, h, _⟩ := h; cases h)
      rintro e7 W7 ⟨s7, B, he7, hb7, ho7, hr7, _⟩
      injection he7 with he7
      subst he7
      have S4 : Below w1.heap.size w1 W7 := S3.trans (hb7.mono S3.size)
      have HV7 := Lib.hid (ho7.vs.lower (Nat.zero_le _))
      have HV47 := Lib.hid (HV46.out.below hb7)
      have HB7 : Hid (SpF p (dimN ds (k : Int)) (Lin.Sp p (bdL p ds ms ls k (m : Int))) B) := Lib.hid (bd_sp HF.out HR5.out hr7.red hr7.eqv)
      have HN7 : Hid (Nd p ds ms ls k m W7 (.pointer np)) := Lib.hid ((((((HN.out.below (Below.refl _ _).drew).below hb4).below hb5).below hb6).below hb7))
      refine ⟨S4, ?_⟩
      obtain ⟨a4, c4, hv4⟩ := HV47.out.shape
      obtain ⟨a7, c7, hv7⟩ := HV7.out.shape
      subst hv4 hv7
      refine held_take (i := 22) (v := (.agg #[.int .i64 (m : Int), .slice a4 A.length c4, .slice a7 B.length c7, .pointer np])) (some 36) rfl rfl (by kernel_rfl) (by kernel_rfl) (by kernel_rfl) (fun _ _ _ h => h) (yieldsIf_run (by kernel_rfl) (fun W _ => by kernel_rfl)) S4 ?_
      obtain ⟨W8, hW8⟩ : ∃ W8, W8 = W7.alloc (.cells #[.int .i64 (m : Int), .slice a4 A.length c4, .slice a7 B.length c7, .pointer np] 179) := ⟨_, rfl⟩
      have hb8 : Below W7.heap.size W7 W8 := by rw [hW8]; exact below_alloc1 _ _
      have S5 : Below w1.heap.size w1 W8 := S4.trans (hb8.mono S4.size)
      refine held_mem (i := 23) (v := (.pointer (some ⟨W7.heap.size, 0, none⟩))) (w' := W8) (some 37) (by kernel_rfl) rfl rfl rfl (by rw [hW8]; go_simp) S5 ?_
      refine held_take (i := 24) (v := (.pointer (some ⟨W7.heap.size, 0, none⟩))) (some 7) rfl rfl (by kernel_rfl) (by kernel_rfl) (by kernel_rfl) (fun _ _ _ h => h) (yieldsIf_assign (by kernel_rfl) rfl (by kernel_rfl)) S5 ?_
      refine wpAnyH_done (by kernel_rfl) ?_ _
      simp only [Act.put, List.setIfInBounds_toArray, List.set_cons_zero, List.set_cons_succ]
      have HN8 : Hid (Nd p ds ms ls k (m + 1) W8 (.pointer (some ⟨W7.heap.size, 0, none⟩))) := Lib.hid ⟨W7.heap.size, _, _, _, A, B, rfl, by rw [hW8]; go_simp, by rw [hW8]; go_simp, by rw [hW8]; go_simp, by rw [hW8]; go_simp, HV47.out.below hb8, HV7.out.below hb8, HZ4.out, HB7.out, HN7.out.below hb8⟩
      have HB8 := Lib.hid S5
      clear S0 S1 S2 S3 S4 S5 hb4 hb5 hb6 hb7 hb8 ho4 ho5 ho6 ho7 hz4 hr5 hr7 hW8 hdml hrl
      go_wp2
      go_roundw
      case rel => exact ⟨m + 1, by omega, by go_num, HB8, HN8⟩
      case measure => simp [intOf]; omega
    · have hml : ¬ (m : Int) < (s : Int) + 1 := by omega
      have HE : Hid (m = s + 1) := Lib.hid (by omega)
      have HBw := Lib.hid (HNX.out _ HB.out).below
      go_wp2
      go_ret
      exact ⟨_, rfl, by rw [← HE.out]; exact HN.out, HBw.out⟩
end Go.Proofs.Ytchijefibiaphaa
