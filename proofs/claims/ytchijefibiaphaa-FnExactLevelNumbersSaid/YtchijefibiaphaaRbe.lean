/-
  The rank between two levels of the model by contract: spec.l09Between, RankBetween.
-/
import Derived.Test.YtchijefibiaphaaRbb
import Derived.Test.YtchijefibiaphaaLim
import Derived.Test.YtchijefibiaphaaBos
import Derived.Test.YtchijefibiaphaaMeet
namespace Go.Proofs.Ytchijefibiaphaa
open Go.RowKit

set_option maxHeartbeats 6400000 in
set_option maxRecDepth 100000 in
theorem l09Between_any (p : Int) (k : Nat) (q s : Int) (dv mv lv : Value) (ds : List Int) (ms : List (List (List Int))) (ls : List (List Int)) (w : World) (h : Fi 0 w dv mv lv ds ms ls) (hf : IsFil p ds ms ls) (hk : k < ds.length) (hq : 0 ≤ q) :
    Calls Try.prog 85 #[.agg #[.int .i64 p, dv, mv, lv], .int .i64 (k : Int), .int .i64 q, .int .i64 s] w (IntR (RkBet p ds ms ls k q s) w) := by
  have hp1 := hf.1.1.prime.lo1
  have HF := Lib.hid hf
  have hl6 := hf.1.1.len1
  obtain ⟨w1, hw1⟩ : ∃ w1, w1 = w.alloc (.cells #[.int .i64 p, dv, mv, lv] 67) := ⟨_, rfl⟩
  have HX0 : Hid (Fx w w1 w.heap.size p dv mv lv ds ms ls) := Lib.hid (by rw [hw1]; exact Fx.start _ h)
  have HNX : Hid (∀ W, Below w1.heap.size w1 W → Fx w W w.heap.size p dv mv lv ds ms ls) := Lib.hid (fun W hb => HX0.out.next hb)
  have hs01 : w1.heap.size = w.heap.size + 1 := by rw [hw1]; simp
  have HS01 := Lib.hid hs01
  obtain ⟨d, hd⟩ : ∃ d, d = dimN ds (k : Int) := ⟨_, rfl⟩
  have hd8 : d ≤ 8 := by rw [hd]; exact (dimN_le8 hf.1 k).1
  have HDE := Lib.hid hd
  have HDZ : Hid (dimZ ds (k : Int) = (d : Int)) := Lib.hid (by
    have h2 := (dimN_le8 hf.1 k).2
    rw [dimZ_nat, hd]
    exact h2)
  obtain ⟨l, hl⟩ : ∃ l, l = ls.getD k [] := ⟨_, rfl⟩
  have HL := Lib.hid hl
  have HDM : Hid (∀ W, Below w1.heap.size w1 W → Calls Try.prog 118 #[.agg #[.int .i64 p, dv, mv], .int .i64 (k : Int)] W (BR (.int .i64 (d : Int)) W)) := Lib.hid (fun W hW => by
    have := l01Dim_any p (k : Int) dv mv ds ms _ (HNX.out _ hW).fi.cx (by omega)
    rwa [HDZ.out] at this)
  have HCY : Hid (∀ W, Below w1.heap.size w1 W → Calls Try.prog 119 #[.agg #[.int .i64 p, dv, mv], .int .i64 (k : Int)] W (KerR p d (cycM ds k) (cycT ds ms k) W)) := Lib.hid (fun W hW => by
    rw [HDE.out]
    exact l01Cycles_any p k dv mv ds ms W (HNX.out _ hW).fi.cx HF.out.1 hk)
  have HSP : Hid (∀ W, Below w1.heap.size w1 W → Calls Try.prog 120 #[.agg #[.int .i64 p, dv, mv, lv], .int .i64 (k : Int), .int .i64 q] W (GsR ((fqL l q d).map (toL d)) W)) := Lib.hid (fun W hW => by
    rw [HDE.out, HL.out]
    exact l09Space_any p k q dv mv lv ds ms ls W (HNX.out _ hW).fi HF.out hk)
  have HBD : Hid (∀ W, Below w1.heap.size w1 W → Calls Try.prog 121 #[.agg #[.int .i64 p, dv, mv, lv], .int .i64 (k : Int), .int .i64 s] W (SpG p d (Lin.Sp p (bdL p ds ms ls k s)) W)) := Lib.hid (fun W hW => by
    rw [HDE.out]
    exact l09Bounds_any p k s dv mv lv ds ms ls W (HNX.out _ hW).fi HF.out hk)
  have c0 := HX0.out.c0
  have HB1 : Hid (Below w1.heap.size w1 w1) := Lib.hid (Below.refl _ _)
  have hqn : ¬ q < 0 := by omega
  clear h hf hd hl hs01
  go_enter Try.func85, Try.ntmps85
  go_wp2_with (fail)
  rw [← hw1]
  clear hw1 c0
  refine wp_region_held (S := fun W => Below w1.heap.size w1 W) (by kernel_rfl) ?_
  have S0 : Below w1.heap.size w1 w1.drew := HB1.out.drew
  refine held_take (i := 0) (v := (.int .i64 p)) (some 17) rfl rfl (by kernel_rfl) (by kernel_rfl) (by kernel_rfl) (fun _ _ _ h => h) (yieldsIf_move (by kernel_rfl) rfl (by kernel_rfl)) S0 ?_
  refine held_take (i := 1) (v := (.pointer (some ⟨w.heap.size, 0, none⟩))) (some 18) rfl rfl (by kernel_rfl) (by kernel_rfl) (by kernel_rfl) (fun _ _ _ h => h) (yieldsIf_run (by kernel_rfl) (fun W _ => by kernel_rfl)) S0 ?_
  refine held_take (i := 2) (v := (.agg #[.int .i64 p, dv, mv])) (some 19) rfl rfl (by kernel_rfl) (by kernel_rfl) (by kernel_rfl) (fun _ _ _ h => h) (yieldsIf_cell (by kernel_rfl) rfl (by kernel_rfl) (fun W h => hloadC W (HNX.out W h).c0 (HNX.out W h).c1 (HNX.out W h).c2)) S0 ?_
  refine held_take (i := 3) (v := (.int .i64 (k : Int))) (some 20) rfl rfl (by kernel_rfl) (by kernel_rfl) (by kernel_rfl) (fun _ _ _ h => h) (yieldsIf_move (by kernel_rfl) rfl (by kernel_rfl)) S0 ?_
  refine held_take (i := 5) (v := (.pointer (some ⟨w.heap.size, 0, none⟩))) (some 22) rfl rfl (by kernel_rfl) (by kernel_rfl) (by kernel_rfl) (fun _ _ _ h => h) (yieldsIf_run (by kernel_rfl) (fun W _ => by kernel_rfl)) S0 ?_
  refine held_take (i := 6) (v := (.agg #[.int .i64 p, dv, mv])) (some 23) rfl rfl (by kernel_rfl) (by kernel_rfl) (by kernel_rfl) (fun _ _ _ h => h) (yieldsIf_cell (by kernel_rfl) rfl (by kernel_rfl) (fun W h => hloadC W (HNX.out W h).c0 (HNX.out W h).c1 (HNX.out W h).c2)) S0 ?_
  refine held_take (i := 7) (v := (.int .i64 (k : Int))) (some 24) rfl rfl (by kernel_rfl) (by kernel_rfl) (by kernel_rfl) (fun _ _ _ h => h) (yieldsIf_move (by kernel_rfl) rfl (by kernel_rfl)) S0 ?_
  refine held_take (i := 9) (v := (.agg #[.int .i64 p, dv, mv, lv])) (some 26) rfl rfl (by kernel_rfl) (by kernel_rfl) (by kernel_rfl) (fun _ _ _ h => h) (yieldsIf_cell (by kernel_rfl) rfl (by kernel_rfl) (fun W h => hloadF W (HNX.out W h).c0 (HNX.out W h).c1 (HNX.out W h).c2 (HNX.out W h).c3)) S0 ?_
  refine held_take (i := 10) (v := (.int .i64 (k : Int))) (some 27) rfl rfl (by kernel_rfl) (by kernel_rfl) (by kernel_rfl) (fun _ _ _ h => h) (yieldsIf_move (by kernel_rfl) rfl (by kernel_rfl)) S0 ?_
  refine held_take (i := 11) (v := (.int .i64 q)) (some 28) rfl rfl (by kernel_rfl) (by kernel_rfl) (by kernel_rfl) (fun _ _ _ h => h) (yieldsIf_move (by kernel_rfl) rfl (by kernel_rfl)) S0 ?_
  refine held_enter (i := 4) (some 21) (f := 118) (args := #[.agg #[.int .i64 p, dv, mv], .int .i64 (k : Int)]) (by kernel_rfl) rfl rfl rfl (by kernel_rfl) (HDM.out _ S0) ?_ (fun c w' h => by obtain ⟨h, _⟩ := h; cases h) (fun w' h => by obtain ⟨h, _⟩ := h; cases h)
  rintro e3 W3 ⟨he3, hb3⟩
  injection he3 with he3
  subst he3
  have S1 : Below w1.heap.size w1 W3 := S0.trans (hb3.mono S0.size)
  refine ⟨S1, ?_⟩
  refine held_enter (i := 8) (some 25) (f := 119) (args := #[.agg #[.int .i64 p, dv, mv], .int .i64 (k : Int)]) (by kernel_rfl) rfl rfl rfl (by kernel_rfl) (HCY.out _ S1) ?_ (fun c w' h => by obtain ⟨_, _, h, _⟩ := h; cases h) (fun w' h => by obtain ⟨_, _, h, _⟩ := h; cases h)
  rintro e4 W4 ⟨u4, A, he4, hg4, hb4, hz4⟩
  injection he4 with he4
  subst he4
  have S2 : Below w1.heap.size w1 W4 := S1.trans (hb4.mono S1.size)
  have HG4 := Lib.hid hg4
  have HZ4 := Lib.hid hz4
  refine ⟨S2, ?_⟩
  refine held_enter (i := 12) (some 29) (f := 120) (args := #[.agg #[.int .i64 p, dv, mv, lv], .int .i64 (k : Int), .int .i64 q]) (by kernel_rfl) rfl rfl rfl (by kernel_rfl) (HSP.out _ S2) ?_ (fun c w' h => by obtain ⟨_, h, _⟩ := h; cases h) (fun w' h => by obtain ⟨_, h, _⟩ := h; cases h)
  rintro e5 W5 ⟨u5, he5, hg5, hb5⟩
  injection he5 with he5
  subst he5
  have S3 : Below w1.heap.size w1 W5 := S2.trans (hb5.mono S2.size)
  have HG5 := Lib.hid hg5
  have HG45 := Lib.hid (HG4.out.below hb5)
  have hal := HZ4.out.short
  refine ⟨S3, ?_⟩
  refine held_enter (i := 13) (some 30) (f := 117) (args := #[.int .i64 p, .int .i64 (d : Int), e4, e5]) (by kernel_rfl) rfl rfl rfl (by kernel_rfl) (l01Meet_any p d e4 e5 A (fqL l q d) W5 HF.out.1.1.prime (by omega) HG45.out.l2 HG5.out.l2 HZ4.out.1.md HZ4.out.2.1 (fqL_md hp1) (fqL_wd (Nat.le_refl _)) (by omega) (by have := fqL_len l q d; omega)) ?_ (fun c w' h => by obtain ⟨_, _, h, _⟩ := h; cases h) (fun w' h => by obtain ⟨_, _, h, _⟩ := h; cases h)
  rintro e6 W6 ⟨u6, C, he6, hg6, hb6, hz6⟩
  injection he6 with he6
  subst he6
  have S4 : Below w1.heap.size w1 W6 := S3.trans (hb6.mono S3.size)
  have HG6 := Lib.hid hg6
  have HZ6 : Hid (SpF p d (ZcD p ds ms ls k q (-1)) C) := Lib.hid (hz6.congr (fun v => by have h := meet_zc HF.out hk (q := q) (A := A) (by have := HZ4.out; rwa [HDE.out] at this) v; rw [← HL.out, ← HDE.out] at h; exact h))
  refine ⟨S4, ?_⟩
  refine held_take (i := 14) (v := e6) (some 10) rfl rfl (by kernel_rfl) (by kernel_rfl) (by kernel_rfl) (fun _ _ _ h => h) (yieldsIf_assign (by kernel_rfl) rfl (by kernel_rfl)) S4 ?_
  refine wpAnyH_done (by kernel_rfl) ?_ _
  simp only [Act.put, List.setIfInBounds_toArray, List.set_cons_zero, List.set_cons_succ]
  clear S0 S1 S2 S3 hb3 hb4 hb5 hb6 hg4 hg5 hg6 hz4 hz6 HG5 HG45 HG4 HSP HCY HDM HZ4
  have HB6 := Lib.hid S4
  clear S4
  have c0 := (HNX.out _ HB6.out).c0
  have c1 := (HNX.out _ HB6.out).c1
  have c2 := (HNX.out _ HB6.out).c2
  have c3 := (HNX.out _ HB6.out).c3
  have hs6 : w1.heap.size ≤ W6.heap.size := HB6.out.size
  have HBD6 := Lib.hid (HBD.out _ HB6.out)
  go_wp2_with fail
  refine HBD6.out.mono ?_
  rintro e w7 ⟨u7, B, rfl, hg7, hb7, hz7⟩
  have HB7 := Lib.hid (HB6.out.trans (hb7.mono hs6))
  have HG7 := Lib.hid hg7.l2
  have HG67 := Lib.hid (HG6.out.below hb7).l2
  have HZ7 := Lib.hid hz7
  have hcl := HZ6.out.short
  have hbl := hz7.short
  obtain ⟨a7, c7, hv7⟩ := Sl.shape hg7.l2
  rw [List.length_map] at hv7
  subst hv7
  clear hg7 hb7 hz7 HBD6 HBD c0 c1 c2 c3
  have HPL := Lib.hid (l01Plus_any p d e6 (.slice a7 B.length c7) C B w7 HF.out.1.1.prime HG67.out HG7.out (fun u hu => (List.mem_append.1 hu).elim (HZ6.out.1.md u) (HZ7.out.1.md u)) (fun u hu => (List.mem_append.1 hu).elim (HZ6.out.2.1 u) (HZ7.out.2.1 u)) (by omega) (by rw [List.length_append]; omega))
  have hs7 : w1.heap.size ≤ w7.heap.size := HB7.out.size
  go_wp2_with fail
  refine HPL.out.mono ?_
  rintro e w8 ⟨u8, E, rfl, hg8, hb8, hr8, hel⟩
  have HB8 := Lib.hid (HNX.out _ (HB7.out.trans (hb8.mono hs7))).below
  have HR8 := Lib.hid hr8
  obtain ⟨a8, c8, hv8⟩ := Sl.shape hg8.l2
  rw [List.length_map] at hv8
  subst hv8
  rw [List.length_append] at hel
  clear hg8 hb8 hr8 HPL
  go_wp2
  go_ret
  refine ⟨(E.length : Int) - (B.length : Int), ret_int ?_, HB8.out, C, B, E, ?_, ?_, ?_, rfl⟩
  · first | rfl | exact IntWalk.i64_in _ (by omega)
  · rw [← HDE.out]; exact HZ6.out
  · rw [← HDE.out]; exact HZ7.out
  · rw [← HDE.out]; exact ⟨HR8.out.red, HR8.out.wd, HR8.out.eqv⟩

open Classical in
/-- The code of RankBetween. -/
noncomputable def rkCode (p : Int) (ds : List Int) (ms : List (List (List Int))) (ls : List (List Int)) (n q s : Int) : Int := if celCode p ds ms ls 0 n s = 0 ∧ ¬ (0 ≤ q ∧ q ≤ s) then 2 else celCode p ds ms ls 0 n s
theorem rkCode_no {p : Int} {ds : List Int} {ms : List (List (List Int))} {ls : List (List Int)} {n q s : Int} (h : celCode p ds ms ls 0 n s ≠ 0) : rkCode p ds ms ls n q s = celCode p ds ms ls 0 n s := if_neg (fun hh => h hh.1)
theorem rkCode_out {p : Int} {ds : List Int} {ms : List (List (List Int))} {ls : List (List Int)} {n q s : Int} (h : celCode p ds ms ls 0 n s = 0) (h2 : ¬ (0 ≤ q ∧ q ≤ s)) : rkCode p ds ms ls n q s = 2 := if_pos ⟨h, h2⟩
theorem rkCode_ok {p : Int} {ds : List Int} {ms : List (List (List Int))} {ls : List (List Int)} {n q s : Int} (h : celCode p ds ms ls 0 n s = 0) (h2 : 0 ≤ q ∧ q ≤ s) : rkCode p ds ms ls n q s = 0 := by
  unfold rkCode
  rw [if_neg (fun hh => hh.2 h2), h]
theorem rkCode_zero {p : Int} {ds : List Int} {ms : List (List (List Int))} {ls : List (List Int)} {n q s : Int} (h : rkCode p ds ms ls n q s = 0) : IsFil p ds ms ls := by
  unfold rkCode at h
  split at h
  · omega
  · exact (celCode_zero h).1

set_option maxHeartbeats 1600000 in
set_option maxRecDepth 100000 in
theorem spRankBetween_any (p n q s : Int) (dv mv lv : Value) (ds : List Int) (ms : List (List (List Int))) (ls : List (List Int)) (w : World) (h : Fi 0 w dv mv lv ds ms ls) (hd : ds.length ≤ 1048576) (hm : Bd3 1048576 ms) (hl : Bd2 1048576 ls) :
    Calls Try.prog 46 #[.agg #[.int .i64 p, dv, mv, lv], .int .i64 n, .int .i64 q, .int .i64 s] w (NumW (fun x => RkBet p ds ms ls n.toNat q s x) (rkCode p ds ms ls n q s) w) := by
  have HX0 := Lib.hid (Fx.start (p := p) 67 h)
  have HIS := Lib.hid (l02Is_any p dv mv lv ds ms ls _ HX0.out.fi hd hm hl)
  obtain ⟨⟨ad, cap, hdv⟩, ⟨am, capm, hmv⟩, ⟨al, capl, hlv⟩⟩ := h.shapes
  subst hdv hmv hlv
  have c0 := HX0.out.c0
  have c1 := HX0.out.c1
  have c2 := HX0.out.c2
  have c3 := HX0.out.c3
  clear h hm hl
  go_enter Try.func46, Try.ntmps46
  go_wp2_with fail
  refine HIS.out.mono ?_
  rintro e w1 ⟨bb, rfl, hb1, hbb⟩
  have HX1 := Lib.hid (HX0.out.next hb1)
  have HBB := Lib.hid hbb
  clear hb1 hbb c0 c1 c2 c3 HIS
  have c0 := HX1.out.c0
  have c1 := HX1.out.c1
  have c2 := HX1.out.c2
  have c3 := HX1.out.c3
  cases bb with
  | false =>
    have HNO : Hid (¬ IsFil p ds ms ls) := Lib.hid (fun hh => absurd (HBB.out.2 hh) (by simp))
    go_wp2
    go_ret2
    refine ⟨0, 1, rfl, HX1.out.below, ?_⟩
    have e := celCode_no (r := 0) (n := n) (q := s) HNO.out
    rw [rkCode_no (by rw [e]; decide), e]
    exact NOut.of_no (by decide)
  | true =>
    have HF : Hid (IsFil p ds ms ls) := Lib.hid (HBB.out.1 (by simp))
    have hwl : IntKind.i64.wrap ((ds.length : Int) - 1) = (ds.length : Int) - 1 := IntWalk.i64_in _ (by omega)
    have HOUT : Hid (¬ CelOk ds 0 n s → NOut (fun x => RkBet p ds ms ls n.toNat q s x) (rkCode p ds ms ls n q s) 0 2) := Lib.hid (fun hno => by
      have e := celCode_out (r := 0) (n := n) (q := s) HF.out hno
      rw [rkCode_no (by rw [e]; decide), e]
      exact NOut.of_no (by decide))
    by_cases hn : 0 ≤ n ∧ n ≤ (ds.length : Int) - 1
    · have HN := Lib.hid hn
      clear hn
      go_wp2_with fail
      refine (spin_yes HN.out _).mono ?_
      rintro e w' ⟨rfl, rfl⟩
      by_cases hs : 0 ≤ s ∧ s ≤ 5
      · have HS := Lib.hid hs
        clear hs
        go_wp2_with fail
        refine (spin_yes HS.out _).mono ?_
        rintro e w' ⟨rfl, rfl⟩
        have HCO : Hid (celCode p ds ms ls 0 n s = 0) := Lib.hid (celCode_ok HF.out ⟨by omega, HN.out, HS.out⟩)
        by_cases hq : 0 ≤ q ∧ q ≤ s
        · have HQ := Lib.hid hq
          clear hq
          go_wp2_with fail
          refine (spin_yes HQ.out _).mono ?_
          rintro e w' ⟨rfl, rfl⟩
          have hn0 := HN.out
          obtain ⟨k, rfl⟩ : ∃ k : Nat, n = (k : Int) := ⟨n.toNat, by omega⟩
          have HB := Lib.hid (l09Between_any p k q s (.slice ad ds.length cap) (.slice am ms.length capm) (.slice al ls.length capl) ds ms ls _ HX1.out.fi HF.out (by omega) HQ.out.1)
          clear hn0
          go_wp2_with fail
          refine HB.out.mono ?_
          rintro e w2 ⟨x, rfl, hb2, hx⟩
          have HX2 := Lib.hid (HX1.out.next hb2)
          have HNB := Lib.hid hx
          clear hb2 hx HB
          go_wp2
          go_ret2
          exact ⟨x, 0, rfl, HX2.out.below, by rw [rkCode_ok HCO.out HQ.out]; exact NOut.of_ok (by rw [Int.toNat_natCast]; exact HNB.out)⟩
        · have HQ := Lib.hid hq
          clear hq
          go_wp2_with fail
          refine (spin_no HQ.out _).mono ?_
          rintro e w' ⟨rfl, rfl⟩
          go_wp2
          go_ret2
          exact ⟨0, 2, rfl, HX1.out.below, by rw [rkCode_out HCO.out HQ.out]; exact NOut.of_no (by decide)⟩
      · have HS := Lib.hid hs
        clear hs
        go_wp2_with fail
        refine (spin_no HS.out _).mono ?_
        rintro e w' ⟨rfl, rfl⟩
        go_wp2
        go_ret2
        exact ⟨0, 2, rfl, HX1.out.below, HOUT.out (fun hh => HS.out hh.2.2)⟩
    · have HN := Lib.hid hn
      clear hn
      go_wp2_with fail
      refine (spin_no HN.out _).mono ?_
      rintro e w' ⟨rfl, rfl⟩
      go_wp2
      go_ret2
      exact ⟨0, 2, rfl, HX1.out.below, HOUT.out (fun hh => HN.out hh.2.1)⟩
end Go.Proofs.Ytchijefibiaphaa
