/-
  The rank of a page differential, by the model.
-/
import Derived.Test.YtpdkfidmmjlmnabDrm
import Derived.Test.YtpdkfidmmjlmnabBos
import Derived.Test.YtpdkfidmmjlmnabSd
import Derived.Test.YtpdkfidmmjlmnabPgn
namespace Go.Proofs.Ytpdkfidmmjlmnab
open Go.RowKit

set_option maxHeartbeats 6400000 in
set_option maxRecDepth 100000 in
theorem l02Rank_none (p : Int) (k : Nat) (r q : Int) (dv mv lv : Value) (ds : List Int) (ms : List (List (List Int))) (ls : List (List Int)) (w : World) (h0 : k = 0 ∨ q < r) :
    Calls Try.prog 110 #[.agg #[.int .i64 p, dv, mv, lv], .int .i64 r, .int .i64 k, .int .i64 q] w (IntR (RkNum p ds ms ls k r q) w) := by
  have HB := Lib.hid (below_alloc1 w (.cells #[.int .i64 p, dv, mv, lv] 33))
  by_cases hk : k = 0
  · subst hk
    have hz : (((0 : Nat) : Int) == 0) = true := by decide
    go_enter Try.func110, Try.ntmps110
    go_wp2
    go_ret
    exact ⟨0, rfl, HB.out, Or.inl ⟨Or.inl rfl, rfl⟩⟩
  · have hlt : q < r := by omega
    have hne : ((k : Int) == 0) = false := by
      have : ¬ (k : Int) = 0 := by omega
      simpa using this
    have hne2 : ¬ (k : Int) = 0 := by omega
    have H0 := Lib.hid h0
    clear h0 hk
    go_enter Try.func110, Try.ntmps110
    go_wp2
    go_ret
    exact ⟨0, rfl, HB.out, Or.inl ⟨H0.out, rfl⟩⟩

set_option maxHeartbeats 6400000 in
set_option maxRecDepth 100000 in
theorem l02Rank_any (p : Int) (k : Nat) (r q : Int) (dv mv lv : Value) (ds : List Int) (ms : List (List (List Int))) (ls : List (List Int)) (w : World) (h : Fi 0 w dv mv lv ds ms ls) (hf : IsFil p ds ms ls) (hk : k < ds.length) (hr : 0 ≤ r ∧ r ≤ 8) (hq : 0 ≤ q ∧ q ≤ 5) :
    Calls Try.prog 110 #[.agg #[.int .i64 p, dv, mv, lv], .int .i64 r, .int .i64 k, .int .i64 q] w (IntR (RkNum p ds ms ls k r q) w) := by
  by_cases h0 : k = 0 ∨ q < r
  · exact l02Rank_none p k r q dv mv lv ds ms ls w h0
  have HX0 := Lib.hid (Fx.start (p := p) 33 h)
  have HF := Lib.hid hf
  have H0 := Lib.hid h0
  have hp1 := hf.1.1.prime.lo1
  have hl6 := hf.1.1.len1
  have hk0 : 0 < k := by omega
  have hqr : r ≤ q := by omega
  obtain ⟨d, hd⟩ : ∃ d, d = dimN ds ((k - 1 : Nat) : Int) := ⟨_, rfl⟩
  have hd8 : d ≤ 8 := by rw [hd]; exact (dimN_le8 hf.1 (k - 1)).1
  have HDE := Lib.hid hd
  have hdk8 := (dimN_le8 hf.1 k).1
  obtain ⟨n1, hn1⟩ : ∃ n1, n1 = (k : Int) - 1 := ⟨_, rfl⟩
  obtain ⟨q1, hq1⟩ : ∃ q1, q1 = q - r := ⟨_, rfl⟩
  have hw1 : IntKind.i64.wrap ((k : Int) - 1) = n1 := by rw [hn1]; exact IntWalk.i64_in _ (by omega)
  have hw2 : IntKind.i64.wrap (q - r) = q1 := by rw [hq1]; exact IntWalk.i64_in _ (by omega)
  have hne : ((k : Int) == 0) = false := by
    have : ¬ (k : Int) = 0 := by omega
    simpa using this
  have hne2 : ¬ (k : Int) = 0 := by omega
  have hnl : ¬ q < r := by omega
  have HCM : Hid (cycM ds k = d) := Lib.hid (by rw [hd]; unfold cycM; rw [if_neg (by omega)])
  obtain ⟨w1, hw1e⟩ : ∃ w1, w1 = w.alloc (.cells #[.int .i64 p, dv, mv, lv] 33) := ⟨_, rfl⟩
  rw [← hw1e] at HX0
  have hs01 : w1.heap.size = w.heap.size + 1 := by rw [hw1e]; simp
  have HS01 := Lib.hid hs01
  have HNX : Hid (∀ W, Below w1.heap.size w1 W → Fx w W w.heap.size p dv mv lv ds ms ls) := Lib.hid (fun W h => HX0.out.next h)
  have HBO : Hid (∀ W, Fi 0 W dv mv lv ds ms ls → Calls Try.prog 96 #[.agg #[.int .i64 p, dv, mv, lv], .int .i64 r, .int .i64 n1, .int .i64 q1] W (SpG p d (BotS p ds ms ls (k - 1) r (q - r)) W)) := Lib.hid (fun W hW => by
    have := l02Bottom_any p (k - 1) r (q - r) dv mv lv ds ms ls W hW hf (by omega) (by omega) (by omega)
    rw [← hd] at this
    rw [show (((k - 1 : Nat) : Int)) = (k : Int) - 1 by omega] at this
    rw [hn1, hq1]
    exact this)
  have HU : Hid (∀ W, Fi 0 W dv mv lv ds ms ls → Calls Try.prog 93 #[.agg #[.int .i64 p, dv, mv, lv], .int .i64 r, .int .i64 (k : Int), .int .i64 q] W (SpG p (dimN ds (k : Int)) (ZcD p ds ms ls k q (q - r)) W)) := Lib.hid (fun W hW => l02Cycles_any p k r q dv mv lv ds ms ls W hW hf hk (by omega) (by omega))
  have HKD := Lib.hid hk
  have HK0 := Lib.hid hk0
  have c0 := HX0.out.c0
  have c1 := HX0.out.c1
  have c2 := HX0.out.c2
  have c3 := HX0.out.c3
  clear h hf hd hn1 hq1 h0 hk hqr hs01
  go_enter Try.func110, Try.ntmps110
  go_upto_region 1 with fail
  rw [← hw1e]
  clear hw1e
  go_wp2_with (fail)
  refine (HBO.out _ HX0.out.fi).mono ?_
  rintro e w3 ⟨u3, B, rfl, hg3, hb3, hz3⟩
  have HZ3 := Lib.hid hz3
  obtain ⟨zs, hrz, hgz⟩ := hg3.rowsOf
  have hal := hz3.short
  have HAL : Hid ((B.map (toL d)).length = B.length) := Lib.hid (List.length_map _)
  obtain ⟨az, cz, hvz⟩ := Sl.shape hg3.l2
  rw [HAL.out] at hvz
  subst hvz
  have HBW3 := Lib.hid hb3
  have HRZ := Lib.hid hrz
  have HGZ := Lib.hid hgz
  clear hg3 hb3 hz3 hrz hgz HBO c0 c1 c2 c3 hw1 hw2 hne hne2 hnl
  go_wp2
  refine wp_region_held (S := fun W => Below w1.heap.size w1 W) (by kernel_rfl) ?_
  have S0 : Below w1.heap.size w1 w3.drew := HBW3.out.drew
  change wpAnyH _ _ _ _ _ _ _ _ w3.drew
  have HB3D : Hid (Below w3.heap.size w3 w3.drew) := Lib.hid (Below.refl _ _).drew
  refine held_take (i := 1) (v := .slice az B.length cz) (some 27) rfl rfl (by kernel_rfl) (by kernel_rfl) (by kernel_rfl) (fun _ _ _ h => h) (yieldsIf_move (by kernel_rfl) rfl (by kernel_rfl)) S0 ?_
  refine held_take (i := 3) (v := .agg #[.int .i64 p, dv, mv, lv]) (some 29) rfl rfl (by kernel_rfl) (by kernel_rfl) (by kernel_rfl) (fun _ _ _ h => h) (yieldsIf_cell (by kernel_rfl) rfl (by kernel_rfl) (fun W h => hloadF W (HNX.out W h).c0 (HNX.out W h).c1 (HNX.out W h).c2 (HNX.out W h).c3)) S0 ?_
  refine held_take (i := 4) (v := .int .i64 (k : Int)) (some 30) rfl rfl (by kernel_rfl) (by kernel_rfl) (by kernel_rfl) (fun _ _ _ h => h) (yieldsIf_move (by kernel_rfl) rfl (by kernel_rfl)) S0 ?_
  refine held_take (i := 5) (v := .agg #[.int .i64 p, dv, mv, lv]) (some 31) rfl rfl (by kernel_rfl) (by kernel_rfl) (by kernel_rfl) (fun _ _ _ h => h) (yieldsIf_cell (by kernel_rfl) rfl (by kernel_rfl) (fun W h => hloadF W (HNX.out W h).c0 (HNX.out W h).c1 (HNX.out W h).c2 (HNX.out W h).c3)) S0 ?_
  refine held_take (i := 6) (v := .int .i64 r) (some 32) rfl rfl (by kernel_rfl) (by kernel_rfl) (by kernel_rfl) (fun _ _ _ h => h) (yieldsIf_move (by kernel_rfl) rfl (by kernel_rfl)) S0 ?_
  refine held_take (i := 7) (v := .int .i64 (k : Int)) (some 33) rfl rfl (by kernel_rfl) (by kernel_rfl) (by kernel_rfl) (fun _ _ _ h => h) (yieldsIf_move (by kernel_rfl) rfl (by kernel_rfl)) S0 ?_
  refine held_take (i := 8) (v := .int .i64 q) (some 34) rfl rfl (by kernel_rfl) (by kernel_rfl) (by kernel_rfl) (fun _ _ _ h => h) (yieldsIf_move (by kernel_rfl) rfl (by kernel_rfl)) S0 ?_
  obtain ⟨wd, hwd⟩ : ∃ wd, wd = w3.drew := ⟨_, rfl⟩
  rw [← hwd] at S0 HB3D ⊢
  clear hwd
  obtain ⟨we, hwe⟩ : ∃ we, we = wd.alloc (.cells #[] 22) := ⟨_, rfl⟩
  have hsd : w1.heap.size ≤ wd.heap.size := S0.size
  have hbe : Below wd.heap.size wd we := by rw [hwe]; exact below_alloc1 _ _
  have SE : Below w1.heap.size w1 we := S0.trans (hbe.mono hsd)
  have HCE : Hid (CatA w1.heap.size we (.slice (some ⟨wd.heap.size, 0, none⟩) 0 0) [] []) := Lib.hid (by rw [hwe]; exact CatA.start wd w1.heap.size hsd)
  refine held_mem (i := 0) (v := .slice (some ⟨wd.heap.size, 0, none⟩) 0 0) (w' := we) (some 26) (by kernel_rfl) rfl rfl rfl (by rw [hwe]; go_simp) SE ?_
  have HRE := Lib.hid ((HRZ.out.below HB3D.out).below hbe)
  have HGE : Hid (∀ i (h1 : i < zs.length) (h2 : i < (B.map (toL d)).length), G1 we zs[i] (B.map (toL d))[i]) := Lib.hid (fun i h1 h2 => ((HGZ.out i h1 h2).below HB3D.out).below hbe)
  refine held_appendT (i := 2) (some 28) (by kernel_rfl) rfl rfl rfl (.tmp 26) (.tmp 27) rfl w1.heap.size 0 (.slice (some ⟨wd.heap.size, 0, none⟩) 0 0) (.slice az B.length cz) [] (B.map (toL d)) zs (by kernel_rfl) (by kernel_rfl) HCE.out.own HRE.out (by rw [HAL.out]; omega) SE.size ?_
  intro v4 W4 ho4 hg4
  have S1 : Below w1.heap.size w1 W4 := SE.grown hg4 SE.size (fun g hg => ((World.ownsRow.lt HCE.out.own) g hg).1)
  have HC4 : Hid (CatA w1.heap.size W4 v4 (B.map (toL d)) zs) := Lib.hid (by
    have h := HCE.out.add HGE.out HRE.out.len (by rw [List.length_nil]; exact ho4) hg4
    rwa [List.nil_append, List.nil_append] at h)
  refine ⟨S1, ?_⟩
  clear hbe hwe SE HCE HRE HGE HRZ HGZ HB3D S0
  refine held_enter (i := 9) (some 35) (f := 93) (args := #[.agg #[.int .i64 p, dv, mv, lv], .int .i64 r, .int .i64 (k : Int), .int .i64 q]) (by kernel_rfl) rfl rfl rfl (by kernel_rfl) (HU.out _ (HNX.out _ S1).fi) ?_ (fun c w' h => by obtain ⟨_, _, h, _⟩ := h; cases h) (fun w' h => by obtain ⟨_, _, h, _⟩ := h; cases h)
  rintro e5 W5 ⟨u5, R, he5, hg5, hb5, hz5⟩
  injection he5 with he5
  subst he5
  have S2 : Below w1.heap.size w1 W5 := S1.trans (hb5.mono S1.size)
  have HZ5 := Lib.hid hz5
  have HG5 := Lib.hid hg5.l2
  have hrl := hz5.short
  have hrl8 : R.length ≤ 8 := by omega
  have HC5 := Lib.hid (HC4.out.below hb5)
  refine ⟨S2, ?_⟩
  refine held_enter (i := 10) (some 36) (f := 106) (args := #[.agg #[.int .i64 p, dv, mv, lv], .int .i64 (k : Int), e5]) (by kernel_rfl) rfl rfl rfl (by kernel_rfl) (l02Images_any p k e5 R dv mv lv ds ms ls W5 (HNX.out _ S2).fi HF.out HKD.out HK0.out HG5.out HZ5.out.1.md hrl8) ?_ (fun c w' h => by obtain ⟨_, h, _⟩ := h; cases h) (fun w' h => by obtain ⟨_, h, _⟩ := h; cases h)
  rw [HCM.out]
  rintro e6 W6 ⟨u6, he6, hg6, hb6⟩
  injection he6 with he6
  subst he6
  have S3 : Below w1.heap.size w1 W6 := S2.trans (hb6.mono S2.size)
  obtain ⟨is, hri, hgi⟩ := hg6.rowsOf
  have HRI := Lib.hid hri
  have HGI := Lib.hid hgi
  have HC6 := Lib.hid (HC5.out.below hb6)
  have HIL : Hid (((dimgs p ds ms k R).map (toL d)).length = R.length) := Lib.hid (by simp [dimgs])
  refine ⟨S3, ?_⟩
  refine held_appendT (i := 11) (some 37) (by kernel_rfl) rfl rfl rfl (.tmp 28) (.tmp 36) rfl w1.heap.size (B.map (toL d)).length v4 e6 zs ((dimgs p ds ms k R).map (toL d)) is (by kernel_rfl) (by kernel_rfl) HC6.out.own HRI.out (by rw [HAL.out, HIL.out]; omega) S3.size ?_
  intro v7 W7 ho7 hg7
  have S4 : Below w1.heap.size w1 W7 := S3.grown hg7 S3.size (fun g hg => ((World.ownsRow.lt HC6.out.own) g hg).1)
  have HC7 := Lib.hid (HC6.out.add HGI.out HRI.out.len ho7 hg7)
  have HS4 := Lib.hid S4
  refine ⟨S4, ?_⟩
  refine held_take (i := 12) (v := v7) (some 10) rfl rfl (by kernel_rfl) (by kernel_rfl) (by kernel_rfl) (fun _ _ _ h => h) (yieldsIf_assign (by kernel_rfl) rfl (by kernel_rfl)) S4 ?_
  refine wpAnyH_done (by kernel_rfl) ?_ _
  simp only [Act.put, List.setIfInBounds_toArray, List.set_cons_zero, List.set_cons_succ]
  clear S1 S2 S3 S4 hb5 hg5 hz5 hb6 hg6 hri hgi ho4 hg4 ho7 hg7
  have HX7 := Lib.hid (HNX.out _ HS4.out)
  have c0 := HX7.out.c0
  have c1 := HX7.out.c1
  have c2 := HX7.out.c2
  have c3 := HX7.out.c3
  have HL7 : Hid (L2 0 W7 v7 ((B ++ dimgs p ds ms k R).map (toL d))) := Lib.hid (by have h := HC7.out.gs.l2; rwa [← List.map_append] at h)
  have HMM : Hid (∀ u ∈ B ++ dimgs p ds ms k R, Lin.Md p u) := Lib.hid (fun u hu => (List.mem_append.1 hu).elim (HZ3.out.1.md u) (dimgs_md (by omega) ds ms k R u))
  have HMW : Hid (∀ u ∈ B ++ dimgs p ds ms k R, Lin.Wd d u) := Lib.hid (fun u hu => (List.mem_append.1 hu).elim (HZ3.out.2.1 u) (fun hu => by
    obtain ⟨y, _, rfl⟩ := List.mem_map.1 hu
    have hok := cyc_ok HF.out.1 HKD.out
    rw [HCM.out] at hok
    exact dimg_wd hok.1 hok.2.1 y))
  have HML : Hid ((B ++ dimgs p ds ms k R).length = B.length + R.length) := Lib.hid (by simp [dimgs])
  have HEC := Lib.hid (l01Echelon_any p d v7 (B ++ dimgs p ds ms k R) W7 HF.out.1.1.prime HL7.out HMM.out HMW.out (by omega) (by rw [HML.out]; omega))
  go_wp2_with fail
  refine HEC.out.mono ?_
  rintro e w8 ⟨u8, E, rfl, hg8, hb8, hr8, hl8⟩
  obtain ⟨au, cu, hus⟩ := Sl.shape hg8.l2
  rw [List.length_map] at hus
  subst hus
  have HB8 := Lib.hid (HNX.out _ (HS4.out.trans (hb8.mono HS4.out.size))).below
  have HR8 := Lib.hid hr8
  have HL8 := Lib.hid hl8
  have hle8 : E.length ≤ 16 := by have := HML.out; have := HL8.out; omega
  clear hg8 hb8 hr8 hl8 HEC
  go_wp2
  go_ret
  rw [HDE.out] at HZ3
  refine ⟨(E.length : Int) - (B.length : Int), ret_int ?_, HB8.out, Or.inr ⟨H0.out, B, R, E, HZ3.out, HZ5.out, HR8.out.red, HR8.out.eqv, rfl⟩⟩
  first | rfl | exact IntWalk.i64_in _ (by omega)

set_option maxHeartbeats 1600000 in
set_option maxRecDepth 100000 in
theorem spDifferentialRankOf_any (p r n q : Int) (dv mv lv : Value) (ds : List Int) (ms : List (List (List Int))) (ls : List (List Int)) (w : World) (h : Fi 0 w dv mv lv ds ms ls) (hd : ds.length ≤ 1048576) (hm : Bd3 1048576 ms) (hl : Bd2 1048576 ls) :
    Calls Try.prog 42 #[.agg #[.int .i64 p, dv, mv, lv], .int .i64 r, .int .i64 n, .int .i64 q] w (NumW (fun x => RkNum p ds ms ls n.toNat r q x) (celCode p ds ms ls r n q) w) := by
  have HX0 := Lib.hid (Fx.start (p := p) 33 h)
  have HCK := Lib.hid (l02Code_any p r n q dv mv lv ds ms ls _ HX0.out.fi hd hm hl)
  have c0 := HX0.out.c0
  have c1 := HX0.out.c1
  have c2 := HX0.out.c2
  have c3 := HX0.out.c3
  obtain ⟨kc, hkc⟩ : ∃ kc, kc = celCode p ds ms ls r n q := ⟨_, rfl⟩
  rw [← hkc] at HCK ⊢
  have HKE := Lib.hid hkc
  clear h hm hl hkc
  go_enter Try.func42, Try.ntmps42
  go_wp2_with fail
  refine HCK.out.mono ?_
  rintro e w1 ⟨rfl, hb1⟩
  have HX1 := Lib.hid (HX0.out.next hb1)
  clear hb1 c0 c1 c2 c3 HCK
  have c0 := HX1.out.c0
  have c1 := HX1.out.c1
  have c2 := HX1.out.c2
  have c3 := HX1.out.c3
  by_cases hk : kc = 0
  · subst hk
    obtain ⟨hfil, hcr, hr, hcq⟩ := celCode_zero HKE.out.symm
    obtain ⟨k, rfl⟩ : ∃ k : Nat, n = (k : Int) := ⟨n.toNat, by have := hr.1; omega⟩
    have hkd : k < ds.length := by have := hr.2; omega
    have HB := Lib.hid (l02Rank_any p k r q dv mv lv ds ms ls _ HX1.out.fi hfil hkd hcr hcq)
    clear hfil hr hcr hcq hkd
    go_wp2_with fail
    refine HB.out.mono ?_
    rintro e w2 ⟨x, rfl, hb2, hx⟩
    have HX2 := Lib.hid (HX1.out.next hb2)
    have HN := Lib.hid hx
    clear hb2 hx HB
    go_wp2
    go_ret2
    exact ⟨x, 0, rfl, HX2.out.below, NOut.of_ok (by rw [Int.toNat_natCast]; exact HN.out)⟩
  · have hne2 : (kc != 0) = true := by simp [hk]
    have hne3 : (kc == 0) = false := by simp [hk]
    have HK := Lib.hid hk
    clear hk
    go_wp2
    go_ret2
    exact ⟨0, kc, rfl, HX1.out.below, NOut.of_no HK.out⟩
end Go.Proofs.Ytpdkfidmmjlmnab
