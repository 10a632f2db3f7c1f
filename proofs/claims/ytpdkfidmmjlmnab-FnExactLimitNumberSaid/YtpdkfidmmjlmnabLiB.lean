/-
  Limit numbers in the model: spec.l02Held, LimitNumber by their contracts.
-/
import Derived.Test.YtpdkfidmmjlmnabLim
namespace Go.Proofs.Ytpdkfidmmjlmnab
open Go.RowKit

set_option maxHeartbeats 6400000 in
set_option maxRecDepth 100000 in
theorem l02Held_any (p : Int) (k : Nat) (q : Int) (dv mv lv : Value) (ds : List Int) (ms : List (List (List Int))) (ls : List (List Int)) (w : World) (h : Fi 0 w dv mv lv ds ms ls) (hf : IsFil p ds ms ls) (hk : k < ds.length) (hq : -10 ≤ q ∧ q ≤ 10) :
    Calls Try.prog 113 #[.agg #[.int .i64 p, dv, mv, lv], .int .i64 k, .int .i64 q] w (IntR (LDim p ds ms ls k q) w) := by
  have HX0 := Lib.hid (Fx.start (p := p) 33 h)
  have HF := Lib.hid hf
  have hp1 := hf.1.1.prime.lo1
  obtain ⟨d, hd⟩ : ∃ d, d = dimN ds (k : Int) := ⟨_, rfl⟩
  have hd8 : d ≤ 8 := by rw [hd]; exact (dimN_le8 hf.1 k).1
  have HDE := Lib.hid hd
  obtain ⟨w1, hw1⟩ : ∃ w1, w1 = w.alloc (.cells #[.int .i64 p, dv, mv, lv] 33) := ⟨_, rfl⟩
  rw [← hw1] at HX0
  have hs01 : w1.heap.size = w.heap.size + 1 := by rw [hw1]; simp
  have HS01 := Lib.hid hs01
  have HNX : Hid (∀ W, Below w1.heap.size w1 W → Fx w W w.heap.size p dv mv lv ds ms ls) := Lib.hid (fun W h => HX0.out.next h)
  obtain ⟨w2, hw2⟩ : ∃ w2, w2 = w1.alloc (.cells #[] 22) := ⟨_, rfl⟩
  have HB2 : Hid (Below w1.heap.size w1 w2) := Lib.hid (by rw [hw2]; exact below_alloc1 _ _)
  have HS2 : Hid (w2.heap.size = w1.heap.size + 1) := Lib.hid (by rw [hw2]; simp)
  have HOWN2 : Hid (w2.ownsRow w1.heap.size 22 1 (.slice (some ⟨w.heap.size + 1, 0, none⟩) 0 0) 0 []) := Lib.hid (by
    have h := World.ownsRow_made (base := w1.heap.size) (e := 22) (size := 1) w1 #[] 0 (Nat.le_refl _) (by unfold maxLen; omega) (by simp)
    rw [← hw2] at h
    rw [hs01] at h ⊢
    simpa using h)
  have HX2 := Lib.hid (HNX.out _ HB2.out)
  have HZ := Lib.hid (l02Cycles_any p k 13 q dv mv lv ds ms ls w2 HX2.out.fi hf hk (by omega) (by omega))
  have c0 := HX2.out.c0
  have c1 := HX2.out.c1
  have c2 := HX2.out.c2
  have c3 := HX2.out.c3
  clear h hf hd hs01
  go_enter Try.func113, Try.ntmps113
  go_wp2_with (fail)
  rw [← hw1, ← hw2]
  clear hw1 hw2
  refine HZ.out.mono ?_
  rintro e w3 ⟨u3, Z, rfl, hg3, hb3, hz3⟩
  have HZ3 : Hid (SpF p d (ZcD p ds ms ls k q (-1)) Z) := Lib.hid (by rw [HDE.out]; exact hz3.congr (fun v => zc_low HF.out hk (by omega) v))
  rw [← HDE.out] at hg3
  obtain ⟨zs, hrz, hgz⟩ := hg3.rowsOf
  have HRZ := Lib.hid hrz
  have HGZ := Lib.hid hgz
  have hs2 : w1.heap.size ≤ w2.heap.size := HB2.out.size
  have HB3 := Lib.hid (HB2.out.trans (hb3.mono hs2))
  have hs3 : w1.heap.size ≤ w3.heap.size := HB3.out.size
  have HO3 := Lib.hid (owns_below HOWN2.out hb3)
  have hzl := HZ3.out.short
  have HZL : Hid ((Z.map (toL d)).length = Z.length) := Lib.hid (List.length_map _)
  obtain ⟨az, cz, hvz⟩ := Sl.shape hg3.l2
  rw [HZL.out] at hvz
  subst hvz
  clear hg3 hb3 hz3 hrz hgz HZ HOWN2 c0 c1 c2 c3
  go_wp2_with (at_builtin; refine wpList_appendT rfl (some 13) rfl (.tmp 8) (.tmp 12) rfl w1.heap.size 0 _ _ [] (Z.map (toL d)) zs rfl rfl HO3.out HRZ.out ?c1 ?c2 ?_)
  case c1 => rw [HZL.out]; omega
  case c2 => exact hs3
  rw [List.nil_append]
  intro v4 w4 ho4 hg4
  have HB4 : Hid (Below w1.heap.size w1 w4) := Lib.hid (HB3.out.grown hg4 hs3 (fun g hg => ((World.ownsRow.lt HO3.out) g hg).1))
  have HGZ4 : Hid (∀ k (h1 : k < zs.length) (h2 : k < (Z.map (toL d)).length), G1 w4 zs[k] (Z.map (toL d))[k]) := Lib.hid (fun k h1 h2 => owns_grown (HGZ.out k h1 h2) HO3.out (by decide) hg4)
  have HO4 : Hid (w4.ownsRow w1.heap.size 22 1 v4 Z.length zs) := Lib.hid (by rw [HZL.out, Nat.zero_add] at ho4; exact ho4)
  have HZS : Hid (zs.length = (Z.map (toL d)).length) := Lib.hid HRZ.out.len
  clear ho4 hg4 HO3 HRZ HGZ
  go_wp2
  refine wp_region_held (S := fun W => Below w1.heap.size w1 W) (by kernel_rfl) ?_
  have S0 : Below w1.heap.size w1 w4.drew := HB4.out.drew
  have HO4D := Lib.hid (owns_below HO4.out (Below.refl w4.heap.size w4).drew)
  have HGZD : Hid (∀ k (h1 : k < zs.length) (h2 : k < (Z.map (toL d)).length), G1 w4.drew zs[k] (Z.map (toL d))[k]) := Lib.hid (fun k h1 h2 => (HGZ4.out k h1 h2).below (Below.refl w4.heap.size w4).drew)
  change wpAnyH _ _ _ _ _ _ _ _ w4.drew
  clear HO4 HGZ4 HB4
  generalize w4.drew = wd at *
  refine held_take (i := 0) (v := .pointer (some ⟨w.heap.size, 0, none⟩)) (some 14) rfl rfl (by kernel_rfl) (by kernel_rfl) (by kernel_rfl) (fun _ _ _ h => h) (yieldsIf_run (by kernel_rfl) (fun W _ => by kernel_rfl)) S0 ?_
  refine held_take (i := 1) (v := .pointer (some ⟨w.heap.size, 0, none⟩)) (some 15) rfl rfl (by kernel_rfl) (by kernel_rfl) (by kernel_rfl) (fun _ _ _ h => h) (yieldsIf_run (by kernel_rfl) (fun W _ => by kernel_rfl)) S0 ?_
  refine held_take (i := 2) (v := .int .i64 p) (some 16) rfl rfl (by kernel_rfl) (by kernel_rfl) (by kernel_rfl) (fun _ _ _ h => h) (yieldsIf_cell (by kernel_rfl) rfl (by kernel_rfl) (fun W h => hload W ((HNX.out W h).c0))) S0 ?_
  refine held_take (i := 3) (v := v4) (some 17) rfl rfl (by kernel_rfl) (by kernel_rfl) (by kernel_rfl) (fun _ _ _ h => h) (yieldsIf_move (by kernel_rfl) rfl (by kernel_rfl)) S0 ?_
  refine held_take (i := 4) (v := .pointer (some ⟨w.heap.size, 0, none⟩)) (some 18) rfl rfl (by kernel_rfl) (by kernel_rfl) (by kernel_rfl) (fun _ _ _ h => h) (yieldsIf_run (by kernel_rfl) (fun W _ => by kernel_rfl)) S0 ?_
  refine held_take (i := 5) (v := .agg #[.int .i64 p, dv, mv]) (some 19) rfl rfl (by kernel_rfl) (by kernel_rfl) (by kernel_rfl) (fun _ _ _ h => h) (yieldsIf_cell (by kernel_rfl) rfl (by kernel_rfl) (fun W h => hloadC W (HNX.out W h).c0 (HNX.out W h).c1 (HNX.out W h).c2)) S0 ?_
  refine held_take (i := 6) (v := .int .i64 (k : Int)) (some 20) rfl rfl (by kernel_rfl) (by kernel_rfl) (by kernel_rfl) (fun _ _ _ h => h) (yieldsIf_move (by kernel_rfl) rfl (by kernel_rfl)) S0 ?_
  refine held_enter (i := 7) (some 21) (f := 177) (args := #[.agg #[.int .i64 p, dv, mv], .int .i64 (k : Int)]) (by kernel_rfl) rfl rfl rfl (by kernel_rfl) (l01Bounds_any p k dv mv ds ms _ (HNX.out _ S0).fi.cx HF.out.1 hk) ?_ (fun c w' h => by obtain ⟨_, _, h, _⟩ := h; cases h) (fun w' h => by obtain ⟨_, _, h, _⟩ := h; cases h)
  rintro e5 W5 ⟨u5, B, he5, hg5, hb5, hr5, _⟩
  injection he5 with he5
  subst he5
  have S1 : Below w1.heap.size w1 W5 := S0.trans (hb5.mono S0.size)
  have HR5 := Lib.hid hr5
  rw [← HDE.out] at hg5 HR5
  obtain ⟨bs, hrb, hgb⟩ := hg5.rowsOf
  have HGB := Lib.hid hgb
  have HRB := Lib.hid hrb
  have HO5 := Lib.hid (owns_below HO4D.out hb5)
  have HGZ5 : Hid (∀ k (h1 : k < zs.length) (h2 : k < (Z.map (toL d)).length), G1 W5 zs[k] (Z.map (toL d))[k]) := Lib.hid (fun k h1 h2 => (HGZD.out k h1 h2).below hb5)
  have hbl := red_length HR5.out.red HR5.out.wd
  have HBL : Hid ((B.map (toL d)).length = B.length) := Lib.hid (List.length_map _)
  refine ⟨S1, ?_⟩
  refine held_appendT (i := 8) (some 22) (by kernel_rfl) rfl rfl rfl (.tmp 17) (.tmp 21) rfl w1.heap.size Z.length v4 e5 zs (B.map (toL d)) bs (by kernel_rfl) (by kernel_rfl) HO5.out HRB.out (by rw [HBL.out]; omega) S1.size ?_
  intro v6 W6 ho6 hg6
  have S2 : Below w1.heap.size w1 W6 := S1.grown hg6 S1.size (fun g hg => ((World.ownsRow.lt HO5.out) g hg).1)
  have HL6 : Hid (L2 0 W6 v6 ((Z ++ B).map (toL d))) := Lib.hid (by
    rw [List.map_append]
    exact cat_l2 ho6 (fun k h1 h2 => owns_grown (HGZ5.out k h1 h2) HO5.out (by decide) hg6) (fun k h1 h2 => owns_grown (HGB.out k h1 h2) HO5.out (by decide) hg6) HZS.out HRB.out.len (by rw [HZL.out]))
  refine ⟨S2, ?_⟩
  refine held_enter (i := 9) (some 23) (f := 153) (args := #[.int .i64 p, v6]) (by kernel_rfl) rfl rfl rfl (by kernel_rfl) (l01Echelon_any p d v6 (Z ++ B) W6 HF.out.1.1.prime HL6.out ?hm ?hw (by omega) ?hl) ?_ (fun c w' h => by obtain ⟨_, _, h, _⟩ := h; cases h) (fun w' h => by obtain ⟨_, _, h, _⟩ := h; cases h)
  case hm => exact fun u hu => (List.mem_append.1 hu).elim (HZ3.out.1.md u) (HR5.out.red.md u)
  case hw => exact fun u hu => (List.mem_append.1 hu).elim (HZ3.out.2.1 u) (HR5.out.wd u)
  case hl => rw [List.length_append]; omega
  rintro e7 W7 ⟨u7, E, he7, hg7, hb7, hr7, _⟩
  injection he7 with he7
  subst he7
  have S3 : Below w1.heap.size w1 W7 := S2.trans (hb7.mono S2.size)
  obtain ⟨a7, c7, hv7⟩ := Sl.shape hg7.l2
  rw [List.length_map] at hv7
  subst hv7
  have HR7 := Lib.hid hr7
  have HB7 := Lib.hid (HNX.out _ S3).below
  refine ⟨S3, ?_⟩
  refine held_take (i := 10) (v := .int .i64 (E.length : Int)) (some 24) rfl rfl (by kernel_rfl) (by kernel_rfl) (by kernel_rfl) (fun _ _ _ h => h) (yieldsIf_run (by kernel_rfl) (fun W _ => by kernel_rfl)) S3 ?_
  refine held_take (i := 11) (v := .int .i64 (E.length : Int)) (some 6) rfl rfl (by kernel_rfl) (by kernel_rfl) (by kernel_rfl) (fun _ _ _ h => h) (yieldsIf_assign (by kernel_rfl) rfl (by kernel_rfl)) S3 ?_
  refine wpAnyH_done (by kernel_rfl) ?_ _
  simp only [Act.put, List.setIfInBounds_toArray, List.set_cons_zero, List.set_cons_succ]
  clear S0 S1 S2 S3 hb5 hg5 hr5 ho6 hg6 hb7 hg7 hr7
  go_wp2
  go_ret
  refine ⟨(E.length : Int), rfl, HB7.out, E, ?_, rfl⟩
  rw [HDE.out] at HZ3 HR5
  exact limD_of hp1 HZ3.out ⟨HR5.out.red, HR5.out.wd, HR5.out.eqv⟩ HR7.out.red HR7.out.eqv


set_option maxHeartbeats 1600000 in
set_option maxRecDepth 100000 in
theorem spLimitNumberOf_any (p n q : Int) (dv mv lv : Value) (ds : List Int) (ms : List (List (List Int))) (ls : List (List Int)) (w : World) (h : Fi 0 w dv mv lv ds ms ls) (hd : ds.length ≤ 1048576) (hm : Bd3 1048576 ms) (hl : Bd2 1048576 ls) :
    Calls Try.prog 44 #[.agg #[.int .i64 p, dv, mv, lv], .int .i64 n, .int .i64 q] w (NumW (fun x => LimNum p ds ms ls n.toNat q x) (celCode p ds ms ls 0 n q) w) := by
  have HX0 := Lib.hid (Fx.start (p := p) 33 h)
  have HCK := Lib.hid (l02Code_any p 0 n q dv mv lv ds ms ls _ HX0.out.fi hd hm hl)
  have c0 := HX0.out.c0
  have c1 := HX0.out.c1
  have c2 := HX0.out.c2
  have c3 := HX0.out.c3
  obtain ⟨kc, hkc⟩ : ∃ kc, kc = celCode p ds ms ls 0 n q := ⟨_, rfl⟩
  rw [← hkc] at HCK ⊢
  have HKE := Lib.hid hkc
  clear h hm hl hkc
  go_enter Try.func44, Try.ntmps44
  go_wp2_with fail
  refine HCK.out.mono ?_
  rintro e w1 ⟨rfl, hb1⟩
  have HX1 := Lib.hid (HX0.out.next hb1)
  clear hb1 c0 c1 c2 c3 HCK
  have c0 := HX1.out.c0
  have c1 := HX1.out.c1
  have c2 := HX1.out.c2
  have c3 := HX1.out.c3
  by_cases hk : kc = 0
  · subst hk
    obtain ⟨hfil, hcr, hr, hcq⟩ := celCode_zero HKE.out.symm
    obtain ⟨k, rfl⟩ : ∃ k : Nat, n = (k : Int) := ⟨n.toNat, by have := hr.1; omega⟩
    have hkd : k < ds.length := by have := hr.2; omega
    obtain ⟨qm, hqm⟩ : ∃ qm, qm = q - 1 := ⟨_, rfl⟩
    have hwq : IntKind.i64.wrap (q - 1) = qm := by rw [hqm]; exact IntWalk.i64_in _ (by omega)
    have HA : Hid (∀ W, Hid (Fx w W w.heap.size p dv mv lv ds ms ls) → Calls Try.prog 113 #[.agg #[.int .i64 p, dv, mv, lv], .int .i64 (k : Int), .int .i64 q] W (IntR (LDim p ds ms ls k q) W)) := Lib.hid (fun W hW => l02Held_any p k q dv mv lv ds ms ls W hW.out.fi hfil hkd (by omega))
    have HB : Hid (∀ W, Hid (Fx w W w.heap.size p dv mv lv ds ms ls) → Calls Try.prog 113 #[.agg #[.int .i64 p, dv, mv, lv], .int .i64 (k : Int), .int .i64 qm] W (IntR (LDim p ds ms ls k (q - 1)) W)) := Lib.hid (fun W hW => by rw [hqm]; exact l02Held_any p k (q - 1) dv mv lv ds ms ls W hW.out.fi hfil hkd (by omega))
    have HCX := Lib.hid hfil.1
    have HXD := Lib.hid (HX1.out.next (Below.refl _ _).drew)
    clear hfil hr hcr hcq hkd hqm
    go_wp2
    go_region_held3 (fun w' => w'.cell? ⟨w.heap.size, 0, none⟩ = some (.int .i64 p) ∧ w'.cell? ⟨w.heap.size, 1, none⟩ = some dv ∧ w'.cell? ⟨w.heap.size, 2, none⟩ = some mv ∧ w'.cell? ⟨w.heap.size, 3, none⟩ = some lv ∧ Hid (Fx w w' w.heap.size p dv mv lv ds ms ls))
      (first | exact Fx.all HX1 | exact Fx.all HXD | exact Fx.all HX4 | exact Fx.all HX5 | go_keep)
      (first
        | (go_at_call 113; refine (HA.out _ ?_).mono ?_; (first | assumption | exact HXD); rintro e w4 ⟨x4, rfl, hb4, hx4⟩; have HX4 := Lib.hid (HXD.out.next hb4); have HR4 := Lib.hid hx4; obtain ⟨hx40, hx41⟩ := hx4.bd HCX.out; clear hb4 hx4 HA)
        | (go_at_call 113; refine (HB.out _ HX4).mono ?_; rintro e w5 ⟨x5, rfl, hb5, hx5⟩; have HX5 := Lib.hid (HX4.out.next hb5); have HR5 := Lib.hid hx5; obtain ⟨hx50, hx51⟩ := hx5.bd HCX.out; clear hb5 hx5))
    go_wp2
    go_ret2
    refine ⟨x4 - x5, 0, ret2_int (by first | rfl | exact IntWalk.i64_in _ (by omega)), HX5.out.below, NOut.of_ok ⟨x4, x5, ?_, ?_, rfl⟩⟩
    · rw [Int.toNat_natCast]; exact HR4.out
    · rw [Int.toNat_natCast]; exact HR5.out
  · have hne2 : (kc != 0) = true := by simp [hk]
    have hne3 : (kc == 0) = false := by simp [hk]
    have HK := Lib.hid hk
    clear hk
    go_wp2
    go_ret2
    exact ⟨0, kc, rfl, HX1.out.below, NOut.of_no HK.out⟩

end Go.Proofs.Ytpdkfidmmjlmnab
