/-
  The bottom in the model: spec.l02Bottom by its contract; BottomOf of both sides, page numbers of both sides.
-/
import Derived.Test.YtpdkfidmmjlmnabBim
namespace Go.Proofs.Ytpdkfidmmjlmnab
open Go.RowKit

theorem haddI {a b : Int} (h0 : -1000 ≤ a + b) (h1 : a + b ≤ 1000) (w : World) : (binOp .add 2 (.int .i64 a) (.int .i64 b)).run Try.prog w = .ok (.int .i64 (a + b)) w := by
  have hw : IntKind.i64.wrap (a + b) = a + b := IntWalk.i64_in _ (by omega)
  go_simp

set_option maxHeartbeats 6400000 in
set_option maxRecDepth 100000 in
theorem l02Bottom_out (p : Int) (k : Nat) (r q : Int) (dv mv lv : Value) (ds : List Int) (ms : List (List (List Int))) (ls : List (List Int)) (w : World) (h : Fi 0 w dv mv lv ds ms ls) (hf : IsFil p ds ms ls) (hk : k < ds.length) (hkx : ¬ k + 1 < ds.length) (hr : -20 ≤ r ∧ r ≤ 20) (hq : -20 ≤ q ∧ q ≤ 20) :
    Calls Try.prog 96 #[.agg #[.int .i64 p, dv, mv, lv], .int .i64 r, .int .i64 (k : Int), .int .i64 q] w (SpG p (dimN ds (k : Int)) (BotS p ds ms ls k r q) w) := by
  have HX0 := Lib.hid (Fx.start (p := p) 33 h)
  have HF := Lib.hid hf
  have hp1 := hf.1.1.prime.lo1
  have hl6 := hf.1.1.len1
  have hlsd := hf.2.len
  obtain ⟨d, hd⟩ : ∃ d, d = dimN ds (k : Int) := ⟨_, rfl⟩
  have hd8 : d ≤ 8 := by rw [hd]; exact (dimN_le8 hf.1 k).1
  have HDE := Lib.hid hd
  obtain ⟨k1, hk1⟩ : ∃ k1, k1 = k + 1 := ⟨_, rfl⟩
  obtain ⟨rm, hrm⟩ : ∃ rm, rm = r - 1 := ⟨_, rfl⟩
  obtain ⟨qm, hqm⟩ : ∃ qm, qm = q - 1 := ⟨_, rfl⟩
  obtain ⟨qr, hqr⟩ : ∃ qr, qr = q + r := ⟨_, rfl⟩
  obtain ⟨qs, hqs⟩ : ∃ qs, qs = qr - 1 := ⟨_, rfl⟩
  have hw1 : IntKind.i64.wrap (r - 1) = rm := by rw [hrm]; exact IntWalk.i64_in _ (by omega)
  have hw2 : IntKind.i64.wrap (q - 1) = qm := by rw [hqm]; exact IntWalk.i64_in _ (by omega)
  have hw5 : IntKind.i64.wrap ((k : Int) + 1) = (k1 : Int) := by rw [hk1]; exact IntWalk.i64_in _ (by omega)
  have HNO : Hid (¬ k + 1 < ds.length) := Lib.hid hkx
  have hlt : ¬ ((k1 : Int) < (ls.length : Int)) := by omega
  have HB1 : Hid (∀ w, (binOp .add 2 (.int .i64 (k : Int)) (.int .i64 1)).run Try.prog w = .ok (.int .i64 (k1 : Int)) w) := Lib.hid (fun w => by have h := haddI (a := (k : Int)) (b := 1) (by omega) (by omega) w; rwa [show (k : Int) + 1 = (k1 : Int) by omega] at h)
  have HB2 : Hid (∀ w, (binOp .sub 2 (.int .i64 r) (.int .i64 1)).run Try.prog w = .ok (.int .i64 rm) w) := Lib.hid (fun w => by have h := hsubI (a := r) (b := 1) (by omega) (by omega) w; rwa [← hrm] at h)
  have HB3 : Hid (∀ w, (binOp .add 2 (.int .i64 q) (.int .i64 r)).run Try.prog w = .ok (.int .i64 qr) w) := Lib.hid (fun w => by have h := haddI (a := q) (b := r) (by omega) (by omega) w; rwa [← hqr] at h)
  have HB4 : Hid (∀ w, (binOp .sub 2 (.int .i64 qr) (.int .i64 1)).run Try.prog w = .ok (.int .i64 qs) w) := Lib.hid (fun w => by have h := hsubI (a := qr) (b := 1) (by omega) (by omega) w; rwa [← hqs] at h)
  obtain ⟨al, capl, hlv⟩ := Sl.shape h.lv
  subst hlv
  obtain ⟨w1, hw1e⟩ : ∃ w1, w1 = w.alloc (.cells #[.int .i64 p, dv, mv, .slice al ls.length capl] 33) := ⟨_, rfl⟩
  rw [← hw1e] at HX0
  have hs01 : w1.heap.size = w.heap.size + 1 := by rw [hw1e]; simp
  have HS01 := Lib.hid hs01
  have HNX : Hid (∀ W, Below w1.heap.size w1 W → Fx w W w.heap.size p dv mv (.slice al ls.length capl) ds ms ls) := Lib.hid (fun W h => HX0.out.next h)
  obtain ⟨w2, hw2e⟩ : ∃ w2, w2 = w1.alloc (.cells #[] 22) := ⟨_, rfl⟩
  have HBW2 : Hid (Below w1.heap.size w1 w2) := Lib.hid (by rw [hw2e]; exact below_alloc1 _ _)
  have HC2 : Hid (CatA w1.heap.size w2 (.slice (some ⟨w.heap.size + 1, 0, none⟩) 0 0) [] []) := Lib.hid (by rw [hw2e, ← hs01]; exact CatA.start w1 w1.heap.size (Nat.le_refl _))
  have HX2 := Lib.hid (HNX.out _ HBW2.out)
  have HZ : Hid (Calls Try.prog 93 #[.agg #[.int .i64 p, dv, mv, .slice al ls.length capl], .int .i64 rm, .int .i64 (k : Int), .int .i64 qm] w2 (SpG p d (ZcD p ds ms ls k (q - 1) (q - r)) w2)) := Lib.hid (by
    have := l02Cycles_any p k rm qm dv mv (.slice al ls.length capl) ds ms ls w2 HX2.out.fi hf hk (by omega) (by omega)
    rw [show qm - rm = q - r by omega, ← hd] at this
    rw [hqm] at this ⊢
    exact this)
  have c0 := HX2.out.c0
  have c1 := HX2.out.c1
  have c2 := HX2.out.c2
  have c3 := HX2.out.c3
  clear h hf hd hk1 hrm hqm hqr hqs hs01 hlsd HB1 HB2 HB3 HB4 hkx
  go_enter Try.func96, Try.ntmps96
  go_wp2_with (fail)
  rw [← hw1e, ← hw2e]
  clear hw1e hw2e
  refine HZ.out.mono ?_
  rintro e w3 ⟨u3, A, rfl, hg3, hb3, hz3⟩
  have HZ3 := Lib.hid hz3
  obtain ⟨zs, hrz, hgz⟩ := hg3.rowsOf
  have HRZ := Lib.hid hrz
  have HGZ := Lib.hid hgz
  have hs2 : w1.heap.size ≤ w2.heap.size := HBW2.out.size
  have HBW3 := Lib.hid (HBW2.out.trans (hb3.mono hs2))
  have hs3 : w1.heap.size ≤ w3.heap.size := HBW3.out.size
  have HC3 := Lib.hid (HC2.out.below hb3)
  have hal := hz3.short
  have HAL : Hid ((A.map (toL d)).length = A.length) := Lib.hid (List.length_map _)
  obtain ⟨az, cz, hvz⟩ := Sl.shape hg3.l2
  rw [HAL.out] at hvz
  subst hvz
  clear hg3 hb3 hz3 hrz hgz HZ HC2 c0 c1 c2 c3
  go_wp2_with (at_builtin; refine wpList_appendT rfl (some 18) rfl (.tmp 10) (.tmp 17) rfl w1.heap.size 0 _ _ [] (A.map (toL d)) zs rfl rfl HC3.out.own HRZ.out ?c1 ?c2 ?_)
  case c1 => rw [HAL.out]; omega
  case c2 => exact hs3
  intro v4 w4 ho4 hg4
  have HBW4 : Hid (Below w1.heap.size w1 w4) := Lib.hid (HBW3.out.grown hg4 hs3 (fun g hg => ((World.ownsRow.lt HC3.out.own) g hg).1))
  have HC4 : Hid (CatA w1.heap.size w4 v4 (A.map (toL d)) zs) := Lib.hid (by
    have h := HC3.out.add HGZ.out HRZ.out.len (by rw [List.length_nil]; exact ho4) hg4
    rwa [List.nil_append, List.nil_append] at h)
  clear ho4 hg4 HC3 HRZ HGZ
  have HX4 := Lib.hid (HNX.out _ HBW4.out)
  have c0 := HX4.out.c0
  have c1 := HX4.out.c1
  have c2 := HX4.out.c2
  have c3 := HX4.out.c3
  have HL4 := Lib.hid HC4.out.gs.l2
  have HEC := Lib.hid (l01Echelon_any p d v4 A w4 HF.out.1.1.prime HL4.out HZ3.out.1.md HZ3.out.2.1 (by omega) (by skip; omega))
  go_wp2_with fail
  refine HEC.out.mono ?_
  rintro e w8 ⟨u8, E, rfl, hg8, hb8, hr8, _⟩
  have hsW : w1.heap.size ≤ w4.heap.size := HBW4.out.size
  have HG8 := Lib.hid (hg8.mono (show w.heap.size ≤ w4.heap.size by have := HS01.out; omega))
  have HB8 := Lib.hid (HNX.out _ (HBW4.out.trans (hb8.mono hsW))).below
  have HR8 := Lib.hid hr8
  clear hg8 hb8 hr8 HEC
  go_wp2
  go_ret
  rw [HDE.out] at HZ3 HG8
  exact ⟨u8, E, rfl, HG8.out, HB8.out, botS_of HF.out.1 HZ3.out ⟨fun h => absurd h HNO.out, fun _ => rfl⟩ HR8.out.red (by rw [show A ++ dimgs p ds ms (k + 1) [] = A by simp [dimgs]]; exact HR8.out.eqv)⟩

set_option maxHeartbeats 6400000 in
set_option maxRecDepth 100000 in
theorem l02Bottom_in (p : Int) (k : Nat) (r q : Int) (dv mv lv : Value) (ds : List Int) (ms : List (List (List Int))) (ls : List (List Int)) (w : World) (h : Fi 0 w dv mv lv ds ms ls) (hf : IsFil p ds ms ls) (hk : k < ds.length) (hkx : k + 1 < ds.length) (hr : -20 ≤ r ∧ r ≤ 20) (hq : -20 ≤ q ∧ q ≤ 20) :
    Calls Try.prog 96 #[.agg #[.int .i64 p, dv, mv, lv], .int .i64 r, .int .i64 (k : Int), .int .i64 q] w (SpG p (dimN ds (k : Int)) (BotS p ds ms ls k r q) w) := by
  have HX0 := Lib.hid (Fx.start (p := p) 33 h)
  have HF := Lib.hid hf
  have hp1 := hf.1.1.prime.lo1
  have hl6 := hf.1.1.len1
  have hlsd := hf.2.len
  obtain ⟨d, hd⟩ : ∃ d, d = dimN ds (k : Int) := ⟨_, rfl⟩
  have hd8 : d ≤ 8 := by rw [hd]; exact (dimN_le8 hf.1 k).1
  have HDE := Lib.hid hd
  obtain ⟨k1, hk1⟩ : ∃ k1, k1 = k + 1 := ⟨_, rfl⟩
  obtain ⟨rm, hrm⟩ : ∃ rm, rm = r - 1 := ⟨_, rfl⟩
  obtain ⟨qm, hqm⟩ : ∃ qm, qm = q - 1 := ⟨_, rfl⟩
  obtain ⟨qr, hqr⟩ : ∃ qr, qr = q + r := ⟨_, rfl⟩
  obtain ⟨qs, hqs⟩ : ∃ qs, qs = qr - 1 := ⟨_, rfl⟩
  have hw1 : IntKind.i64.wrap (r - 1) = rm := by rw [hrm]; exact IntWalk.i64_in _ (by omega)
  have hw2 : IntKind.i64.wrap (q - 1) = qm := by rw [hqm]; exact IntWalk.i64_in _ (by omega)
  have hw5 : IntKind.i64.wrap ((k : Int) + 1) = (k1 : Int) := by rw [hk1]; exact IntWalk.i64_in _ (by omega)
  have HKX : Hid (k + 1 < ds.length) := Lib.hid hkx
  have hlt : (k1 : Int) < (ls.length : Int) := by omega
  have HK1 : Hid (k1 = k + 1) := Lib.hid hk1
  have hkd1 : k1 < ds.length := by omega
  have hk1p : 0 < k1 := by omega
  have HB1 : Hid (∀ w, (binOp .add 2 (.int .i64 (k : Int)) (.int .i64 1)).run Try.prog w = .ok (.int .i64 (k1 : Int)) w) := Lib.hid (fun w => by have h := haddI (a := (k : Int)) (b := 1) (by omega) (by omega) w; rwa [show (k : Int) + 1 = (k1 : Int) by omega] at h)
  have HB2 : Hid (∀ w, (binOp .sub 2 (.int .i64 r) (.int .i64 1)).run Try.prog w = .ok (.int .i64 rm) w) := Lib.hid (fun w => by have h := hsubI (a := r) (b := 1) (by omega) (by omega) w; rwa [← hrm] at h)
  have HB3 : Hid (∀ w, (binOp .add 2 (.int .i64 q) (.int .i64 r)).run Try.prog w = .ok (.int .i64 qr) w) := Lib.hid (fun w => by have h := haddI (a := q) (b := r) (by omega) (by omega) w; rwa [← hqr] at h)
  have HB4 : Hid (∀ w, (binOp .sub 2 (.int .i64 qr) (.int .i64 1)).run Try.prog w = .ok (.int .i64 qs) w) := Lib.hid (fun w => by have h := hsubI (a := qr) (b := 1) (by omega) (by omega) w; rwa [← hqs] at h)
  obtain ⟨al, capl, hlv⟩ := Sl.shape h.lv
  subst hlv
  obtain ⟨w1, hw1e⟩ : ∃ w1, w1 = w.alloc (.cells #[.int .i64 p, dv, mv, .slice al ls.length capl] 33) := ⟨_, rfl⟩
  rw [← hw1e] at HX0
  have hs01 : w1.heap.size = w.heap.size + 1 := by rw [hw1e]; simp
  have HS01 := Lib.hid hs01
  have HNX : Hid (∀ W, Below w1.heap.size w1 W → Fx w W w.heap.size p dv mv (.slice al ls.length capl) ds ms ls) := Lib.hid (fun W h => HX0.out.next h)
  obtain ⟨w2, hw2e⟩ : ∃ w2, w2 = w1.alloc (.cells #[] 22) := ⟨_, rfl⟩
  have HBW2 : Hid (Below w1.heap.size w1 w2) := Lib.hid (by rw [hw2e]; exact below_alloc1 _ _)
  have HC2 : Hid (CatA w1.heap.size w2 (.slice (some ⟨w.heap.size + 1, 0, none⟩) 0 0) [] []) := Lib.hid (by rw [hw2e, ← hs01]; exact CatA.start w1 w1.heap.size (Nat.le_refl _))
  have HX2 := Lib.hid (HNX.out _ HBW2.out)
  have HZ : Hid (Calls Try.prog 93 #[.agg #[.int .i64 p, dv, mv, .slice al ls.length capl], .int .i64 rm, .int .i64 (k : Int), .int .i64 qm] w2 (SpG p d (ZcD p ds ms ls k (q - 1) (q - r)) w2)) := Lib.hid (by
    have := l02Cycles_any p k rm qm dv mv (.slice al ls.length capl) ds ms ls w2 HX2.out.fi hf hk (by omega) (by omega)
    rw [show qm - rm = q - r by omega, ← hd] at this
    rw [hqm] at this ⊢
    exact this)
  have HU : Hid (∀ W, Fi 0 W dv mv (.slice al ls.length capl) ds ms ls → Calls Try.prog 93 #[.agg #[.int .i64 p, dv, mv, .slice al ls.length capl], .int .i64 rm, .int .i64 (k1 : Int), .int .i64 qs] W (SpG p (dimN ds (k1 : Int)) (ZcD p ds ms ls k1 (q + r - 1) q) W)) := Lib.hid (fun W hW => by
    have := l02Cycles_any p k1 rm qs dv mv (.slice al ls.length capl) ds ms ls W hW hf hkd1 (by omega) (by omega)
    rw [show qs - rm = q by omega] at this
    rw [show qs = q + r - 1 by omega] at this ⊢
    exact this)
  have HCM : Hid (cycM ds k1 = d) := Lib.hid (by rw [hk1, hd]; simp [cycM])
  have c0 := HX2.out.c0
  have c1 := HX2.out.c1
  have c2 := HX2.out.c2
  have c3 := HX2.out.c3
  clear h hf hd hk1 hrm hqm hqr hqs hs01 hlsd hkx
  go_enter Try.func96, Try.ntmps96
  go_wp2_with (fail)
  rw [← hw1e, ← hw2e]
  clear hw1e hw2e
  refine HZ.out.mono ?_
  rintro e w3 ⟨u3, A, rfl, hg3, hb3, hz3⟩
  have HZ3 := Lib.hid hz3
  obtain ⟨zs, hrz, hgz⟩ := hg3.rowsOf
  have HRZ := Lib.hid hrz
  have HGZ := Lib.hid hgz
  have hs2 : w1.heap.size ≤ w2.heap.size := HBW2.out.size
  have HBW3 := Lib.hid (HBW2.out.trans (hb3.mono hs2))
  have hs3 : w1.heap.size ≤ w3.heap.size := HBW3.out.size
  have HC3 := Lib.hid (HC2.out.below hb3)
  have hal := hz3.short
  have HAL : Hid ((A.map (toL d)).length = A.length) := Lib.hid (List.length_map _)
  obtain ⟨az, cz, hvz⟩ := Sl.shape hg3.l2
  rw [HAL.out] at hvz
  subst hvz
  clear hg3 hb3 hz3 hrz hgz HZ HC2 c0 c1 c2 c3
  go_wp2_with (at_builtin; refine wpList_appendT rfl (some 18) rfl (.tmp 10) (.tmp 17) rfl w1.heap.size 0 _ _ [] (A.map (toL d)) zs rfl rfl HC3.out.own HRZ.out ?c1 ?c2 ?_)
  case c1 => rw [HAL.out]; omega
  case c2 => exact hs3
  intro v4 w4 ho4 hg4
  have HBW4 : Hid (Below w1.heap.size w1 w4) := Lib.hid (HBW3.out.grown hg4 hs3 (fun g hg => ((World.ownsRow.lt HC3.out.own) g hg).1))
  have HC4 : Hid (CatA w1.heap.size w4 v4 (A.map (toL d)) zs) := Lib.hid (by
    have h := HC3.out.add HGZ.out HRZ.out.len (by rw [List.length_nil]; exact ho4) hg4
    rwa [List.nil_append, List.nil_append] at h)
  clear ho4 hg4 HC3 HRZ HGZ
  have HX4 := Lib.hid (HNX.out _ HBW4.out)
  have c0 := HX4.out.c0
  have c1 := HX4.out.c1
  have c2 := HX4.out.c2
  have c3 := HX4.out.c3
  go_wp2
  have b1 := HB1.out
  have b2 := HB2.out
  have b3 := HB3.out
  have b4 := HB4.out
  clear c0 c1 c2 c3
  refine wp_region_held (S := fun W => Below w1.heap.size w1 W) (by kernel_rfl) ?_
  have S0 : Below w1.heap.size w1 w4.drew := HBW4.out.drew
  have HCD := Lib.hid (HC4.out.below (Below.refl w4.heap.size w4).drew)
  change wpAnyH _ _ _ _ _ _ _ _ w4.drew
  clear HC4 HBW4 HX4
  generalize w4.drew = wd at *
  refine held_take (i := 0) (v := v4) (some 25) rfl rfl (by kernel_rfl) (by kernel_rfl) (by kernel_rfl) (fun _ _ _ h => h) (yieldsIf_move (by kernel_rfl) rfl (by kernel_rfl)) S0 ?_
  refine held_take (i := 1) (v := .agg #[.int .i64 p, dv, mv, .slice al ls.length capl]) (some 26) rfl rfl (by kernel_rfl) (by kernel_rfl) (by kernel_rfl) (fun _ _ _ h => h) (yieldsIf_cell (by kernel_rfl) rfl (by kernel_rfl) (fun W h => hloadF W (HNX.out W h).c0 (HNX.out W h).c1 (HNX.out W h).c2 (HNX.out W h).c3)) S0 ?_
  refine held_take (i := 2) (v := .int .i64 (k : Int)) (some 27) rfl rfl (by kernel_rfl) (by kernel_rfl) (by kernel_rfl) (fun _ _ _ h => h) (yieldsIf_move (by kernel_rfl) rfl (by kernel_rfl)) S0 ?_
  refine held_take (i := 3) (v := .int .i64 (k1 : Int)) (some 28) rfl rfl (by kernel_rfl) (by kernel_rfl) (by kernel_rfl) (fun _ _ _ h => h) (yieldsIf_bin (by kernel_rfl) rfl (by kernel_rfl) (by kernel_rfl) (fun _ => rfl) b1) S0 ?_
  refine held_take (i := 4) (v := .agg #[.int .i64 p, dv, mv, .slice al ls.length capl]) (some 29) rfl rfl (by kernel_rfl) (by kernel_rfl) (by kernel_rfl) (fun _ _ _ h => h) (yieldsIf_cell (by kernel_rfl) rfl (by kernel_rfl) (fun W h => hloadF W (HNX.out W h).c0 (HNX.out W h).c1 (HNX.out W h).c2 (HNX.out W h).c3)) S0 ?_
  refine held_take (i := 5) (v := .int .i64 r) (some 30) rfl rfl (by kernel_rfl) (by kernel_rfl) (by kernel_rfl) (fun _ _ _ h => h) (yieldsIf_move (by kernel_rfl) rfl (by kernel_rfl)) S0 ?_
  refine held_take (i := 6) (v := .int .i64 rm) (some 31) rfl rfl (by kernel_rfl) (by kernel_rfl) (by kernel_rfl) (fun _ _ _ h => h) (yieldsIf_bin (by kernel_rfl) rfl (by kernel_rfl) (by kernel_rfl) (fun _ => rfl) b2) S0 ?_
  refine held_take (i := 7) (v := .int .i64 (k : Int)) (some 32) rfl rfl (by kernel_rfl) (by kernel_rfl) (by kernel_rfl) (fun _ _ _ h => h) (yieldsIf_move (by kernel_rfl) rfl (by kernel_rfl)) S0 ?_
  refine held_take (i := 8) (v := .int .i64 (k1 : Int)) (some 33) rfl rfl (by kernel_rfl) (by kernel_rfl) (by kernel_rfl) (fun _ _ _ h => h) (yieldsIf_bin (by kernel_rfl) rfl (by kernel_rfl) (by kernel_rfl) (fun _ => rfl) b1) S0 ?_
  refine held_take (i := 9) (v := .int .i64 q) (some 34) rfl rfl (by kernel_rfl) (by kernel_rfl) (by kernel_rfl) (fun _ _ _ h => h) (yieldsIf_move (by kernel_rfl) rfl (by kernel_rfl)) S0 ?_
  refine held_take (i := 10) (v := .int .i64 r) (some 35) rfl rfl (by kernel_rfl) (by kernel_rfl) (by kernel_rfl) (fun _ _ _ h => h) (yieldsIf_move (by kernel_rfl) rfl (by kernel_rfl)) S0 ?_
  refine held_take (i := 11) (v := .int .i64 qr) (some 36) rfl rfl (by kernel_rfl) (by kernel_rfl) (by kernel_rfl) (fun _ _ _ h => h) (yieldsIf_bin (by kernel_rfl) rfl (by kernel_rfl) (by kernel_rfl) (fun _ => rfl) b3) S0 ?_
  refine held_take (i := 12) (v := .int .i64 qs) (some 37) rfl rfl (by kernel_rfl) (by kernel_rfl) (by kernel_rfl) (fun _ _ _ h => h) (yieldsIf_bin (by kernel_rfl) rfl (by kernel_rfl) (by kernel_rfl) (fun _ => rfl) b4) S0 ?_
  refine held_enter (i := 13) (some 38) (f := 93) (args := #[.agg #[.int .i64 p, dv, mv, .slice al ls.length capl], .int .i64 rm, .int .i64 (k1 : Int), .int .i64 qs]) (by kernel_rfl) rfl rfl rfl (by kernel_rfl) (HU.out _ (HNX.out _ S0).fi) ?_ (fun c w' h => by obtain ⟨_, _, h, _⟩ := h; cases h) (fun w' h => by obtain ⟨_, _, h, _⟩ := h; cases h)
  rintro e5 W5 ⟨u5, R, he5, hg5, hb5, hz5⟩
  injection he5 with he5
  subst he5
  have S1 : Below w1.heap.size w1 W5 := S0.trans (hb5.mono S0.size)
  have HZ5 := Lib.hid hz5
  have HG5 := Lib.hid hg5.l2
  have hrl := hz5.short
  have hrl8 : R.length ≤ 8 := by have := (dimN_le8 HF.out.1 k1).1; omega
  have HC5 := Lib.hid (HCD.out.below hb5)
  refine ⟨S1, ?_⟩
  refine held_enter (i := 14) (some 39) (f := 106) (args := #[.agg #[.int .i64 p, dv, mv, .slice al ls.length capl], .int .i64 (k1 : Int), e5]) (by kernel_rfl) rfl rfl rfl (by kernel_rfl) (l02Images_any p k1 e5 R dv mv (.slice al ls.length capl) ds ms ls W5 (HNX.out _ S1).fi HF.out hkd1 hk1p HG5.out HZ5.out.1.md hrl8) ?_ (fun c w' h => by obtain ⟨_, h, _⟩ := h; cases h) (fun w' h => by obtain ⟨_, h, _⟩ := h; cases h)
  rw [HCM.out]
  rintro e6 W6 ⟨u6, he6, hg6, hb6⟩
  injection he6 with he6
  subst he6
  have S2 : Below w1.heap.size w1 W6 := S1.trans (hb6.mono S1.size)
  obtain ⟨is, hri, hgi⟩ := hg6.rowsOf
  have HRI := Lib.hid hri
  have HGI := Lib.hid hgi
  have HC6 := Lib.hid (HC5.out.below hb6)
  have HIL : Hid (((dimgs p ds ms k1 R).map (toL d)).length = R.length) := Lib.hid (by simp [dimgs])
  refine ⟨S2, ?_⟩
  refine held_appendT (i := 15) (some 40) (by kernel_rfl) rfl rfl rfl (.tmp 25) (.tmp 39) rfl w1.heap.size (A.map (toL d)).length v4 e6 zs ((dimgs p ds ms k1 R).map (toL d)) is (by kernel_rfl) (by kernel_rfl) HC6.out.own HRI.out (by rw [HAL.out, HIL.out]; omega) S2.size ?_
  intro v7 W7 ho7 hg7
  have S3 : Below w1.heap.size w1 W7 := S2.grown hg7 S2.size (fun g hg => ((World.ownsRow.lt HC6.out.own) g hg).1)
  have HC7 := Lib.hid (HC6.out.add HGI.out HRI.out.len ho7 hg7)
  have HS3 := Lib.hid S3
  refine ⟨S3, ?_⟩
  refine held_take (i := 16) (v := v7) (some 9) rfl rfl (by kernel_rfl) (by kernel_rfl) (by kernel_rfl) (fun _ _ _ h => h) (yieldsIf_assign (by kernel_rfl) rfl (by kernel_rfl)) S3 ?_
  refine wpAnyH_done (by kernel_rfl) ?_ _
  simp only [Act.put, List.setIfInBounds_toArray, List.set_cons_zero, List.set_cons_succ]
  clear S0 S1 S2 S3 hb5 hg5 hz5 hb6 hg6 hri hgi ho7 hg7 b1 b2 b3 b4
  have HX7 := Lib.hid (HNX.out _ HS3.out)
  have c0 := HX7.out.c0
  have c1 := HX7.out.c1
  have c2 := HX7.out.c2
  have c3 := HX7.out.c3
  have HUP : Hid (UpP p ds ms ls (k + 1) (q + r - 1) q R) := Lib.hid ⟨fun _ => by have h := HZ5.out; rwa [HK1.out] at h, fun hn => absurd HKX.out hn⟩
  have HL7 : Hid (L2 0 W7 v7 ((A ++ dimgs p ds ms (k + 1) R).map (toL d))) := Lib.hid (by have h := HC7.out.gs.l2; rwa [← List.map_append, HK1.out] at h)
  have HMM : Hid (∀ u ∈ A ++ dimgs p ds ms (k + 1) R, Lin.Md p u) := Lib.hid (fun u hu => (List.mem_append.1 hu).elim (HZ3.out.1.md u) (dimgs_md (by omega) ds ms (k + 1) R u))
  have HMW : Hid (∀ u ∈ A ++ dimgs p ds ms (k + 1) R, Lin.Wd d u) := Lib.hid (fun u hu => (List.mem_append.1 hu).elim (HZ3.out.2.1 u) (by rw [HDE.out]; exact dimgs_wd HF.out.1 HUP.out u))
  have HML : Hid ((A ++ dimgs p ds ms (k + 1) R).length = A.length + R.length) := Lib.hid (by simp [dimgs])
  have HEC := Lib.hid (l01Echelon_any p d v7 (A ++ dimgs p ds ms (k + 1) R) W7 HF.out.1.1.prime HL7.out HMM.out HMW.out (by omega) (by rw [HML.out]; omega))
  go_wp2_with fail
  refine HEC.out.mono ?_
  rintro e w8 ⟨u8, E, rfl, hg8, hb8, hr8, _⟩
  have hsW : w1.heap.size ≤ W7.heap.size := HS3.out.size
  have HG8 := Lib.hid (hg8.mono (show w.heap.size ≤ W7.heap.size by have := HS01.out; omega))
  have HB8 := Lib.hid (HNX.out _ (HS3.out.trans (hb8.mono hsW))).below
  have HR8 := Lib.hid hr8
  clear hg8 hb8 hr8 HEC
  go_wp2
  go_ret
  rw [HDE.out] at HZ3 HG8
  exact ⟨u8, E, rfl, HG8.out, HB8.out, botS_of HF.out.1 HZ3.out HUP.out HR8.out.red HR8.out.eqv⟩

theorem l02Bottom_any (p : Int) (k : Nat) (r q : Int) (dv mv lv : Value) (ds : List Int) (ms : List (List (List Int))) (ls : List (List Int)) (w : World) (h : Fi 0 w dv mv lv ds ms ls) (hf : IsFil p ds ms ls) (hk : k < ds.length) (hr : -20 ≤ r ∧ r ≤ 20) (hq : -20 ≤ q ∧ q ≤ 20) :
    Calls Try.prog 96 #[.agg #[.int .i64 p, dv, mv, lv], .int .i64 r, .int .i64 (k : Int), .int .i64 q] w (SpG p (dimN ds (k : Int)) (BotS p ds ms ls k r q) w) := by
  by_cases hkx : k + 1 < ds.length
  · exact l02Bottom_in p k r q dv mv lv ds ms ls w h hf hk hkx hr hq
  · exact l02Bottom_out p k r q dv mv lv ds ms ls w h hf hk hkx hr hq
end Go.Proofs.Ytpdkfidmmjlmnab
