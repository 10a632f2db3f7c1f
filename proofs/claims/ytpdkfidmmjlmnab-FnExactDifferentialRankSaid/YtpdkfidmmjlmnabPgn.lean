/-
  BottomOf and PageNumber of both sides by their contracts.
-/
import Derived.Test.YtpdkfidmmjlmnabBos
namespace Go.Proofs.Ytpdkfidmmjlmnab
open Go.RowKit

/-- The number of a page. -/
def PgNum (p : Int) (ds : List Int) (ms : List (List (List Int))) (ls : List (List Int)) (k : Nat) (r q x : Int) : Prop :=
  ∃ Z B, SpF p (dimN ds (k : Int)) (ZcD p ds ms ls k q (q - r)) Z ∧ SpF p (dimN ds (k : Int)) (BotS p ds ms ls k r q) B ∧ x = (Z.length : Int) - (B.length : Int)
theorem PgNum.unique {p : Int} {ds : List Int} {ms : List (List (List Int))} {ls : List (List Int)} {k : Nat} {r q x y : Int} (hp : 1 < p) (h : PgNum p ds ms ls k r q x) (h' : PgNum p ds ms ls k r q y) : x = y := by
  obtain ⟨A, B, a, b, rfl⟩ := h
  obtain ⟨C, D, c, d, rfl⟩ := h'
  rw [a.unique' hp c, b.unique' hp d]

set_option maxHeartbeats 3200000 in
set_option maxRecDepth 100000 in
theorem pageSpaceAt_bottomSpace (p r n q : Int) (S : Lin.V → Prop) (dv mv lv : Value) (ds : List Int) (ms : List (List (List Int))) (ls : List (List Int)) (w : World) (h : Fi 0 w dv mv lv ds ms ls) (hd : ds.length ≤ 1048576) (hm : Bd3 1048576 ms) (hl : Bd2 1048576 ls)
    (hf : celCode p ds ms ls r n q = 0 → ∀ W, Fi 0 W dv mv lv ds ms ls → Calls Try.prog 97 #[.agg #[.int .i64 p, dv, mv, lv], .int .i64 r, .int .i64 n, .int .i64 q] W (VsR (SpF p (dimN ds n) S) W)) :
    Calls Try.prog 94 #[.agg #[.int .i64 p, dv, mv, lv], .int .i64 r, .int .i64 n, .int .i64 q, .func (.func 97) #[] #[]] w (SpW p (dimN ds n) S (celCode p ds ms ls r n q) w) := by
  have HX0 := Lib.hid (Fx.start (p := p) 33 h)
  have HCK := Lib.hid (checkCell_any p r n q dv mv lv ds ms ls _ HX0.out.fi hd hm hl)
  have HF := Lib.hid hf
  obtain ⟨ad, cap, hdv⟩ := Sl.shape h.cx.dims
  have c0 := HX0.out.c0
  have c1 := HX0.out.c1
  have c2 := HX0.out.c2
  have c3 := HX0.out.c3
  clear h hm hl hf
  by_cases hcode : celCode p ds ms ls r n q = 0
  · obtain ⟨hfil, _, hr, _⟩ := celCode_zero hcode
    obtain ⟨k, rfl⟩ : ∃ k : Nat, n = (k : Int) := ⟨n.toNat, by have := hr.1; omega⟩
    have hk : k < ds.length := by have := hr.2; omega
    have HCODE := Lib.hid hcode
    refine Sl.cases HX0.out.fi.cx.dims (fun _ _ hx _ => absurd hk (by simp [hx])) (fun bd od capd hvd _ _ _ => ?_)
    subst hvd
    have hdim := hfil.1.1.dim k
    obtain ⟨c, hc⟩ := Int.eq_ofNat_of_zero_le hdim.1
    have hc8 : c ≤ 8 := by omega
    have HDN : Hid (dimN ds (k : Int) = c) := Lib.hid (by unfold dimN; rw [Int.toNat_natCast, hc]; rfl)
    have HC := Lib.hid hc
    rw [hcode] at HCK
    clear hfil hr hcode hdv hdim hc
    go_enter Try.func94, Try.ntmps94
    go_wp2_with fail
    refine HCK.out.mono ?_
    rintro e w1 ⟨rfl, hb1⟩
    have HX1 := Lib.hid (HX0.out.next hb1)
    clear hb1 HCK HX0 c0 c1 c2 c3
    go_wp2
    have HNX : Hid (∀ W, Below w1.heap.size w1 W → Fx w W w.heap.size p (.slice (some ⟨bd, od, none⟩) ds.length capd) mv lv ds ms ls) := Lib.hid (fun W h => HX1.out.next h)
    have HDQ : Hid (∀ W, Below w1.heap.size w1 W → W.cell? ⟨bd, od + k, none⟩ = some (.int .i64 (c : Int))) := Lib.hid (fun W h => by
      obtain ⟨ud, hud, hrd⟩ := Sl.at (HNX.out W h).fi.cx.dims hk
      rw [hud, hrd, ← getD_of_lt 0 hk, HC.out])
    refine wp_region_held (S := fun W => Below w1.heap.size w1 W) (by kernel_rfl) ?_
    have S0 : Below w1.heap.size w1 w1.drew := (Below.refl _ _).drew
    refine held_take (i := 0) (v := .func (.func 97) #[] #[]) (some 21) rfl rfl (by kernel_rfl) (by kernel_rfl) (by kernel_rfl) (fun _ _ _ h => h) (yieldsIf_move (by kernel_rfl) rfl (by kernel_rfl)) S0 ?_
    refine held_take (i := 1) (v := .agg #[.int .i64 p, .slice (some ⟨bd, od, none⟩) ds.length capd, mv, lv]) (some 22) rfl rfl (by kernel_rfl) (by kernel_rfl) (by kernel_rfl) (fun _ _ _ h => h) (yieldsIf_cell (by kernel_rfl) rfl (by kernel_rfl) (fun W h => hloadF W (HNX.out W h).c0 (HNX.out W h).c1 (HNX.out W h).c2 (HNX.out W h).c3)) S0 ?_
    refine held_take (i := 2) (v := .int .i64 r) (some 23) rfl rfl (by kernel_rfl) (by kernel_rfl) (by kernel_rfl) (fun _ _ _ h => h) (yieldsIf_move (by kernel_rfl) rfl (by kernel_rfl)) S0 ?_
    refine held_take (i := 3) (v := .int .i64 (k : Int)) (some 24) rfl rfl (by kernel_rfl) (by kernel_rfl) (by kernel_rfl) (fun _ _ _ h => h) (yieldsIf_move (by kernel_rfl) rfl (by kernel_rfl)) S0 ?_
    refine held_take (i := 4) (v := .int .i64 q) (some 25) rfl rfl (by kernel_rfl) (by kernel_rfl) (by kernel_rfl) (fun _ _ _ h => h) (yieldsIf_move (by kernel_rfl) rfl (by kernel_rfl)) S0 ?_
    refine held_take (i := 6) (v := .pointer (some ⟨w.heap.size, 0, none⟩)) (some 27) rfl rfl (by kernel_rfl) (by kernel_rfl) (by kernel_rfl) (fun _ _ _ h => h) (yieldsIf_run (by kernel_rfl) (fun W _ => by kernel_rfl)) S0 ?_
    refine held_take (i := 7) (v := .pointer (some ⟨w.heap.size, 1, none⟩)) (some 28) rfl rfl (by kernel_rfl) (by kernel_rfl) (by kernel_rfl) (fun _ _ _ h => h) (yieldsIf_run (by kernel_rfl) (fun W _ => by kernel_rfl)) S0 ?_
    refine held_take (i := 8) (v := .slice (some ⟨bd, od, none⟩) ds.length capd) (some 29) rfl rfl (by kernel_rfl) (by kernel_rfl) (by kernel_rfl) (fun _ _ _ h => h) (yieldsIf_cell (by kernel_rfl) rfl (by kernel_rfl) (fun W h => hloadS W (HNX.out W h).c1)) S0 ?_
    refine held_take (i := 9) (v := .int .i64 (k : Int)) (some 30) rfl rfl (by kernel_rfl) (by kernel_rfl) (by kernel_rfl) (fun _ _ _ h => h) (yieldsIf_move (by kernel_rfl) rfl (by kernel_rfl)) S0 ?_
    refine held_take (i := 10) (v := .pointer (some ⟨bd, od + k, none⟩)) (some 31) rfl rfl (by kernel_rfl) (by kernel_rfl) (by kernel_rfl) (fun _ _ _ h => h) (yieldsIf_index (by kernel_rfl) rfl (by kernel_rfl) (by kernel_rfl) (hidxI bd od capd hk)) S0 ?_
    refine held_take (i := 11) (v := .int .i64 (c : Int)) (some 32) rfl rfl (by kernel_rfl) (by kernel_rfl) (by kernel_rfl) (fun _ _ _ h => h) (yieldsIf_cell (by kernel_rfl) rfl (by kernel_rfl) (fun W h => hload W (HDQ.out W h))) S0 ?_
    refine held_enter (i := 5) (some 26) (f := 97) (args := #[.agg #[.int .i64 p, .slice (some ⟨bd, od, none⟩) ds.length capd, mv, lv], .int .i64 r, .int .i64 (k : Int), .int .i64 q]) (by kernel_rfl) rfl rfl rfl (by kernel_rfl) (HF.out HCODE.out _ (HNX.out _ S0).fi) ?_ (fun c w' h => by obtain ⟨_, _, h, _⟩ := h; cases h) (fun w' h => by obtain ⟨_, _, h, _⟩ := h; cases h)
    rintro e4 W4 ⟨s4, R, he4, hb4, ho4, hsp⟩
    injection he4 with he4
    subst he4
    have S1 : Below w1.heap.size w1 W4 := S0.trans hb4
    have HO4 := Lib.hid (ho4.vs.lower (Nat.zero_le _))
    have HSP := Lib.hid hsp
    have hshort := hsp.short
    rw [HDN.out] at hshort
    refine ⟨S1, ?_⟩
    clear hb4 ho4 hsp
    refine held_enter (i := 12) (some 33) (f := 156) (args := #[e4, .int .i64 (c : Int)]) (by kernel_rfl) rfl rfl rfl (by kernel_rfl) (rowsOf_any c e4 R W4 HO4.out (by omega) (by omega)) ?_ (fun c w' h => by obtain ⟨_, h, _⟩ := h; cases h) (fun w' h => by obtain ⟨_, h, _⟩ := h; cases h)
    rintro e5 W5 ⟨u5, he5, ht5, hb5⟩
    injection he5 with he5
    subst he5
    have S2 : Below w1.heap.size w1 W5 := S1.trans (hb5.mono S1.size)
    have HT5 := Lib.hid ht5
    have hs4 : w1.heap.size ≤ W4.heap.size := S1.size
    have HB5 := Lib.hid (HNX.out _ S2).below
    have hs1 : w.heap.size ≤ w1.heap.size := HX1.out.below.size
    refine ⟨S2, ?_⟩
    refine held_take (i := 13) (v := e5) (some 10) rfl rfl (by kernel_rfl) (by kernel_rfl) (by kernel_rfl) (fun _ _ _ h => h) (yieldsIf_assign (by kernel_rfl) rfl (by kernel_rfl)) S2 ?_
    refine held_take (i := 14) (v := .int .i64 0) (some 11) rfl rfl (by kernel_rfl) (by kernel_rfl) (by kernel_rfl) (fun _ _ _ h => h) (yieldsIf_assign (by kernel_rfl) rfl (by kernel_rfl)) S2 ?_
    refine wpAnyH_done (by kernel_rfl) ?_ _
    simp only [Act.put, List.setIfInBounds_toArray, List.set_cons_zero, List.set_cons_succ]
    clear S0 S1 S2 ht5 hb5
    go_wp2
    go_ret2
    refine ⟨e5, R.map (toL c), 0, rfl, HT5.out.wider (by omega), HB5.out, ?_⟩
    rw [HCODE.out]
    have hh := HSP.out
    rw [HDN.out] at hh ⊢
    exact ⟨fun _ => ⟨R, hh.1, hh.2.1, hh.2.2, rfl⟩, fun hh => absurd rfl hh, rfl⟩
  · have HNC := Lib.hid hcode
    subst hdv
    obtain ⟨k, hk⟩ : ∃ k, k = celCode p ds ms ls r n q := ⟨_, rfl⟩
    rw [← hk] at HCK
    have hne : ¬ k = 0 := by rw [hk]; exact hcode
    have HKE := Lib.hid hk
    have hne2 : (k != 0) = true := by simp [hne]
    have hne3 : (k == 0) = false := by simp [hne]
    clear hcode HF hk hne
    go_enter Try.func94, Try.ntmps94
    go_wp2_with fail
    refine HCK.out.mono ?_
    rintro e w1 ⟨rfl, hb1⟩
    have HX1 := Lib.hid (HX0.out.next hb1)
    clear hb1 HCK HX0
    go_wp2
    go_ret2
    refine ⟨_, [], k, rfl, TW.nil _ _ _, HX1.out.below, ?_⟩
    rw [HKE.out]
    exact SpOut.of_no HNC.out

set_option maxHeartbeats 1600000 in
theorem bottomOf_any (p r n q : Int) (dv mv lv : Value) (ds : List Int) (ms : List (List (List Int))) (ls : List (List Int)) (w : World) (h : Fi 0 w dv mv lv ds ms ls) (hd : ds.length ≤ 1048576) (hm : Bd3 1048576 ms) (hl : Bd2 1048576 ls) :
    Calls Try.prog 33 #[.agg #[.int .i64 p, dv, mv, lv], .int .i64 r, .int .i64 n, .int .i64 q] w (SpW p (dimN ds n) (BotS p ds ms ls n.toNat r q) (celCode p ds ms ls r n q) w) := by
  have HX0 := Lib.hid (Fx.start (p := p) 33 h)
  have HSA := Lib.hid (pageSpaceAt_bottomSpace p r n q (BotS p ds ms ls n.toNat r q) dv mv lv ds ms ls _ HX0.out.fi hd hm hl (fun hc W hW => by
    obtain ⟨hfil, hcr, hr, hcq⟩ := celCode_zero hc
    obtain ⟨k, rfl⟩ : ∃ k : Nat, n = (k : Int) := ⟨n.toNat, by have := hr.1; omega⟩
    exact bottomSpace_any p k r q dv mv lv ds ms ls W hW hfil (by have := hr.2; omega) (by omega) (by omega)))
  have c0 := HX0.out.c0
  have c1 := HX0.out.c1
  have c2 := HX0.out.c2
  have c3 := HX0.out.c3
  clear h hm hl
  go_enter Try.func33, Try.ntmps33
  go_wp2_with fail
  refine HSA.out.mono ?_
  rintro e w1 ⟨u, out, c, rfl, ht, hb, ho⟩
  have HT := Lib.hid ht
  have HB := Lib.hid (HX0.out.next hb).below
  have HO := Lib.hid ho
  clear ht hb ho HSA
  have hs0 := HX0.out.below.size
  go_wp2
  go_ret2
  exact ⟨u, out, c, rfl, HT.out.wider hs0, HB.out, HO.out⟩

set_option maxHeartbeats 1600000 in
theorem spBottomOf_any (p r n q : Int) (dv mv lv : Value) (ds : List Int) (ms : List (List (List Int))) (ls : List (List Int)) (w : World) (h : Fi 0 w dv mv lv ds ms ls) (hd : ds.length ≤ 1048576) (hm : Bd3 1048576 ms) (hl : Bd2 1048576 ls) :
    Calls Try.prog 32 #[.agg #[.int .i64 p, dv, mv, lv], .int .i64 r, .int .i64 n, .int .i64 q] w (SpS p (dimN ds n) (BotS p ds ms ls n.toNat r q) (celCode p ds ms ls r n q) w) := by
  have HX0 := Lib.hid (Fx.start (p := p) 33 h)
  have HCK := Lib.hid (l02Code_any p r n q dv mv lv ds ms ls _ HX0.out.fi hd hm hl)
  have c0 := HX0.out.c0
  have c1 := HX0.out.c1
  have c2 := HX0.out.c2
  have c3 := HX0.out.c3
  obtain ⟨k, hk⟩ : ∃ k, k = celCode p ds ms ls r n q := ⟨_, rfl⟩
  rw [← hk] at HCK ⊢
  have HKE := Lib.hid hk
  clear h hm hl hk
  go_enter Try.func32, Try.ntmps32
  go_wp2_with fail
  refine HCK.out.mono ?_
  rintro e w1 ⟨rfl, hb1⟩
  have HX1 := Lib.hid (HX0.out.next hb1)
  clear hb1 c0 c1 c2 c3 HCK
  have c0 := HX1.out.c0
  have c1 := HX1.out.c1
  have c2 := HX1.out.c2
  have c3 := HX1.out.c3
  by_cases hk : k = 0
  · subst hk
    obtain ⟨hfil, hcr, hr, hcq⟩ := celCode_zero HKE.out.symm
    obtain ⟨k, rfl⟩ : ∃ k : Nat, n = (k : Int) := ⟨n.toNat, by have := hr.1; omega⟩
    have HB := Lib.hid (l02Bottom_any p k r q dv mv lv ds ms ls _ HX1.out.fi hfil (by have := hr.2; omega) (by omega) (by omega))
    clear hfil hr hcr hcq
    go_wp2_with fail
    refine HB.out.mono ?_
    rintro e w2 ⟨u2, R, rfl, hg2, hb2, hr2⟩
    have HG2 := Lib.hid hg2.l2
    have HX2 := Lib.hid (HX1.out.next hb2)
    have HR2 := Lib.hid hr2
    clear hg2 hb2 hr2 HB
    go_wp2
    go_ret2
    exact ⟨u2, R.map (toL (dimN ds (k : Int))), 0, rfl, HG2.out, HX2.out.below, fun _ => ⟨R, HR2.out.1, HR2.out.2.1, HR2.out.2.2, rfl⟩, fun hh => absurd rfl hh, rfl⟩
  · have hne2 : (k != 0) = true := by simp [hk]
    have hne3 : (k == 0) = false := by simp [hk]
    have HK := Lib.hid hk
    clear hk
    go_wp2
    go_ret2
    exact ⟨_, [], k, rfl, nil2 _, HX1.out.below, SpOut.of_no HK.out⟩

set_option maxHeartbeats 3200000 in
set_option maxRecDepth 100000 in
theorem pageNumber_any (p : Int) (k : Nat) (r q : Int) (dv mv lv : Value) (ds : List Int) (ms : List (List (List Int))) (ls : List (List Int)) (w : World) (h : Fi 0 w dv mv lv ds ms ls) (hf : IsFil p ds ms ls) (hk : k < ds.length) (hr : 0 ≤ r ∧ r ≤ 8) (hq : 0 ≤ q ∧ q ≤ 5) :
    Calls Try.prog 100 #[.agg #[.int .i64 p, dv, mv, lv], .int .i64 r, .int .i64 k, .int .i64 q] w (IntR (PgNum p ds ms ls k r q) w) := by
  have HX0 := Lib.hid (Fx.start (p := p) 33 h)
  have HA : Hid (∀ W, Hid (Fx w W w.heap.size p dv mv lv ds ms ls) → Calls Try.prog 95 #[.agg #[.int .i64 p, dv, mv, lv], .int .i64 r, .int .i64 (k : Int), .int .i64 q] W (VsR (SpF p (dimN ds (k : Int)) (ZcD p ds ms ls k q (q - r))) W)) := Lib.hid (fun W hW => approximateSpace_any p k r q dv mv lv ds ms ls W hW.out.fi hf hk (by omega) (by omega))
  have HB : Hid (∀ W, Hid (Fx w W w.heap.size p dv mv lv ds ms ls) → Calls Try.prog 97 #[.agg #[.int .i64 p, dv, mv, lv], .int .i64 r, .int .i64 (k : Int), .int .i64 q] W (VsR (SpF p (dimN ds (k : Int)) (BotS p ds ms ls k r q)) W)) := Lib.hid (fun W hW => bottomSpace_any p k r q dv mv lv ds ms ls W hW.out.fi hf hk (by omega) (by omega))
  have HCX := Lib.hid hf.1
  have hd8 := (dimN_le8 hf.1 k).1
  have c0 := HX0.out.c0
  have c1 := HX0.out.c1
  have c2 := HX0.out.c2
  have c3 := HX0.out.c3
  have HXD := Lib.hid (HX0.out.next (Below.refl _ _).drew)
  clear h hf
  go_enter Try.func100, Try.ntmps100
  go_wp2
  go_region_held3 (fun w' => w'.cell? ⟨w.heap.size, 0, none⟩ = some (.int .i64 p) ∧ w'.cell? ⟨w.heap.size, 1, none⟩ = some dv ∧ w'.cell? ⟨w.heap.size, 2, none⟩ = some mv ∧ w'.cell? ⟨w.heap.size, 3, none⟩ = some lv ∧ Hid (Fx w w' w.heap.size p dv mv lv ds ms ls))
    (first | exact Fx.all HX0 | exact Fx.all HXD | exact Fx.all HX4 | exact Fx.all HX5 | go_keep)
    (first
      | (go_at_call 95; refine (HA.out _ ?_).mono ?_; (first | assumption | exact HXD); rintro e w4 ⟨s4, Z, rfl, hb4, ho4, hr4⟩; obtain ⟨a4, c4, rfl⟩ := ho4.shape; clear ho4; have HX4 := Lib.hid (HXD.out.next hb4); have HR4 := Lib.hid hr4; have hl4 := hr4.short; clear hb4 hr4 HA)
      | (go_at_call 97; refine (HB.out _ HX4).mono ?_; rintro e w5 ⟨s5, B, rfl, hb5, ho5, hr5⟩; obtain ⟨a5, c5, rfl⟩ := ho5.shape; clear ho5; have HX5 := Lib.hid (HX4.out.next hb5); have HR5 := Lib.hid hr5; have hl5 := hr5.short; clear hb5 hr5))
  go_wp2
  go_ret
  refine ⟨(Z.length : Int) - (B.length : Int), ret_int ?_, HX5.out.below, Z, B, HR4.out, HR5.out, rfl⟩
  first | rfl | exact IntWalk.i64_in _ (by omega)

set_option maxHeartbeats 3200000 in
set_option maxRecDepth 100000 in
theorem l02Number_any (p : Int) (k : Nat) (r q : Int) (dv mv lv : Value) (ds : List Int) (ms : List (List (List Int))) (ls : List (List Int)) (w : World) (h : Fi 0 w dv mv lv ds ms ls) (hf : IsFil p ds ms ls) (hk : k < ds.length) (hr : 0 ≤ r ∧ r ≤ 8) (hq : 0 ≤ q ∧ q ≤ 5) :
    Calls Try.prog 98 #[.agg #[.int .i64 p, dv, mv, lv], .int .i64 r, .int .i64 k, .int .i64 q] w (IntR (PgNum p ds ms ls k r q) w) := by
  have HX0 := Lib.hid (Fx.start (p := p) 33 h)
  have HA : Hid (∀ W, Hid (Fx w W w.heap.size p dv mv lv ds ms ls) → Calls Try.prog 93 #[.agg #[.int .i64 p, dv, mv, lv], .int .i64 r, .int .i64 (k : Int), .int .i64 q] W (SpG p (dimN ds (k : Int)) (ZcD p ds ms ls k q (q - r)) W)) := Lib.hid (fun W hW => l02Cycles_any p k r q dv mv lv ds ms ls W hW.out.fi hf hk (by omega) (by omega))
  have HB : Hid (∀ W, Hid (Fx w W w.heap.size p dv mv lv ds ms ls) → Calls Try.prog 96 #[.agg #[.int .i64 p, dv, mv, lv], .int .i64 r, .int .i64 (k : Int), .int .i64 q] W (SpG p (dimN ds (k : Int)) (BotS p ds ms ls k r q) W)) := Lib.hid (fun W hW => l02Bottom_any p k r q dv mv lv ds ms ls W hW.out.fi hf hk (by omega) (by omega))
  have HCX := Lib.hid hf.1
  have hd8 := (dimN_le8 hf.1 k).1
  have c0 := HX0.out.c0
  have c1 := HX0.out.c1
  have c2 := HX0.out.c2
  have c3 := HX0.out.c3
  have HXD := Lib.hid (HX0.out.next (Below.refl _ _).drew)
  clear h hf
  go_enter Try.func98, Try.ntmps98
  go_wp2
  go_region_held3 (fun w' => w'.cell? ⟨w.heap.size, 0, none⟩ = some (.int .i64 p) ∧ w'.cell? ⟨w.heap.size, 1, none⟩ = some dv ∧ w'.cell? ⟨w.heap.size, 2, none⟩ = some mv ∧ w'.cell? ⟨w.heap.size, 3, none⟩ = some lv ∧ Hid (Fx w w' w.heap.size p dv mv lv ds ms ls))
    (first | exact Fx.all HX0 | exact Fx.all HXD | exact Fx.all HX4 | exact Fx.all HX5 | go_keep)
    (first
      | (go_at_call 93; refine (HA.out _ ?_).mono ?_; (first | assumption | exact HXD); rintro e w4 ⟨s4, Z, rfl, hg4, hb4, hr4⟩; obtain ⟨a4, c4, hv4⟩ := Sl.shape hg4.l2; rw [List.length_map] at hv4; subst hv4; clear hg4; have HX4 := Lib.hid (HXD.out.next hb4); have HR4 := Lib.hid hr4; have hl4 := hr4.short; clear hb4 hr4 HA)
      | (go_at_call 96; refine (HB.out _ HX4).mono ?_; rintro e w5 ⟨s5, B, rfl, hg5, hb5, hr5⟩; obtain ⟨a5, c5, hv5⟩ := Sl.shape hg5.l2; rw [List.length_map] at hv5; subst hv5; clear hg5; have HX5 := Lib.hid (HX4.out.next hb5); have HR5 := Lib.hid hr5; have hl5 := hr5.short; clear hb5 hr5))
  go_wp2
  go_ret
  refine ⟨(Z.length : Int) - (B.length : Int), ret_int ?_, HX5.out.below, Z, B, HR4.out, HR5.out, rfl⟩
  first | rfl | exact IntWalk.i64_in _ (by omega)

set_option maxHeartbeats 1600000 in
set_option maxRecDepth 100000 in
theorem pageNumberOf_any (p r n q : Int) (dv mv lv : Value) (ds : List Int) (ms : List (List (List Int))) (ls : List (List Int)) (w : World) (h : Fi 0 w dv mv lv ds ms ls) (hd : ds.length ≤ 1048576) (hm : Bd3 1048576 ms) (hl : Bd2 1048576 ls) :
    Calls Try.prog 35 #[.agg #[.int .i64 p, dv, mv, lv], .int .i64 r, .int .i64 n, .int .i64 q] w (NumW (fun x => PgNum p ds ms ls n.toNat r q x) (celCode p ds ms ls r n q) w) := by
  have HX0 := Lib.hid (Fx.start (p := p) 33 h)
  have HCK := Lib.hid (checkCell_any p r n q dv mv lv ds ms ls _ HX0.out.fi hd hm hl)
  have c0 := HX0.out.c0
  have c1 := HX0.out.c1
  have c2 := HX0.out.c2
  have c3 := HX0.out.c3
  obtain ⟨kc, hkc⟩ : ∃ kc, kc = celCode p ds ms ls r n q := ⟨_, rfl⟩
  rw [← hkc] at HCK ⊢
  have HKE := Lib.hid hkc
  clear h hm hl hkc
  go_enter Try.func35, Try.ntmps35
  go_wp2_with fail
  refine HCK.out.mono ?_
  rintro e w1 ⟨rfl, hb1⟩
  have HX1 := Lib.hid (HX0.out.next hb1)
  clear hb1 c0 c1 c2 c3 HCK
  have c0 := HX1.out.c0
  have c1 := HX1.out.c1
  have c2 := HX1.out.c2
  have c3 := HX1.out.c3
  by_cases hk : kc = 0
  · subst hk
    obtain ⟨hfil, hcr, hr, hcq⟩ := celCode_zero HKE.out.symm
    obtain ⟨k, rfl⟩ : ∃ k : Nat, n = (k : Int) := ⟨n.toNat, by have := hr.1; omega⟩
    have hkd : k < ds.length := by have := hr.2; omega
    have HB := Lib.hid (pageNumber_any p k r q dv mv lv ds ms ls _ HX1.out.fi hfil hkd hcr hcq)
    clear hfil hr hcr hcq hkd
    go_wp2_with fail
    refine HB.out.mono ?_
    rintro e w2 ⟨x, rfl, hb2, hx⟩
    have HX2 := Lib.hid (HX1.out.next hb2)
    have HN := Lib.hid hx
    clear hb2 hx HB
    go_wp2
    go_ret2
    exact ⟨x, 0, rfl, HX2.out.below, NOut.of_ok (by rw [Int.toNat_natCast]; exact HN.out)⟩
  · have hne2 : (kc != 0) = true := by simp [hk]
    have hne3 : (kc == 0) = false := by simp [hk]
    have HK := Lib.hid hk
    clear hk
    go_wp2
    go_ret2
    exact ⟨0, kc, rfl, HX1.out.below, NOut.of_no HK.out⟩

set_option maxHeartbeats 1600000 in
set_option maxRecDepth 100000 in
theorem spPageNumberOf_any (p r n q : Int) (dv mv lv : Value) (ds : List Int) (ms : List (List (List Int))) (ls : List (List Int)) (w : World) (h : Fi 0 w dv mv lv ds ms ls) (hd : ds.length ≤ 1048576) (hm : Bd3 1048576 ms) (hl : Bd2 1048576 ls) :
    Calls Try.prog 34 #[.agg #[.int .i64 p, dv, mv, lv], .int .i64 r, .int .i64 n, .int .i64 q] w (NumW (fun x => PgNum p ds ms ls n.toNat r q x) (celCode p ds ms ls r n q) w) := by
  have HX0 := Lib.hid (Fx.start (p := p) 33 h)
  have HCK := Lib.hid (l02Code_any p r n q dv mv lv ds ms ls _ HX0.out.fi hd hm hl)
  have c0 := HX0.out.c0
  have c1 := HX0.out.c1
  have c2 := HX0.out.c2
  have c3 := HX0.out.c3
  obtain ⟨kc, hkc⟩ : ∃ kc, kc = celCode p ds ms ls r n q := ⟨_, rfl⟩
  rw [← hkc] at HCK ⊢
  have HKE := Lib.hid hkc
  clear h hm hl hkc
  go_enter Try.func34, Try.ntmps34
  go_wp2_with fail
  refine HCK.out.mono ?_
  rintro e w1 ⟨rfl, hb1⟩
  have HX1 := Lib.hid (HX0.out.next hb1)
  clear hb1 c0 c1 c2 c3 HCK
  have c0 := HX1.out.c0
  have c1 := HX1.out.c1
  have c2 := HX1.out.c2
  have c3 := HX1.out.c3
  by_cases hk : kc = 0
  · subst hk
    obtain ⟨hfil, hcr, hr, hcq⟩ := celCode_zero HKE.out.symm
    obtain ⟨k, rfl⟩ : ∃ k : Nat, n = (k : Int) := ⟨n.toNat, by have := hr.1; omega⟩
    have hkd : k < ds.length := by have := hr.2; omega
    have HB := Lib.hid (l02Number_any p k r q dv mv lv ds ms ls _ HX1.out.fi hfil hkd hcr hcq)
    clear hfil hr hcr hcq hkd
    go_wp2_with fail
    refine HB.out.mono ?_
    rintro e w2 ⟨x, rfl, hb2, hx⟩
    have HX2 := Lib.hid (HX1.out.next hb2)
    have HN := Lib.hid hx
    clear hb2 hx HB
    go_wp2
    go_ret2
    exact ⟨x, 0, rfl, HX2.out.below, NOut.of_ok (by rw [Int.toNat_natCast]; exact HN.out)⟩
  · have hne2 : (kc != 0) = true := by simp [hk]
    have hne3 : (kc == 0) = false := by simp [hk]
    have HK := Lib.hid hk
    clear hk
    go_wp2
    go_ret2
    exact ⟨0, kc, rfl, HX1.out.below, NOut.of_no HK.out⟩
end Go.Proofs.Ytpdkfidmmjlmnab
