/-
  Boundaries: impl.mapAt, boundarySpace, BoundariesOf and spec.l01Bounds, BoundariesOf by their contracts.
-/
import Derived.Test.YtlbalcckjokeiaaSpAt
namespace Go.Proofs.Ytlbalcckjokeiaa
open Go.RowKit

/-- The table from the degree k + 1 to k, none beyond the degrees. -/
def tabN (ms : List (List (List Int))) (k : Nat) : List (List Int) := ms.getD k []
theorem tabN_ok {p : Int} {ds : List Int} {ms : List (List (List Int))} (h : IsCx p ds ms) (k : Nat) : ∀ r ∈ tabN ms k, RowOk p (ds.getD k 0) r := fun r hr => by
  by_cases hk : k < ms.length
  · exact (h.tab hk).2 r hr
  · have e : tabN ms k = [] := by simp [tabN, List.getD, show ms.length ≤ k by omega]
    rw [e] at hr
    cases hr
theorem tabN_len {p : Int} {ds : List Int} {ms : List (List (List Int))} (h : IsCx p ds ms) (k : Nat) : (tabN ms k).length ≤ 8 := by
  by_cases hk : k < ms.length
  · have h1 := (h.tab hk).1
    have := (h.1.dim (k + 1)).2
    have e : tabN ms k = ms.getD k [] := rfl
    rw [e]
    omega
  · have e : tabN ms k = [] := by simp [tabN, List.getD, show ms.length ≤ k by omega]
    rw [e]
    simp
theorem cx_row {p : Int} {ds : List Int} {ms : List (List (List Int))} (h : IsCx p ds ms) {k : Nat} {r : List Int} (hr : RowOk p (ds.getD k 0) r) : r.length = dimN ds (k : Int) ∧ dimN ds (k : Int) ≤ 8 := by
  have := h.1.dim k
  have h1 := hr.1
  unfold dimN
  rw [Int.toNat_natCast]
  omega
theorem vecs_md {p d : Int} {rows : List (List Int)} (hp : 0 < p) (h : ∀ r ∈ rows, RowOk p d r) : ∀ u ∈ rows.map ofL, Lin.Md p u := fun u hu => by
  obtain ⟨r, hr, rfl⟩ := List.mem_map.1 hu
  exact ofL_md hp (h r hr)
theorem vecs_wd {n : Nat} {rows : List (List Int)} (h : ∀ r ∈ rows, r.length = n) : ∀ u ∈ rows.map ofL, Lin.Wd n u := fun u hu => by
  obtain ⟨r, hr, rfl⟩ := List.mem_map.1 hu
  exact ofL_wd (by rw [h r hr]; exact Nat.le_refl _)
theorem rows_toL' {n : Nat} {rows : List (List Int)} (h : ∀ r ∈ rows, r.length = n) : (rows.map ofL).map (toL n) = rows := by
  rw [List.map_map]
  have : ∀ r ∈ rows, (toL n ∘ ofL) r = id r := fun r hr => toL_ofL (h r hr)
  rw [List.map_congr_left this, List.map_id]

set_option maxHeartbeats 1600000 in
set_option maxRecDepth 100000 in
theorem mapAt_any (p : Int) (k : Nat) (dv mv : Value) (ds : List Int) (ms : List (List (List Int))) (w : World) (h : Cx 0 w dv mv ds ms) (hcx : IsCx p ds ms) :
    Calls Try.prog 101 #[.agg #[.int .i64 p, dv, mv], .int .i64 k] w (L2R (tabN ms k) w) := by
  have HX0 := Lib.hid (Bx.start (p := p) 37 h)
  obtain ⟨ad, cap, rfl⟩ := Sl.shape h.dims
  obtain ⟨am, capm, rfl⟩ := Sl.shape h.maps
  have hml := hcx.1.mlen
  have hl6 := hcx.1.len1
  have c0 := HX0.out.c0
  have c1 := HX0.out.c1
  have c2 := HX0.out.c2
  clear h
  by_cases hk : k < ms.length
  · have hr : 0 ≤ (k : Int) ∧ (k : Int) ≤ (ds.length : Int) - 1 - 1 := by omega
    have HR := Lib.hid hr
    clear hr
    go_enter Try.func101, Try.ntmps101
    go_wp2_with fail
    refine (topOf_any p _ _ ds.length ad cap _ rfl (by omega)).mono ?_
    rintro e w1 ⟨rfl, hb1⟩
    have HX1 := Lib.hid (HX0.out.next hb1)
    clear hb1 c0 c1 c2
    have c0 := HX1.out.c0
    have c1 := HX1.out.c1
    have c2 := HX1.out.c2
    have hw1 : IntKind.i64.wrap ((ds.length : Int) - 1 - 1) = (ds.length : Int) - 1 - 1 := IntWalk.i64_in _ (by omega)
    go_wp2_with fail
    refine (in_yes HR.out _).mono ?_
    rintro e w' ⟨rfl, rfl⟩
    refine Sl.cases HX1.out.cx.maps (fun _ _ hx _ => absurd hk (by simp [hx])) (fun bm om capm2 hvm _ _ hclm => ?_)
    injection hvm with e1 _ e3
    subst e1 e3
    obtain ⟨um, hum, hrm⟩ := hclm k hk
    have HRM : Hid (L2 0 w1 um (tabN ms k)) := Lib.hid (by unfold tabN; rw [getD_of_lt _ hk]; exact hrm)
    have hk2 : (k : Int) < (ms.length : Int) := by omega
    have hk3 : (0 : Int) ≤ (k : Int) := by omega
    clear hrm hclm
    go_wp2
    go_ret
    exact ⟨um, rfl, HRM.out, HX1.out.below⟩
  · have hr : ¬ (0 ≤ (k : Int) ∧ (k : Int) ≤ (ds.length : Int) - 1 - 1) := by omega
    have HR := Lib.hid hr
    have HE : Hid (tabN ms k = []) := Lib.hid (by simp [tabN, List.getD, show ms.length ≤ k by omega])
    clear hr
    go_enter Try.func101, Try.ntmps101
    go_wp2_with fail
    refine (topOf_any p _ _ ds.length ad cap _ rfl (by omega)).mono ?_
    rintro e w1 ⟨rfl, hb1⟩
    have HX1 := Lib.hid (HX0.out.next hb1)
    clear hb1 c0 c1 c2
    have hw1 : IntKind.i64.wrap ((ds.length : Int) - 1 - 1) = (ds.length : Int) - 1 - 1 := IntWalk.i64_in _ (by omega)
    go_wp2_with fail
    refine (in_no HR.out _).mono ?_
    rintro e w' ⟨rfl, rfl⟩
    go_wp2
    go_ret
    exact ⟨_, rfl, by rw [HE.out]; exact nil2 _, HX1.out.below⟩

set_option maxHeartbeats 1600000 in
set_option maxRecDepth 100000 in
theorem boundarySpace_any (p : Int) (q : Nat) (dv mv : Value) (ds : List Int) (ms : List (List (List Int))) (w : World) (h : Cx 0 w dv mv ds ms) (hcx : IsCx p ds ms) :
    Calls Try.prog 78 #[.agg #[.int .i64 p, dv, mv], .int .i64 q] w (VsR (SpF p (dimN ds (q : Int)) (Lin.Sp p ((tabN ms q).map ofL))) w) := by
  have HX0 := Lib.hid (Bx.start (p := p) 37 h)
  obtain ⟨ad, cap, rfl⟩ := Sl.shape h.dims
  obtain ⟨am, capm, rfl⟩ := Sl.shape h.maps
  have HCX := Lib.hid hcx
  have hp1 := hcx.1.prime.lo1
  have c0 := HX0.out.c0
  have c1 := HX0.out.c1
  have c2 := HX0.out.c2
  have HLEN := Lib.hid (tabN_len hcx q)
  have HOK := Lib.hid (tabN_ok hcx q)
  have HRL : Hid (∀ r ∈ tabN ms q, r.length = dimN ds (q : Int)) := Lib.hid (fun r hr => (cx_row hcx (tabN_ok hcx q r hr)).1)
  have HR40 : Hid (∀ r ∈ tabN ms q, r.length ≤ 40) := Lib.hid (fun r hr => by have := cx_row hcx (tabN_ok hcx q r hr); omega)
  have HW40 : Hid (∀ u ∈ (tabN ms q).map ofL, Lin.Wd 40 u) := Lib.hid (fun u hu => by
    obtain ⟨r, hr, rfl⟩ := List.mem_map.1 hu
    exact ofL_wd (HR40.out r hr))
  clear h hcx
  go_enter Try.func78, Try.ntmps78
  go_wp2
  go_region_held3 (fun w' => w'.cell? ⟨w.heap.size, 0, none⟩ = some (.int .i64 p) ∧ w'.cell? ⟨w.heap.size, 1, none⟩ = some (.slice ad ds.length cap) ∧ w'.cell? ⟨w.heap.size, 2, none⟩ = some (.slice am ms.length capm) ∧ Hid (Bx w w' w.heap.size p (.slice ad ds.length cap) (.slice am ms.length capm) ds ms))
    (first | exact ⟨HX0.out.c0, HX0.out.c1, HX0.out.c2, HX0⟩ | exact ⟨HX0.out.c0, HX0.out.c1, HX0.out.c2, Lib.hid (HX0.out.next (Below.refl _ _).drew)⟩ | exact ⟨HX3.out.c0, HX3.out.c1, HX3.out.c2, HX3⟩ | exact ⟨HX4.out.c0, HX4.out.c1, HX4.out.c2, HX4⟩ | exact ⟨HX5.out.c0, HX5.out.c1, HX5.out.c2, HX5⟩ | go_keep)
    (first
      | (go_at_call 101; refine (mapAt_any p q _ _ ds ms _ ?_ HCX.out).mono ?_; (exact (HX0.out.next (Below.refl _ _).drew).cx); rintro e w3 ⟨v3, rfl, hl3, hb3⟩; have HX3 := Lib.hid ((HX0.out.next (Below.refl _ _).drew).next hb3); have HL3 := Lib.hid hl3; clear hl3 hb3)
      | (go_at_call 64; refine (vectorsOf_any v3 (tabN ms q) _ HL3.out (by have := HLEN.out; omega) HR40.out).mono ?_; rintro e w4 ⟨s4, M, rfl, hb4, ho4, rfl⟩; have HX4 := Lib.hid (HX3.out.next hb4); have HO4 := Lib.hid (ho4.vs.lower (Nat.zero_le _)); clear ho4 hb4)
      | (go_at_call 63; refine (reducedList_any p s4 _ _ HCX.out.1.prime HO4.out (vecs_md (by omega) HOK.out) HW40.out (by rw [List.length_map]; have := HLEN.out; omega)).mono ?_; rintro e w5 ⟨s5, R, rfl, hb5, ho5, hr5, hl5⟩; have HX5 := Lib.hid (HX4.out.next hb5); have HO5 := Lib.hid (And.intro ho5 HX4.out.below.size); have HR5 := Lib.hid hr5; clear ho5 hb5 hr5 hl5))
  go_wp2
  go_ret
  refine ⟨s5, R, rfl, HX5.out.below, ⟨HO5.out.1.1, HO5.out.1.2.imp id (fun ⟨g, cap, cur, h1, h2, h3⟩ => ⟨g, cap, cur, h1, Nat.le_trans HO5.out.2 h2, h3⟩)⟩, HR5.out.red, fun u hu => ?_, HR5.out.eqv⟩
  exact Lin.Sp.wd (vecs_wd HRL.out) ((HR5.out.eqv u).1 (Lin.Sp.mem hu (HR5.out.red.md u hu)))

set_option maxHeartbeats 3200000 in
set_option maxRecDepth 100000 in
theorem spaceAt_bnd (p n : Int) (S : Lin.V → Prop) (dv mv : Value) (ds : List Int) (ms : List (List (List Int))) (w : World) (h : Cx 0 w dv mv ds ms) (hd : ds.length ≤ 1048576) (hm : Bd3 1048576 ms)
    (hf : IsCx p ds ms → 0 ≤ n ∧ n ≤ (ds.length : Int) - 1 → ∀ W, Cx 0 W dv mv ds ms → Calls Try.prog 78 #[.agg #[.int .i64 p, dv, mv], .int .i64 n] W (VsR (SpF p (dimN ds n) S) W)) :
    Calls Try.prog 73 #[.agg #[.int .i64 p, dv, mv], .int .i64 n, .func (.func 78) #[] #[]] w (SpW p (dimN ds n) S (cxCode p ds ms n) w) := by
  have HX0 := Lib.hid (Bx.start (p := p) 37 h)
  have HCK := Lib.hid (checkDegree_any p n dv mv ds ms _ HX0.out.cx hd hm)
  have HF := Lib.hid hf
  obtain ⟨ad, cap, hdv⟩ := Sl.shape h.dims
  clear h hm hf
  by_cases hcode : cxCode p ds ms n = 0
  · obtain ⟨hcx, hr⟩ := cxCode_zero hcode
    obtain ⟨q, rfl⟩ : ∃ q : Nat, n = (q : Int) := ⟨n.toNat, by have := hr.1; omega⟩
    have hq : q < ds.length := by have := hr.2; omega
    have HCX := Lib.hid hcx
    have HR := Lib.hid hr
    have HCODE := Lib.hid hcode
    refine Sl.cases HX0.out.cx.dims (fun _ _ hx _ => absurd hq (by simp [hx])) (fun bd od capd hvd _ _ _ => ?_)
    subst hvd
    have hdim := hcx.1.dim q
    obtain ⟨c, hc⟩ := Int.eq_ofNat_of_zero_le hdim.1
    have hc8 : c ≤ 8 := by omega
    have HDN : Hid (dimN ds (q : Int) = c) := Lib.hid (by unfold dimN; rw [Int.toNat_natCast, hc]; rfl)
    have HC := Lib.hid hc
    clear hcx hr hcode hdv hdim hc
    go_enter Try.func73, Try.ntmps73
    go_wp2_with fail
    refine HCK.out.mono ?_
    rintro e w1 ⟨c1, rfl, hb1, hc1⟩
    obtain rfl : c1 = 0 := hc1.2.2 HCX.out HR.out
    have HX1 := Lib.hid (HX0.out.next hb1)
    clear hb1 hc1 HCK HX0
    go_wp2
    have HNX : Hid (∀ W, Below w1.heap.size w1 W → Bx w W w.heap.size p (.slice (some ⟨bd, od, none⟩) ds.length capd) mv ds ms) := Lib.hid (fun W h => HX1.out.next h)
    have HDQ : Hid (∀ W, Below w1.heap.size w1 W → W.cell? ⟨bd, od + q, none⟩ = some (.int .i64 (c : Int))) := Lib.hid (fun W h => by
      obtain ⟨ud, hud, hrd⟩ := Sl.at (HNX.out W h).cx.dims hq
      rw [hud, hrd, ← getD_of_lt 0 hq, HC.out])
    refine wp_region_held (S := fun W => Below w1.heap.size w1 W) (by kernel_rfl) ?_
    have S0 : Below w1.heap.size w1 w1.drew := (Below.refl _ _).drew
    refine held_take (i := 0) (v := .func (.func 78) #[] #[]) (some 15) rfl rfl (by kernel_rfl) (by kernel_rfl) (by kernel_rfl) (fun _ _ _ h => h) (yieldsIf_move (by kernel_rfl) rfl (by kernel_rfl)) S0 ?_
    refine held_take (i := 1) (v := .agg #[.int .i64 p, .slice (some ⟨bd, od, none⟩) ds.length capd, mv]) (some 16) rfl rfl (by kernel_rfl) (by kernel_rfl) (by kernel_rfl) (fun _ _ _ h => h) (yieldsIf_cell (by kernel_rfl) rfl (by kernel_rfl) (fun W h => hloadC W (HNX.out W h).c0 (HNX.out W h).c1 (HNX.out W h).c2)) S0 ?_
    refine held_take (i := 2) (v := .int .i64 (q : Int)) (some 17) rfl rfl (by kernel_rfl) (by kernel_rfl) (by kernel_rfl) (fun _ _ _ h => h) (yieldsIf_move (by kernel_rfl) rfl (by kernel_rfl)) S0 ?_
    refine held_take (i := 4) (v := .pointer (some ⟨w.heap.size, 1, none⟩)) (some 19) rfl rfl (by kernel_rfl) (by kernel_rfl) (by kernel_rfl) (fun _ _ _ h => h) (yieldsIf_run (by kernel_rfl) (fun W _ => by kernel_rfl)) S0 ?_
    refine held_take (i := 5) (v := .slice (some ⟨bd, od, none⟩) ds.length capd) (some 20) rfl rfl (by kernel_rfl) (by kernel_rfl) (by kernel_rfl) (fun _ _ _ h => h) (yieldsIf_cell (by kernel_rfl) rfl (by kernel_rfl) (fun W h => hloadS W (HNX.out W h).c1)) S0 ?_
    refine held_take (i := 6) (v := .int .i64 (q : Int)) (some 21) rfl rfl (by kernel_rfl) (by kernel_rfl) (by kernel_rfl) (fun _ _ _ h => h) (yieldsIf_move (by kernel_rfl) rfl (by kernel_rfl)) S0 ?_
    refine held_take (i := 7) (v := .pointer (some ⟨bd, od + q, none⟩)) (some 22) rfl rfl (by kernel_rfl) (by kernel_rfl) (by kernel_rfl) (fun _ _ _ h => h) (yieldsIf_index (by kernel_rfl) rfl (by kernel_rfl) (by kernel_rfl) (hidxI bd od capd hq)) S0 ?_
    refine held_take (i := 8) (v := .int .i64 (c : Int)) (some 23) rfl rfl (by kernel_rfl) (by kernel_rfl) (by kernel_rfl) (fun _ _ _ h => h) (yieldsIf_cell (by kernel_rfl) rfl (by kernel_rfl) (fun W h => hload W (HDQ.out W h))) S0 ?_
    refine held_enter (i := 3) (some 18) (f := 78) (args := #[.agg #[.int .i64 p, .slice (some ⟨bd, od, none⟩) ds.length capd, mv], .int .i64 (q : Int)]) (by kernel_rfl) rfl rfl rfl (by kernel_rfl) (HF.out HCX.out HR.out _ (HNX.out _ S0).cx) ?_ (fun c w' h => by obtain ⟨_, _, h, _⟩ := h; cases h) (fun w' h => by obtain ⟨_, _, h, _⟩ := h; cases h)
    rintro e4 W4 ⟨s4, R, he4, hb4, ho4, hsp⟩
    injection he4 with he4
    subst he4
    have S1 : Below w1.heap.size w1 W4 := S0.trans hb4
    have HO4 := Lib.hid (ho4.vs.lower (Nat.zero_le _))
    have HSP := Lib.hid hsp
    have hshort := hsp.short
    rw [HDN.out] at hshort
    refine ⟨S1, ?_⟩
    clear hb4 ho4 hsp
    refine held_enter (i := 9) (some 24) (f := 62) (args := #[e4, .int .i64 (c : Int)]) (by kernel_rfl) rfl rfl rfl (by kernel_rfl) (rowsOf_any c e4 R W4 HO4.out (by omega) (by omega)) ?_ (fun c w' h => by obtain ⟨_, h, _⟩ := h; cases h) (fun w' h => by obtain ⟨_, h, _⟩ := h; cases h)
    rintro e5 W5 ⟨u5, he5, ht5, hb5⟩
    injection he5 with he5
    subst he5
    have S2 : Below w1.heap.size w1 W5 := S1.trans (hb5.mono S1.size)
    have HT5 := Lib.hid ht5
    have hs4 : w1.heap.size ≤ W4.heap.size := S1.size
    have HB5 := Lib.hid (HNX.out _ S2).below
    have hs1 : w.heap.size ≤ w1.heap.size := HX1.out.below.size
    refine ⟨S2, ?_⟩
    refine held_take (i := 10) (v := e5) (some 6) rfl rfl (by kernel_rfl) (by kernel_rfl) (by kernel_rfl) (fun _ _ _ h => h) (yieldsIf_assign (by kernel_rfl) rfl (by kernel_rfl)) S2 ?_
    refine held_take (i := 11) (v := .int .i64 0) (some 7) rfl rfl (by kernel_rfl) (by kernel_rfl) (by kernel_rfl) (fun _ _ _ h => h) (yieldsIf_assign (by kernel_rfl) rfl (by kernel_rfl)) S2 ?_
    refine wpAnyH_done (by kernel_rfl) ?_ _
    simp only [Act.put, List.setIfInBounds_toArray, List.set_cons_zero, List.set_cons_succ]
    clear S0 S1 S2 ht5 hb5
    go_wp2
    go_ret2
    refine ⟨e5, R.map (toL c), 0, rfl, HT5.out.wider (by omega), HB5.out, ?_⟩
    rw [HCODE.out]
    have hh := HSP.out
    rw [HDN.out] at hh ⊢
    exact ⟨fun _ => ⟨R, hh.1, hh.2.1, hh.2.2, rfl⟩, fun hh => absurd rfl hh, rfl⟩
  · have HNC := Lib.hid hcode
    subst hdv
    clear hcode HF
    go_enter Try.func73, Try.ntmps73
    go_wp2_with fail
    refine HCK.out.mono ?_
    rintro e w1 ⟨c1, rfl, hb1, hc1⟩
    have HC1 := Lib.hid (cxCode_of hc1)
    have hne : ¬ c1 = 0 := fun e => HNC.out (by rw [← HC1.out]; exact e)
    have hne2 : (c1 != 0) = true := by simp [hne]
    have hne3 : (c1 == 0) = false := by simp [hne]
    have HX1 := Lib.hid (HX0.out.next hb1)
    clear hb1 hc1 HCK HX0 hne
    go_wp2
    go_ret2
    refine ⟨_, [], c1, rfl, TW.nil _ _ _, HX1.out.below, ?_⟩
    rw [HC1.out]
    exact SpOut.of_no HNC.out

set_option maxHeartbeats 1600000 in
theorem boundariesOf_any (p n : Int) (dv mv : Value) (ds : List Int) (ms : List (List (List Int))) (w : World) (h : Cx 0 w dv mv ds ms) (hd : ds.length ≤ 1048576) (hm : Bd3 1048576 ms) :
    Calls Try.prog 33 #[.agg #[.int .i64 p, dv, mv], .int .i64 n] w (SpW p (dimN ds n) (Lin.Sp p ((tabN ms n.toNat).map ofL)) (cxCode p ds ms n) w) := by
  have HX0 := Lib.hid (Bx.start (p := p) 37 h)
  have HSA := Lib.hid (spaceAt_bnd p n (Lin.Sp p ((tabN ms n.toNat).map ofL)) dv mv ds ms _ HX0.out.cx hd hm (fun hcx hr W hW => by
    obtain ⟨q, rfl⟩ : ∃ q : Nat, n = (q : Int) := ⟨n.toNat, by have := hr.1; omega⟩
    exact boundarySpace_any p q dv mv ds ms W hW hcx))
  obtain ⟨ad, cap, rfl⟩ := Sl.shape h.dims
  obtain ⟨am, capm, rfl⟩ := Sl.shape h.maps
  have c0 := HX0.out.c0
  have c1 := HX0.out.c1
  have c2 := HX0.out.c2
  clear h hm
  go_enter Try.func33, Try.ntmps33
  go_wp2_with fail
  refine HSA.out.mono ?_
  rintro e w1 ⟨u, out, c, rfl, ht, hb, ho⟩
  have HT := Lib.hid ht
  have HB := Lib.hid (HX0.out.next hb).below
  have HO := Lib.hid ho
  clear ht hb ho HSA
  have hs0 := HX0.out.below.size
  go_wp2
  go_ret2
  exact ⟨u, out, c, rfl, HT.out.wider hs0, HB.out, HO.out⟩

set_option maxHeartbeats 1600000 in
set_option maxRecDepth 100000 in
theorem l01Bounds_any (p : Int) (q : Nat) (dv mv : Value) (ds : List Int) (ms : List (List (List Int))) (w : World) (h : Cx 0 w dv mv ds ms) (hcx : IsCx p ds ms) (hq : q < ds.length) :
    Calls Try.prog 77 #[.agg #[.int .i64 p, dv, mv], .int .i64 q] w (EchR p (dimN ds (q : Int)) ((tabN ms q).map ofL) w) := by
  have HX0 := Lib.hid (Bx.start (p := p) 37 h)
  obtain ⟨ad, cap, rfl⟩ := Sl.shape h.dims
  obtain ⟨am, capm, rfl⟩ := Sl.shape h.maps
  have HCX := Lib.hid hcx
  have hp1 := hcx.1.prime.lo1
  have hl6 := hcx.1.len1
  have hml := hcx.1.mlen
  have c0 := HX0.out.c0
  have c1 := HX0.out.c1
  have c2 := HX0.out.c2
  have HLEN := Lib.hid (tabN_len hcx q)
  have HOK := Lib.hid (tabN_ok hcx q)
  have HRL : Hid (∀ r ∈ tabN ms q, r.length = dimN ds (q : Int)) := Lib.hid (fun r hr => (cx_row hcx (tabN_ok hcx q r hr)).1)
  have HDIM : Hid (dimN ds (q : Int) ≤ 8) := Lib.hid (by unfold dimN; rw [Int.toNat_natCast]; have := hcx.1.dim q; omega)
  have HMAP : Hid (mapZ ds ms ((q : Int) + 1) = tabN ms q) := Lib.hid (by
    unfold mapZ tabN
    by_cases hr : 1 ≤ (q : Int) + 1 ∧ (q : Int) + 1 ≤ (ds.length : Int) - 1
    · rw [if_pos hr, show ((q : Int) + 1).toNat - 1 = q by omega]
    · rw [if_neg hr]
      have : dimZ ds ((q : Int) + 1) = 0 := by
        unfold dimZ
        rw [if_neg (by omega)]
      rw [this]
      simp [List.getD, show ms.length ≤ q by omega])
  have hw1 : IntKind.i64.wrap ((q : Int) + 1) = (q : Int) + 1 := IntWalk.i64_in _ (by omega)
  clear h hcx
  go_enter Try.func77, Try.ntmps77
  go_wp2
  go_region_held3 (fun w' => w'.cell? ⟨w.heap.size, 0, none⟩ = some (.int .i64 p) ∧ w'.cell? ⟨w.heap.size, 1, none⟩ = some (.slice ad ds.length cap) ∧ w'.cell? ⟨w.heap.size, 2, none⟩ = some (.slice am ms.length capm) ∧ Hid (Bx w w' w.heap.size p (.slice ad ds.length cap) (.slice am ms.length capm) ds ms))
    (first | exact ⟨HX0.out.c0, HX0.out.c1, HX0.out.c2, HX0⟩ | exact ⟨HX0.out.c0, HX0.out.c1, HX0.out.c2, Lib.hid (HX0.out.next (Below.refl _ _).drew)⟩ | exact ⟨HX3.out.c0, HX3.out.c1, HX3.out.c2, HX3⟩ | exact ⟨HX4.out.c0, HX4.out.c1, HX4.out.c2, HX4⟩ | go_keep)
    (first
      | (go_at_call 97; refine (l01Map_any p ((q : Int) + 1) _ _ ds ms _ ?_ HCX.out).mono ?_; (exact (HX0.out.next (Below.refl _ _).drew).cx); rw [HMAP.out]; rintro e w3 ⟨v3, rfl, hl3, hb3⟩; have HX3 := Lib.hid ((HX0.out.next (Below.refl _ _).drew).next hb3); have HL3 := Lib.hid hl3; clear hl3 hb3)
      | (go_at_call 59; refine (l01Echelon_any p (dimN ds (q : Int)) v3 ((tabN ms q).map ofL) _ HCX.out.1.prime (by rw [rows_toL' HRL.out]; exact HL3.out) (vecs_md (by omega) HOK.out) (vecs_wd HRL.out) (by have := HDIM.out; omega) (by rw [List.length_map]; have := HLEN.out; omega)).mono ?_; rintro e w4 ⟨u4, R, rfl, hg4, hb4, hr4, hl4⟩; have HX4 := Lib.hid (HX3.out.next hb4); have HG4 := Lib.hid (hg4.mono HX3.out.below.size); have HR4 := Lib.hid (And.intro hr4 hl4); clear hg4 hb4 hr4 hl4))
  go_wp2
  go_ret
  exact ⟨u4, R, rfl, HG4.out, HX4.out.below, HR4.out.1, HR4.out.2⟩

set_option maxHeartbeats 1600000 in
theorem spBoundariesOf_any (p n : Int) (dv mv : Value) (ds : List Int) (ms : List (List (List Int))) (w : World) (h : Cx 0 w dv mv ds ms) (hd : ds.length ≤ 1048576) (hm : Bd3 1048576 ms) :
    Calls Try.prog 32 #[.agg #[.int .i64 p, dv, mv], .int .i64 n] w (SpS p (dimN ds n) (Lin.Sp p ((tabN ms n.toNat).map ofL)) (cxCode p ds ms n) w) := by
  have HX0 := Lib.hid (Bx.start (p := p) 37 h)
  have HCK := Lib.hid (l01Code_any p n dv mv ds ms _ HX0.out.cx hd hm)
  obtain ⟨ad, cap, rfl⟩ := Sl.shape h.dims
  obtain ⟨am, capm, rfl⟩ := Sl.shape h.maps
  have c0 := HX0.out.c0
  have c1 := HX0.out.c1
  have c2 := HX0.out.c2
  clear h hm
  go_enter Try.func32, Try.ntmps32
  go_wp2_with fail
  refine HCK.out.mono ?_
  rintro e w1 ⟨k, rfl, hb1, hc1⟩
  have HC1 := Lib.hid (cxCode_of hc1)
  have HX1 := Lib.hid (HX0.out.next hb1)
  clear hb1 hc1 c0 c1 c2 HCK
  have c0 := HX1.out.c0
  have c1 := HX1.out.c1
  have c2 := HX1.out.c2
  by_cases hk : k = 0
  · subst hk
    obtain ⟨hcx, hr⟩ := cxCode_zero HC1.out.symm
    obtain ⟨q, rfl⟩ : ∃ q : Nat, n = (q : Int) := ⟨n.toNat, by have := hr.1; omega⟩
    have HB := Lib.hid (l01Bounds_any p q _ _ ds ms _ HX1.out.cx hcx (by have := hr.2; omega))
    clear hcx hr
    go_wp2_with fail
    refine HB.out.mono ?_
    rintro e w2 ⟨u2, R, rfl, hg2, hb2, hr2, _⟩
    have HG2 := Lib.hid hg2.l2
    have HX2 := Lib.hid (HX1.out.next hb2)
    have HR2 := Lib.hid hr2
    clear hg2 hb2 hr2 HB
    go_wp2
    go_ret2
    refine ⟨u2, R.map (toL (dimN ds (q : Int))), 0, rfl, HG2.out, HX2.out.below, ?_⟩
    rw [← HC1.out, Int.toNat_natCast]
    exact SpOut.of_redN HR2.out
  · have hne2 : (k != 0) = true := by simp [hk]
    have hne3 : (k == 0) = false := by simp [hk]
    have HK := Lib.hid hk
    clear hk
    go_wp2
    go_ret2
    refine ⟨_, [], k, rfl, nil2 _, HX1.out.below, ?_⟩
    rw [← HC1.out]
    exact SpOut.of_no HK.out
end Go.Proofs.Ytlbalcckjokeiaa
