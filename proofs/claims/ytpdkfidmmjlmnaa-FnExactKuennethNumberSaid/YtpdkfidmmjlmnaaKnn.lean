/-
  KuennethNumber of both sides.
-/
import Derived.Test.YtpdkfidmmjlmnaaKho
namespace Go.Proofs.Ytpdkfidmmjlmnaa
open Go.RowKit

/-- What a degree adds. -/
def KnT (p : Int) (ds : List Int) (ms : List (List (List Int))) (p2 : Int) (ds2 : List Int) (ms2 : List (List (List Int))) (n k : Nat) (t : Int) : Prop :=
  ((k ≤ n ∧ k < ds.length ∧ n - k < ds2.length) → ∃ a b, HNum p ds ms k a ∧ HNum p2 ds2 ms2 (n - k) b ∧ t = a * b) ∧ (¬ (k ≤ n ∧ k < ds.length ∧ n - k < ds2.length) → t = 0)
def KnS (p : Int) (ds : List Int) (ms : List (List (List Int))) (p2 : Int) (ds2 : List Int) (ms2 : List (List (List Int))) (n : Nat) : Nat → Int → Prop
  | 0, s => s = 0
  | k + 1, s => ∃ s0 t, KnS p ds ms p2 ds2 ms2 n k s0 ∧ KnT p ds ms p2 ds2 ms2 n k t ∧ s = s0 + t
theorem KnT.unique {p : Int} {ds : List Int} {ms : List (List (List Int))} {p2 : Int} {ds2 : List Int} {ms2 : List (List (List Int))} (hp : 1 < p) (hp2 : 1 < p2) {n k : Nat} {s t : Int} (h : KnT p ds ms p2 ds2 ms2 n k s) (h' : KnT p ds ms p2 ds2 ms2 n k t) : s = t := by
  by_cases hc : k ≤ n ∧ k < ds.length ∧ n - k < ds2.length
  · obtain ⟨a, b, h1, h2, rfl⟩ := h.1 hc
    obtain ⟨c, d, h3, h4, rfl⟩ := h'.1 hc
    rw [h1.unique hp h3, h2.unique hp2 h4]
  · rw [h.2 hc, h'.2 hc]
theorem KnS.unique {p : Int} {ds : List Int} {ms : List (List (List Int))} {p2 : Int} {ds2 : List Int} {ms2 : List (List (List Int))} (hp : 1 < p) (hp2 : 1 < p2) {n : Nat} : ∀ {k : Nat} {s t : Int}, KnS p ds ms p2 ds2 ms2 n k s → KnS p ds ms p2 ds2 ms2 n k t → s = t
  | 0, _, _, h, h' => by rw [h, h']
  | k + 1, _, _, ⟨s0, t0, h1, h2, e1⟩, ⟨s1, t1, h3, h4, e2⟩ => by rw [e1, e2, KnS.unique hp hp2 h1 h3, h2.unique hp hp2 h4]
theorem kn_bd {a b : Int} (ha : -8 ≤ a ∧ a ≤ 8) (hb : -8 ≤ b ∧ b ≤ 8) : -64 ≤ a * b ∧ a * b ≤ 64 := by
  have h : a = -8 ∨ a = -7 ∨ a = -6 ∨ a = -5 ∨ a = -4 ∨ a = -3 ∨ a = -2 ∨ a = -1 ∨ a = 0 ∨ a = 1 ∨ a = 2 ∨ a = 3 ∨ a = 4 ∨ a = 5 ∨ a = 6 ∨ a = 7 ∨ a = 8 := by omega
  rcases h with rfl | rfl | rfl | rfl | rfl | rfl | rfl | rfl | rfl | rfl | rfl | rfl | rfl | rfl | rfl | rfl | rfl <;> omega
theorem tdS_kn {p : Int} {ds : List Int} {ms : List (List (List Int))} {p2 : Int} {ds2 : List Int} {ms2 : List (List (List Int))} {ns ns2 : List Int} (hx : HnL p ds ms ns) (hy : HnL p2 ds2 ms2 ns2) (n : Nat) : ∀ k : Nat, KnS p ds ms p2 ds2 ms2 n k (tdS ns ns2 n k)
  | 0 => rfl
  | k + 1 => by
    refine ⟨_, _, tdS_kn hx hy n k, ⟨fun hc => ?_, fun hc => ?_⟩, rfl⟩
    · have h1 : k < ns.length := by rw [hx.1]; exact hc.2.1
      have h2 : n - k < ns2.length := by rw [hy.1]; exact hc.2.2
      exact ⟨_, _, hx.2 k h1, hy.2 (n - k) h2, by rw [dimZ_in rfl h1, dimZ_in (by omega) h2]⟩
    · by_cases h1 : k < ds.length
      · have : dimZ ns2 ((n : Int) - (k : Int)) = 0 := dimZ_out (by rw [hy.1]; omega)
        rw [this, Int.mul_zero]
      · rw [dimZ_past (by rw [hx.1]; omega), Int.zero_mul]
/-- What is answered. -/
structure KnO (p p2 n : Int) (ds : List Int) (ms : List (List (List Int))) (ds2 : List Int) (ms2 : List (List (List Int))) (x c : Int) : Prop where
  good : prCode p p2 ds ms ds2 ms2 = 0 → 0 ≤ n ∧ n ≤ 10 → c = 0 ∧ KnS p ds ms p2 ds2 ms2 n.toNat (n.toNat + 1) x
  range : prCode p p2 ds ms ds2 ms2 = 0 → ¬ (0 ≤ n ∧ n ≤ 10) → x = 0 ∧ c = 2
  bad : prCode p p2 ds ms ds2 ms2 ≠ 0 → x = 0 ∧ c = prCode p p2 ds ms ds2 ms2
theorem KnO.unique {p p2 n : Int} {ds : List Int} {ms : List (List (List Int))} {ds2 : List Int} {ms2 : List (List (List Int))} {x c y d : Int} (h : KnO p p2 n ds ms ds2 ms2 x c) (k : KnO p p2 n ds ms ds2 ms2 y d) : x = y ∧ c = d := by
  by_cases h0 : prCode p p2 ds ms ds2 ms2 = 0
  · by_cases hr : 0 ≤ n ∧ n ≤ 10
    · obtain ⟨rfl, h1⟩ := h.good h0 hr
      obtain ⟨rfl, k1⟩ := k.good h0 hr
      have hp := prCode_zero h0
      exact ⟨KnS.unique hp.x.1.prime.lo1 hp.y.1.prime.lo1 h1 k1, rfl⟩
    · obtain ⟨rfl, rfl⟩ := h.range h0 hr
      obtain ⟨rfl, rfl⟩ := k.range h0 hr
      exact ⟨rfl, rfl⟩
  · obtain ⟨rfl, rfl⟩ := h.bad h0
    obtain ⟨rfl, rfl⟩ := k.bad h0
    exact ⟨rfl, rfl⟩

theorem dimZ_of_mem {ns : List Int} (h : ∀ x ∈ ns, 0 ≤ x ∧ x ≤ 8) (n : Int) : 0 ≤ dimZ ns n ∧ dimZ ns n ≤ 8 := by
  by_cases hc : 0 ≤ n ∧ n ≤ (ns.length : Int) - 1
  · rw [dimZ_in (k := n.toNat) (by omega) (by omega)]
    exact h _ (List.getElem_mem _)
  · rw [dimZ_out hc]
    omega

theorem KnS.bd {p : Int} {ds : List Int} {ms : List (List (List Int))} {p2 : Int} {ds2 : List Int} {ms2 : List (List (List Int))} (hx : IsCx p ds ms) (hy : IsCx p2 ds2 ms2) {n : Nat} : ∀ {k : Nat} {s : Int}, KnS p ds ms p2 ds2 ms2 n k s → -64 * (k : Int) ≤ s ∧ s ≤ 64 * (k : Int)
  | 0, _, h => by rw [h]; omega
  | k + 1, _, ⟨s0, t, h1, h2, e⟩ => by
    have b1 := KnS.bd hx hy h1
    have b2 : -64 ≤ t ∧ t ≤ 64 := by
      by_cases hc : k ≤ n ∧ k < ds.length ∧ n - k < ds2.length
      · obtain ⟨a, b, ha, hb, rfl⟩ := h2.1 hc
        exact kn_bd (ha.bd hx) (hb.bd hy)
      · rw [h2.2 hc]
        omega
    rw [e]
    omega

set_option maxHeartbeats 6400000 in
set_option maxRecDepth 100000 in
theorem kuennethNumber_any (p p2 n : Int) (dv mv dv2 mv2 : Value) (ds : List Int) (ms : List (List (List Int))) (ds2 : List Int) (ms2 : List (List (List Int))) (w : World) (h : Cx 0 w dv mv ds ms) (h2 : Cx 0 w dv2 mv2 ds2 ms2) (hd : ds.length ≤ 1048576) (hm : Bd3 1048576 ms) (hd2 : ds2.length ≤ 1048576) (hm2 : Bd3 1048576 ms2) :
    Calls Try.prog 68 #[.agg #[.int .i64 p, dv, mv], .agg #[.int .i64 p2, dv2, mv2], .int .i64 n] w (VrIC (KnO p p2 n ds ms ds2 ms2) w) := by
  obtain ⟨ad, cap, rfl⟩ := Sl.shape h.dims
  obtain ⟨am, capm, rfl⟩ := Sl.shape h.maps
  obtain ⟨ad2, cap2, rfl⟩ := Sl.shape h2.dims
  obtain ⟨am2, capm2, rfl⟩ := Sl.shape h2.maps
  obtain ⟨k1, k2⟩ := bx_two (p := p) (p2 := p2) 28 h h2
  have HX0 := Lib.hid k1
  have HY0 := Lib.hid k2
  have HM := Lib.hid hm
  have HM2 := Lib.hid hm2
  obtain ⟨w1, hw1⟩ : ∃ w1, w1 = ((w.alloc (.cells #[.int .i64 p, .slice ad ds.length cap, .slice am ms.length capm] 28)).alloc (.cells #[.int .i64 p2, .slice ad2 ds2.length cap2, .slice am2 ms2.length capm2] 28)) := ⟨_, rfl⟩
  rw [← hw1] at HX0 HY0
  have c0 := HX0.out.c0
  have c1 := HX0.out.c1
  have c2 := HX0.out.c2
  have d0 := HY0.out.c0
  have d1 := HY0.out.c1
  have d2 := HY0.out.c2
  obtain ⟨w2, hw2⟩ : ∃ w2, w2 = w1.alloc (.cells #[.int .i64 p, .slice ad ds.length cap, .slice am ms.length capm, .int .i64 p2, .slice ad2 ds2.length cap2, .slice am2 ms2.length capm2] 28) := ⟨_, rfl⟩
  have hr2 : Row2 w2 w1.heap.size p p2 (.slice ad ds.length cap) (.slice am ms.length capm) (.slice ad2 ds2.length cap2) (.slice am2 ms2.length capm2) := by
    rw [hw2]
    exact ⟨by simp, by simp, by simp, by simp, by simp, by simp⟩
  have hb2 : Below w1.heap.size w1 w2 := by rw [hw2]; exact below_alloc1 _ _
  have HX2 := Lib.hid (HX0.out.next hb2)
  have HY2 := Lib.hid (HY0.out.next hb2)
  have HCK := Lib.hid (checkPrimes2_any p p2 w1.heap.size _ _ _ _ ds ms ds2 ms2 w2 hr2 HX2.out.cx HY2.out.cx hd hm hd2 hm2)
  clear hr2 hb2
  obtain ⟨ec, hec⟩ : ∃ ec, ec = prCode p p2 ds ms ds2 ms2 := ⟨_, rfl⟩
  rw [← hec] at HCK
  have HEC := Lib.hid hec
  clear h h2 hm hm2 k1 k2 hec
  go_enter Try.func68, Try.ntmps68
  go_upto_region 1 with fail
  rw [← hw1]
  clear hw1
  go_wp2_with fail
  rw [← hw2]
  clear hw2
  refine HCK.out.mono ?_
  rintro ee w3 ⟨rfl, hb3⟩
  have HX3 := Lib.hid (HX2.out.next hb3)
  have HY3 := Lib.hid (HY2.out.next hb3)
  clear hb3 c0 c1 c2 d0 d1 d2 HX0 HY0 HX2 HY2 HCK
  have HN3 : Hid (∀ W, Below w3.heap.size w3 W → Bx w W w.heap.size p (.slice ad ds.length cap) (.slice am ms.length capm) ds ms ∧ Bx w W (w.heap.size + 1) p2 (.slice ad2 ds2.length cap2) (.slice am2 ms2.length capm2) ds2 ms2) := Lib.hid (fun W hb => ⟨HX3.out.next hb, HY3.out.next hb⟩)
  have hs3 := HX3.out.below.size
  by_cases h0 : ec = 0
  · subst h0
    have HE := Lib.hid (prCode_zero HEC.out.symm)
    by_cases hr : 0 ≤ n ∧ n ≤ 10
    · have HRN := Lib.hid hr
      obtain ⟨N, rfl⟩ : ∃ N : Nat, n = (N : Int) := ⟨n.toNat, by omega⟩
      go_wp2_with fail
      refine (in_yes HRN.out _).mono ?_
      rintro ee w' ⟨rfl, rfl⟩
      go_wp2
      refine wp_region_held (S := fun W => Below w3.heap.size w3 W) (by kernel_rfl) ?_
      have S0 : Below w3.heap.size w3 w3.drew := (Below.refl _ _).drew
      refine held_take (i := 0) (v := .agg #[.int .i64 p, .slice ad ds.length cap, .slice am ms.length capm]) (some 20) rfl rfl (by kernel_rfl) (by kernel_rfl) (by kernel_rfl) (fun _ _ _ h => h) (yieldsIf_cell (by kernel_rfl) rfl (by kernel_rfl) (fun W h => hload3x (HN3.out W h).1)) S0 ?_
      refine held_take (i := 3) (v := .agg #[.int .i64 p2, .slice ad2 ds2.length cap2, .slice am2 ms2.length capm2]) (some 23) rfl rfl (by kernel_rfl) (by kernel_rfl) (by kernel_rfl) (fun _ _ _ h => h) (yieldsIf_cell (by kernel_rfl) rfl (by kernel_rfl) (fun W h => hload3x (HN3.out W h).2)) S0 ?_
      refine held_take (i := 6) (v := .int .i64 (N : Int)) (some 26) rfl rfl (by kernel_rfl) (by kernel_rfl) (by kernel_rfl) (fun _ _ _ h => h) (yieldsIf_move (by kernel_rfl) rfl (by kernel_rfl)) S0 ?_
      refine held_take (i := 7) (v := .func (.func 133) #[] #[]) (some 27) rfl rfl (by kernel_rfl) (by kernel_rfl) (by kernel_rfl) (fun _ _ _ h => h) (yieldsIf_move (by kernel_rfl) rfl (by kernel_rfl)) S0 ?_
      refine held_enter (i := 1) (some 21) (f := 135) (args := #[.agg #[.int .i64 p, .slice ad ds.length cap, .slice am ms.length capm]]) (by kernel_rfl) rfl rfl rfl (by kernel_rfl) (homologyOf_any p _ _ ds ms _ (HN3.out _ S0).1.cx HE.out.x) ?_ (fun c w' h => by obtain ⟨_, _, _, _, _, h, _⟩ := h; cases h) (fun w' h => by obtain ⟨_, _, _, _, _, h, _⟩ := h; cases h)
      rintro e4 W4 ⟨sz4, bv4, sv4, tv4, ns, he4, hb4, hq4, hl4, hn4⟩
      injection he4 with he4
      subst he4
      obtain ⟨a4, c4, rfl⟩ := Sl.shape hq4
      have S1 : Below w3.heap.size w3 W4 := S0.trans (hb4.mono S0.size)
      refine ⟨S1, ?_⟩
      refine held_take (i := 2) (v := .slice a4 ns.length c4) (some 22) rfl rfl (by kernel_rfl) (by kernel_rfl) (by kernel_rfl) (fun _ _ _ h => h) (yieldsIf_run (by kernel_rfl) (fun W _ => by kernel_rfl)) S1 ?_
      refine held_enter (i := 4) (some 24) (f := 135) (args := #[.agg #[.int .i64 p2, .slice ad2 ds2.length cap2, .slice am2 ms2.length capm2]]) (by kernel_rfl) rfl rfl rfl (by kernel_rfl) (homologyOf_any p2 _ _ ds2 ms2 _ (HN3.out _ S1).2.cx HE.out.y) ?_ (fun c w' h => by obtain ⟨_, _, _, _, _, h, _⟩ := h; cases h) (fun w' h => by obtain ⟨_, _, _, _, _, h, _⟩ := h; cases h)
      rintro e5 W5 ⟨sz5, bv5, sv5, tv5, ns2, he5, hb5, hq5, hl5, hn5⟩
      injection he5 with he5
      subst he5
      obtain ⟨a5, c5, rfl⟩ := Sl.shape hq5
      have S2 : Below w3.heap.size w3 W5 := S1.trans (hb5.mono S1.size)
      refine ⟨S2, ?_⟩
      refine held_take (i := 5) (v := .slice a5 ns2.length c5) (some 25) rfl rfl (by kernel_rfl) (by kernel_rfl) (by kernel_rfl) (fun _ _ _ h => h) (yieldsIf_run (by kernel_rfl) (fun W _ => by kernel_rfl)) S2 ?_
      have HL1 : Hid (ns.length ≤ 100) := Lib.hid (by have h1 := hl4.1; have h2 := HE.out.x.1.len1; omega)
      have HL2 : Hid (ns2.length ≤ 100) := Lib.hid (by have h1 := hl5.1; have h2 := HE.out.y.1.len1; omega)
      refine held_enter (i := 8) (some 28) (f := 134) (args := #[.slice a4 ns.length c4, .slice a5 ns2.length c5, .int .i64 (N : Int), .func (.func 133) #[] #[]]) (by kernel_rfl) rfl rfl rfl (by kernel_rfl) (sumVec_any N _ _ ns ns2 W5 (hq4.below hb5) hq5 HL1.out HL2.out (by omega) (dimZ_of_mem hn4) (dimZ_of_mem hn5)) ?_ (fun c w' h => by cases h.1) (fun w' h => by cases h.1)
      rintro e6 W6 ⟨he6, rfl⟩
      injection he6 with he6
      subst he6
      refine ⟨S2, ?_⟩
      refine held_take (i := 9) (v := .int .i64 (tdN ns ns2 N)) (some 6) rfl rfl (by kernel_rfl) (by kernel_rfl) (by kernel_rfl) (fun _ _ _ h => h) (yieldsIf_assign (by kernel_rfl) rfl (by kernel_rfl)) S2 ?_
      refine held_take (i := 10) (v := .int .i64 0) (some 7) rfl rfl (by kernel_rfl) (by kernel_rfl) (by kernel_rfl) (fun _ _ _ h => h) (yieldsIf_assign (by kernel_rfl) rfl (by kernel_rfl)) S2 ?_
      refine wpAnyH_done (by kernel_rfl) ?_ _
      simp only [Act.put, List.setIfInBounds_toArray, List.set_cons_zero, List.set_cons_succ]
      have HB2 := Lib.hid (HX3.out.next S2).below
      have HKS := Lib.hid (tdS_kn hl4 hl5 N (N + 1))
      clear S0 S1 S2 hb4 hb5 hq4 hq5 hl4 hl5 hn4 hn5
      go_wp2
      go_ret2
      refine ⟨tdN ns ns2 N, 0, rfl, HB2.out, ?_⟩
      have he := HEC.out.symm
      exact ⟨fun _ _ => ⟨rfl, by rw [Int.toNat_natCast]; exact HKS.out⟩, fun _ h => absurd HRN.out h, fun h => absurd he h⟩
    · have HRN := Lib.hid hr
      clear hr
      go_wp2_with fail
      refine (in_no HRN.out _).mono ?_
      rintro ee w' ⟨rfl, rfl⟩
      go_wp2
      go_ret2
      refine ⟨0, 2, rfl, HX3.out.below, ?_⟩
      have he := HEC.out.symm
      exact ⟨fun _ h => absurd h HRN.out, fun _ _ => ⟨rfl, rfl⟩, fun h => absurd he h⟩
  · have hne2 : (ec != 0) = true := by simp [h0]
    have hne3 : (ec == 0) = false := by simp [h0]
    have HNE := Lib.hid h0
    clear h0
    go_wp2
    go_ret2
    refine ⟨0, ec, rfl, HX3.out.below, ?_⟩
    have hn := HNE.out
    rw [HEC.out] at hn ⊢
    exact ⟨fun h => absurd h hn, fun h => absurd h hn, fun _ => ⟨rfl, rfl⟩⟩

set_option maxHeartbeats 12800000 in
set_option maxRecDepth 100000 in
theorem spKuennethNumber_any (p p2 n : Int) (dv mv dv2 mv2 : Value) (ds : List Int) (ms : List (List (List Int))) (ds2 : List Int) (ms2 : List (List (List Int))) (w : World) (h : Cx 0 w dv mv ds ms) (h2 : Cx 0 w dv2 mv2 ds2 ms2) (hd : ds.length ≤ 1048576) (hm : Bd3 1048576 ms) (hd2 : ds2.length ≤ 1048576) (hm2 : Bd3 1048576 ms2) :
    Calls Try.prog 67 #[.agg #[.int .i64 p, dv, mv], .agg #[.int .i64 p2, dv2, mv2], .int .i64 n] w (VrIC (KnO p p2 n ds ms ds2 ms2) w) := by
  obtain ⟨ad, cap, rfl⟩ := Sl.shape h.dims
  obtain ⟨am, capm, rfl⟩ := Sl.shape h.maps
  obtain ⟨ad2, cap2, rfl⟩ := Sl.shape h2.dims
  obtain ⟨am2, capm2, rfl⟩ := Sl.shape h2.maps
  obtain ⟨k1, k2⟩ := bx_two (p := p) (p2 := p2) 28 h h2
  have HX0 := Lib.hid k1
  have HY0 := Lib.hid k2
  have HM := Lib.hid hm
  have HM2 := Lib.hid hm2
  obtain ⟨w1, hw1⟩ : ∃ w1, w1 = ((w.alloc (.cells #[.int .i64 p, .slice ad ds.length cap, .slice am ms.length capm] 28)).alloc (.cells #[.int .i64 p2, .slice ad2 ds2.length cap2, .slice am2 ms2.length capm2] 28)) := ⟨_, rfl⟩
  rw [← hw1] at HX0 HY0
  have c0 := HX0.out.c0
  have c1 := HX0.out.c1
  have c2 := HX0.out.c2
  have d0 := HY0.out.c0
  have d1 := HY0.out.c1
  have d2 := HY0.out.c2
  have HX2 := Lib.hid HX0.out
  have HY2 := Lib.hid HY0.out
  have HCK := Lib.hid (l06Two_any p p2 _ _ _ _ ds ms ds2 ms2 w1 HX0.out.cx HY0.out.cx hd hm hd2 hm2)
  obtain ⟨ec, hec⟩ : ∃ ec, ec = prCode p p2 ds ms ds2 ms2 := ⟨_, rfl⟩
  rw [← hec] at HCK
  have HEC := Lib.hid hec
  clear h h2 hm hm2 k1 k2 hec
  go_enter Try.func67, Try.ntmps67
  go_upto_region 1 with fail
  rw [← hw1]
  clear hw1
  go_wp2_with fail
  refine HCK.out.mono ?_
  rintro ee w3 ⟨rfl, hb3⟩
  have HX3 := Lib.hid (HX2.out.next hb3)
  have HY3 := Lib.hid (HY2.out.next hb3)
  clear hb3 c0 c1 c2 d0 d1 d2 HX0 HY0 HX2 HY2 HCK
  have HN3 : Hid (∀ W, Below w3.heap.size w3 W → Bx w W w.heap.size p (.slice ad ds.length cap) (.slice am ms.length capm) ds ms ∧ Bx w W (w.heap.size + 1) p2 (.slice ad2 ds2.length cap2) (.slice am2 ms2.length capm2) ds2 ms2) := Lib.hid (fun W hb => ⟨HX3.out.next hb, HY3.out.next hb⟩)
  have hs3 := HX3.out.below.size
  by_cases h0 : ec = 0
  · subst h0
    have HE := Lib.hid (prCode_zero HEC.out.symm)
    by_cases hr : 0 ≤ n ∧ n ≤ 10
    · have HRN := Lib.hid hr
      obtain ⟨N, rfl⟩ : ∃ N : Nat, n = (N : Int) := ⟨n.toNat, by omega⟩
      have hN10 : N ≤ 10 := by omega
      go_wp2_with fail
      refine (spin_yes HRN.out _).mono ?_
      rintro ee w' ⟨rfl, rfl⟩
      go_wp2
      go_loopw [9, 10] (fun sv i wr => ∃ (q : Nat) (s : Int), q ≤ N + 1 ∧ i = .int .i64 q ∧ sv = .int .i64 s ∧ Hid (Below w3.heap.size w3 wr) ∧ Hid (KnS p ds ms p2 ds2 ms2 N q s)) (fun _ i _ => N + 1 - (intOf i).toNat)
      case atStart => exact ⟨0, 0, Nat.zero_le _, rfl, rfl, Lib.hid (Below.refl _ _), Lib.hid rfl⟩
      case round =>
        obtain ⟨q, s, hq, rfl, rfl, HB, HK⟩ := hrel
        obtain ⟨wi, hwi⟩ : ∃ wi : World, wi = wr := ⟨_, rfl⟩
        subst hwi
        have hsb := HK.out.bd HE.out.x HE.out.y
        have c0 := (HN3.out _ HB.out).1.c0
        have c1 := (HN3.out _ HB.out).1.c1
        have c2 := (HN3.out _ HB.out).1.c2
        have d0 := (HN3.out _ HB.out).2.c0
        have d1 := (HN3.out _ HB.out).2.c1
        have d2 := (HN3.out _ HB.out).2.c2
        by_cases hlq : q ≤ N
        · have hqN : (q : Int) ≤ (N : Int) := by omega
          have hsubw : IntKind.i64.wrap ((N : Int) - (q : Int)) = (N : Int) - (q : Int) := IntWalk.i64_in _ (by omega)
          by_cases h1 : q < ds.length
          · have hql : (q : Int) < (ds.length : Int) := by omega
            by_cases h2 : N - q < ds2.length
            · have hnl : (N : Int) - (q : Int) < (ds2.length : Int) := by omega
              have HH := Lib.hid (And.intro h1 h2)
              obtain ⟨r, hre⟩ : ∃ r : Nat, r = N - q := ⟨_, rfl⟩
              have hri : (N : Int) - (q : Int) = (r : Int) := by omega
              have HRE := Lib.hid hre
              have HK1 : Hid (∀ W, Below w3.heap.size w3 W → Calls Try.prog 102 #[.agg #[.int .i64 p, .slice ad ds.length cap, .slice am ms.length capm], .int .i64 (q : Int)] W (NumR p ds ms q W)) := Lib.hid (fun W hb => l01Homology_any p q _ _ ds ms W (HN3.out W hb).1.cx HE.out.x h1)
              have HK2 : Hid (∀ W, Below w3.heap.size w3 W → Calls Try.prog 102 #[.agg #[.int .i64 p2, .slice ad2 ds2.length cap2, .slice am2 ms2.length capm2], .int .i64 (r : Int)] W (NumR p2 ds2 ms2 r W)) := Lib.hid (fun W hb => l01Homology_any p2 r _ _ ds2 ms2 W (HN3.out W hb).2.cx HE.out.y (by omega))
              have hsub : ∀ w, (binOp .sub 2 (.int .i64 (N : Int)) (.int .i64 (q : Int))).run Try.prog w = .ok (.int .i64 (r : Int)) w := hsubA (by rw [hsubw]; exact hri)
              clear h1 h2 hre
              go_wp2
              clear c0 c1 c2 d0 d1 d2
              refine wp_region_held (S := fun W => Below w3.heap.size w3 W) (by kernel_rfl) ?_
              have S0 : Below w3.heap.size w3 wi.drew := HB.out.drew
              refine held_take (i := 0) (v := .int .i64 s) (some 43) rfl rfl (by kernel_rfl) (by kernel_rfl) (by kernel_rfl) (fun _ _ _ h => h) (yieldsIf_move (by kernel_rfl) rfl (by kernel_rfl)) S0 ?_
              refine held_take (i := 1) (v := .agg #[.int .i64 p, .slice ad ds.length cap, .slice am ms.length capm]) (some 44) rfl rfl (by kernel_rfl) (by kernel_rfl) (by kernel_rfl) (fun _ _ _ h => h) (yieldsIf_cell (by kernel_rfl) rfl (by kernel_rfl) (fun W h => hload3x (HN3.out W h).1)) S0 ?_
              refine held_take (i := 2) (v := .int .i64 (q : Int)) (some 45) rfl rfl (by kernel_rfl) (by kernel_rfl) (by kernel_rfl) (fun _ _ _ h => h) (yieldsIf_move (by kernel_rfl) rfl (by kernel_rfl)) S0 ?_
              refine held_take (i := 4) (v := .agg #[.int .i64 p2, .slice ad2 ds2.length cap2, .slice am2 ms2.length capm2]) (some 47) rfl rfl (by kernel_rfl) (by kernel_rfl) (by kernel_rfl) (fun _ _ _ h => h) (yieldsIf_cell (by kernel_rfl) rfl (by kernel_rfl) (fun W h => hload3x (HN3.out W h).2)) S0 ?_
              refine held_take (i := 5) (v := .int .i64 (N : Int)) (some 48) rfl rfl (by kernel_rfl) (by kernel_rfl) (by kernel_rfl) (fun _ _ _ h => h) (yieldsIf_move (by kernel_rfl) rfl (by kernel_rfl)) S0 ?_
              refine held_take (i := 6) (v := .int .i64 (q : Int)) (some 49) rfl rfl (by kernel_rfl) (by kernel_rfl) (by kernel_rfl) (fun _ _ _ h => h) (yieldsIf_move (by kernel_rfl) rfl (by kernel_rfl)) S0 ?_
              refine held_take (i := 7) (v := .int .i64 (r : Int)) (some 50) rfl rfl (by kernel_rfl) (by kernel_rfl) (by kernel_rfl) (fun _ _ _ h => h) (yieldsIf_bin (by kernel_rfl) rfl (by kernel_rfl) (by kernel_rfl) (fun _ => rfl) hsub) S0 ?_
              refine held_enter (i := 3) (some 46) (f := 102) (args := #[.agg #[.int .i64 p, .slice ad ds.length cap, .slice am ms.length capm], .int .i64 (q : Int)]) (by kernel_rfl) rfl rfl rfl (by kernel_rfl) (HK1.out _ S0) ?_ (fun c w' h => by obtain ⟨_, h, _⟩ := h; cases h) (fun w' h => by obtain ⟨_, h, _⟩ := h; cases h)
              rintro e4 W4 ⟨x, he4, hb4, hx4⟩
              injection he4 with he4
              subst he4
              have S1 : Below w3.heap.size w3 W4 := S0.trans (hb4.mono S0.size)
              refine ⟨S1, ?_⟩
              refine held_enter (i := 8) (some 51) (f := 102) (args := #[.agg #[.int .i64 p2, .slice ad2 ds2.length cap2, .slice am2 ms2.length capm2], .int .i64 (r : Int)]) (by kernel_rfl) rfl rfl rfl (by kernel_rfl) (HK2.out _ S1) ?_ (fun c w' h => by obtain ⟨_, h, _⟩ := h; cases h) (fun w' h => by obtain ⟨_, h, _⟩ := h; cases h)
              rintro e5 W5 ⟨y, he5, hb5, hy5⟩
              injection he5 with he5
              subst he5
              have S2 : Below w3.heap.size w3 W5 := S1.trans (hb5.mono S1.size)
              refine ⟨S2, ?_⟩
              have hbx := hx4.bd HE.out.x
              have hby := hy5.bd HE.out.y
              obtain ⟨z, hz⟩ : ∃ z, z = x * y := ⟨_, rfl⟩
              have hzb := kn_bd hbx hby
              rw [← hz] at hzb
              have hmul : ∀ w, (binOp .mul 2 (.int .i64 x) (.int .i64 y)).run Try.prog w = .ok (.int .i64 z) w := hmulA (by rw [← hz]; exact IntWalk.i64_in _ (by omega))
              have hadd : ∀ w, (binOp .add 2 (.int .i64 s) (.int .i64 z)).run Try.prog w = .ok (.int .i64 (s + z)) w := haddA (IntWalk.i64_in _ (by omega))
              have HST : Hid (KnS p ds ms p2 ds2 ms2 N (q + 1) (s + z)) := Lib.hid ⟨s, z, HK.out, ⟨fun _ => ⟨x, y, hx4, by rw [← HRE.out]; exact hy5, hz⟩, fun hc => absurd ⟨hlq, HH.out.1, HH.out.2⟩ hc⟩, rfl⟩
              refine held_take (i := 9) (v := .int .i64 z) (some 52) rfl rfl (by kernel_rfl) (by kernel_rfl) (by kernel_rfl) (fun _ _ _ h => h) (yieldsIf_bin (by kernel_rfl) rfl (by kernel_rfl) (by kernel_rfl) (fun _ => rfl) hmul) S2 ?_
              refine held_take (i := 10) (v := .int .i64 (s + z)) (some 53) rfl rfl (by kernel_rfl) (by kernel_rfl) (by kernel_rfl) (fun _ _ _ h => h) (yieldsIf_bin (by kernel_rfl) rfl (by kernel_rfl) (by kernel_rfl) (fun _ => rfl) hadd) S2 ?_
              refine held_take (i := 11) (v := .int .i64 (s + z)) (some 9) rfl rfl (by kernel_rfl) (by kernel_rfl) (by kernel_rfl) (fun _ _ _ h => h) (yieldsIf_assign (by kernel_rfl) rfl (by kernel_rfl)) S2 ?_
              refine wpAnyH_done (by kernel_rfl) ?_ _
              simp only [Act.put, List.setIfInBounds_toArray, List.set_cons_zero, List.set_cons_succ]
              have HB2 := Lib.hid S2
              clear S0 S1 S2 hb4 hb5 hsub hmul hadd hx4 hy5 hz
              go_wp2
              go_roundw
              case rel => exact ⟨q + 1, s + z, by omega, by go_num, rfl, HB2, HST⟩
              case measure => simp [intOf]; omega
            · have hnl : ¬ (N : Int) - (q : Int) < (ds2.length : Int) := by omega
              have HST : Hid (KnS p ds ms p2 ds2 ms2 N (q + 1) s) := Lib.hid ⟨s, 0, HK.out, ⟨fun hc => absurd hc (by omega), fun _ => rfl⟩, by omega⟩
              go_wp2
              go_roundw
              case rel => exact ⟨q + 1, s, by omega, by go_num, rfl, HB, HST⟩
              case measure => simp [intOf]; omega
          · have hql : ¬ (q : Int) < (ds.length : Int) := by omega
            have HST : Hid (KnS p ds ms p2 ds2 ms2 N (q + 1) s) := Lib.hid ⟨s, 0, HK.out, ⟨fun hc => absurd hc (by omega), fun _ => rfl⟩, by omega⟩
            go_wp2
            go_roundw
            case rel => exact ⟨q + 1, s, by omega, by go_num, rfl, HB, HST⟩
            case measure => simp [intOf]; omega
        · have hqN : ¬ (q : Int) ≤ (N : Int) := by omega
          have HKN : Hid (KnS p ds ms p2 ds2 ms2 N (N + 1) s) := Lib.hid (by have h := HK.out; rwa [show q = N + 1 by omega] at h)
          have HBF := Lib.hid (HX3.out.next HB.out).below
          go_wp2
          go_ret2
          refine ⟨s, 0, rfl, HBF.out, ?_⟩
          have he := HEC.out.symm
          exact ⟨fun _ _ => ⟨rfl, by rw [Int.toNat_natCast]; exact HKN.out⟩, fun _ h => absurd HRN.out h, fun h => absurd he h⟩
    · have HRN := Lib.hid hr
      clear hr
      go_wp2_with fail
      refine (spin_no HRN.out _).mono ?_
      rintro ee w' ⟨rfl, rfl⟩
      go_wp2
      go_ret2
      refine ⟨0, 2, rfl, HX3.out.below, ?_⟩
      have he := HEC.out.symm
      exact ⟨fun _ h => absurd h HRN.out, fun _ _ => ⟨rfl, rfl⟩, fun h => absurd he h⟩
  · have hne2 : (ec != 0) = true := by simp [h0]
    have hne3 : (ec == 0) = false := by simp [h0]
    have HNE := Lib.hid h0
    clear h0
    go_wp2
    go_ret2
    refine ⟨0, ec, rfl, HX3.out.below, ?_⟩
    have hn := HNE.out
    rw [HEC.out] at hn ⊢
    exact ⟨fun h => absurd h hn, fun h => absurd h hn, fun _ => ⟨rfl, rfl⟩⟩
end Go.Proofs.Ytpdkfidmmjlmnaa
