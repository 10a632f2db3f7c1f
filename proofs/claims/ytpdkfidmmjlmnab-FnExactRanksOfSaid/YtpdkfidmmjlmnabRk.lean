/-
  RanksOf of both sides.
-/
import Derived.Test.YtpdkfidmmjlmnabCpi
import Derived.Test.YtpdkfidmmjlmnabLim
import Derived.Test.YtpdkfidmmjlmnabPds
namespace Go.Proofs.Ytpdkfidmmjlmnab
open Go.RowKit

/-- The dimension of the space of a table's rows. -/
def RkT (p : Int) (t : List (List Int)) (x : Int) : Prop := ∃ R, Lin.Red p R ∧ Lin.Eqv p R (t.map ofL) ∧ x = (R.length : Int)
theorem RkT.unique {p : Int} (hp : 1 < p) {t : List (List Int)} {x y : Int} (h : RkT p t x) (k : RkT p t y) : x = y := by
  obtain ⟨R, r1, r2, rfl⟩ := h
  obtain ⟨S, s1, s2, rfl⟩ := k
  rw [Lin.Red.unique hp r1 s1 (fun v => (r2 v).trans (s2 v).symm)]
theorem Gb.nil (base : Nat) (w : World) : Gb base w (.slice none 0 0) [] := ⟨rfl, Or.inl ⟨rfl, rfl⟩⟩
/-- A row that the call gathered, as a result. -/
theorem Gb.rw1 {lo : Nat} {W : World} {u : Value} {xs : List Int} (h : Gb lo W u xs) (hl : xs.length ≤ 1048576) : Rw1 lo W.heap.size W u xs := by
  have h1 := h.g1.l1
  obtain ⟨_, h2 | ⟨g, cap, cur, rfl, hg, hh, hc, hm, hs, ht⟩⟩ := h
  · obtain ⟨rfl, h0⟩ := h2
    rw [List.eq_nil_of_length_eq_zero h0]
    exact Rw1.nil _ _ _
  · have hlt : g < W.heap.size := (Array.getElem?_eq_some_iff.1 hh).1
    refine w1_rw1 ?_ hl
    by_cases h0 : xs.length = 0
    · exact Or.inl ⟨List.eq_nil_of_length_eq_zero h0, _, _, by rw [h0]⟩
    · refine Or.inr ⟨g, 0, cap, rfl, hg, hlt, by omega, fun k hk => ?_, fun k hk => ?_⟩
      · rcases h1 with ⟨hx, _⟩ | ⟨b, o, c2, hv, _, _, hcl⟩
        · rw [hx] at h0; exact absurd rfl h0
        · injection hv with e1 e2 e3
          injection e1 with e1
          injection e1 with e1 e4
          subst e1 e4
          exact hcl k hk
      · simp [World.frozen?, hh]
theorem l1_three (w : World) (a b c : Int) (t : TypeId) : L1 0 (w.alloc (.cells #[.int .i64 a, .int .i64 b, .int .i64 c] t)) (.slice (some ⟨w.heap.size, 0, none⟩) 3 3) [a, b, c] :=
  Or.inr ⟨w.heap.size, 0, 3, rfl, Nat.zero_le _, by simp, fun k hk => by
    match k, hk with
    | 0, _ => exact ⟨.int .i64 a, by simp, rfl⟩
    | 1, _ => exact ⟨.int .i64 b, by simp, rfl⟩
    | 2, _ => exact ⟨.int .i64 c, by simp, rfl⟩⟩

set_option maxHeartbeats 1600000 in
set_option maxRecDepth 100000 in
theorem images_any (p a b : Int) (v : Value) (t : List (List Int)) (c : Int) (w : World) (hp : IsP p) (h : L2 0 w v t) (hc : c ≤ 40) (ht : ∀ r ∈ t, RowOk p c r) (hl : t.length ≤ 1048575) :
    Calls Try.prog 193 #[.agg #[.int .i64 p, .int .i64 a, .int .i64 b, v]] w (VsR (fun R => RedOf p R (t.map ofL) ∧ R.length ≤ (t.map ofL).length) w) := by
  obtain ⟨av, cv, rfl⟩ := Sl.shape h
  obtain ⟨w1, hw1⟩ : ∃ w1, w1 = w.alloc (.cells #[.int .i64 p, .int .i64 a, .int .i64 b, .slice av t.length cv] 138) := ⟨_, rfl⟩
  have hb1 : Below w.heap.size w w1 := by rw [hw1]; exact below_alloc1 _ _
  have k0 : w1.cell? ⟨w.heap.size, 0, none⟩ = some (.int .i64 p) := by rw [hw1]; simp
  have k3 : w1.cell? ⟨w.heap.size, 3, none⟩ = some (.slice av t.length cv) := by rw [hw1]; simp
  have HC : Hid (∀ W, Below w1.heap.size w1 W → W.cell? ⟨w.heap.size, 0, none⟩ = some (.int .i64 p) ∧ W.cell? ⟨w.heap.size, 3, none⟩ = some (.slice av t.length cv)) := Lib.hid (fun W hb => ⟨later hb (Nat.le_refl _) k0, later hb (Nat.le_refl _) k3⟩)
  have HB1 := Lib.hid hb1
  have HL := Lib.hid (h.below hb1)
  have HR40 : Hid (∀ r ∈ t, r.length ≤ 40) := Lib.hid (fun r hr => by have := (ht r hr).1; omega)
  have HMD : Hid (∀ u ∈ t.map ofL, Lin.Md p u) := Lib.hid (vecs_md (by have := hp.lo; omega) ht)
  have HWD : Hid (∀ u ∈ t.map ofL, Lin.Wd 40 u) := Lib.hid (fun u hu => by
    obtain ⟨r, hr, rfl⟩ := List.mem_map.1 hu
    exact ofL_wd (HR40.out r hr))
  have HD : Hid (Below w1.heap.size w1 w1.drew) := Lib.hid (Below.refl _ _).drew
  have HP := Lib.hid hp
  have HSZ : Hid (w.heap.size ≤ w1.heap.size) := Lib.hid hb1.size
  clear h hb1 k0 k3 ht hp
  go_enter Try.func193, Try.ntmps193
  go_upto_region 1 with fail
  rw [← hw1]
  clear hw1
  have c0 := (HC.out _ (Below.refl _ _)).1
  have c3 := (HC.out _ (Below.refl _ _)).2
  go_wp2
  go_region_held3 (fun w' => w'.cell? ⟨w.heap.size, 0, none⟩ = some (.int .i64 p) ∧ w'.cell? ⟨w.heap.size, 3, none⟩ = some (.slice av t.length cv))
    (first | exact HC.out _ (Below.refl _ _) | exact HC.out _ HD.out | exact HC.out _ HB4.out | exact HC.out _ HB5.out | go_keep)
    (first
      | (go_at_call 111; (with_reducible refine (vectorsOf_any _ t _ (HL.out.below HD.out) (by omega) HR40.out).mono ?_); rintro ee w4 ⟨s4, M, rfl, hb4, ho4, rfl⟩; have HB4 : Hid (Below w1.heap.size w1 w4) := Lib.hid (HD.out.trans hb4); have HO4 := Lib.hid (ho4.vs.lower (Nat.zero_le _)); clear ho4 hb4)
      | (go_at_call 112; (with_reducible refine (reducedList_any p s4 _ _ HP.out HO4.out HMD.out HWD.out (by rw [List.length_map]; omega)).mono ?_); rintro ee w5 ⟨s5, R, rfl, hb5, ho5, hr5, hl5⟩; have HB5 : Hid (Below w1.heap.size w1 w5) := Lib.hid (HB4.out.trans (hb5.mono HB4.out.size)); have HO5 := Lib.hid (And.intro ho5 (HB4.out.size)); have HR5 := Lib.hid (And.intro hr5 hl5); clear hb5 ho5 hr5 hl5))
  clear c0 c3
  go_wp2
  go_ret
  refine ⟨s5, R, rfl, HB1.out.trans (HB5.out.mono HSZ.out), ⟨HO5.out.1.1, HO5.out.1.2.imp id (fun ⟨g, cap, cur, h1, h2, h3⟩ => ⟨g, cap, cur, h1, Nat.le_trans HSZ.out (Nat.le_trans HO5.out.2 h2), h3⟩)⟩, HR5.out⟩

set_option maxHeartbeats 800000 in
set_option maxRecDepth 100000 in
theorem rank_any (p a b : Int) (v : Value) (t : List (List Int)) (c : Int) (w : World) (hp : IsP p) (h : L2 0 w v t) (hc : c ≤ 40) (ht : ∀ r ∈ t, RowOk p c r) (hl : t.length ≤ 1048575) :
    Calls Try.prog 141 #[.agg #[.int .i64 p, .int .i64 a, .int .i64 b, v]] w (IntR (RkT p t) w) := by
  obtain ⟨av, cv, rfl⟩ := Sl.shape h
  have hb1 : Below w.heap.size w (w.alloc (.cells #[.int .i64 p, .int .i64 a, .int .i64 b, .slice av t.length cv] 138)) := below_alloc1 _ _
  have HB1 := Lib.hid hb1
  have HI := Lib.hid (images_any p a b (.slice av t.length cv) t c _ hp (h.below hb1) hc ht hl)
  clear hb1 h ht
  go_enter Try.func141, Try.ntmps141
  go_wp2_with fail
  refine HI.out.mono ?_
  rintro ee w2 ⟨s, R, rfl, hb, ho, hr, hl2⟩
  have HB2 := Lib.hid (HB1.out.trans (hb.mono (by simp)))
  obtain ⟨a9, c9, hs⟩ := Vs.shape ho.vs
  have HR := Lib.hid hr
  subst hs
  clear hb ho hr
  go_wp2
  go_ret
  exact ⟨_, rfl, HB2.out, R, HR.out.red, HR.out.eqv, rfl⟩

set_option maxHeartbeats 800000 in
set_option maxRecDepth 100000 in
theorem l01Rank_any (p : Int) (v : Value) (t : List (List Int)) (n : Nat) (w : World) (hp : IsP p) (h : L2 0 w v t) (hn : n ≤ 40) (ht : ∀ r ∈ t, RowOk p (n : Int) r) (hl : t.length ≤ 1048575) :
    Calls Try.prog 140 #[.int .i64 p, v] w (IntR (RkT p t) w) := by
  have hlen : ∀ r ∈ t, r.length = n := fun r hr => by have := (ht r hr).1; omega
  have HE := Lib.hid (l01Echelon_any p n v (t.map ofL) w hp (by rw [rows_toL' hlen]; exact h) (vecs_md (by have := hp.lo; omega) ht) (vecs_wd hlen) (by omega) (by rw [List.length_map]; exact hl))
  obtain ⟨av, cv, rfl⟩ := Sl.shape h
  clear h ht hlen
  go_enter Try.func140, Try.ntmps140
  go_wp2_with fail
  refine HE.out.mono ?_
  rintro ee w2 ⟨u, R, rfl, hg, hb, hr, hl2⟩
  obtain ⟨au, cu, hus⟩ := Sl.shape hg.l2
  rw [List.length_map] at hus
  subst hus
  have HB2 := Lib.hid hb
  have HR := Lib.hid hr
  clear hb hr hg
  go_wp2
  go_ret
  exact ⟨_, rfl, HB2.out, R, HR.out.red, HR.out.eqv, rfl⟩

/-- The ranks of the maps of a couple. -/
def RksOf (p : Int) (il jl kl : List (List Int)) (out : List Int) : Prop := ∃ a b c, out = [a, b, c] ∧ RkT p il a ∧ RkT p jl b ∧ RkT p kl c
theorem RksOf.unique {p : Int} (hp : 1 < p) {il jl kl : List (List Int)} {x y : List Int} (h : RksOf p il jl kl x) (k : RksOf p il jl kl y) : x = y := by
  obtain ⟨a, b, c, rfl, h1, h2, h3⟩ := h
  obtain ⟨a', b', c', rfl, k1, k2, k3⟩ := k
  rw [h1.unique hp k1, h2.unique hp k2, h3.unique hp k3]
theorem RksOf.len {p : Int} {il jl kl : List (List Int)} {x : List Int} (h : RksOf p il jl kl x) : x.length ≤ 1048576 := by
  obtain ⟨a, b, c, rfl, _⟩ := h
  simp


set_option maxHeartbeats 6400000 in
set_option maxRecDepth 100000 in
theorem ranksOf_any (p d e : Int) (iv jv kv : Value) (il jl kl : List (List Int)) (w : World) (h : Cp 0 w iv jv kv il jl kl) (hm : CpB 1048576 il jl kl) :
    Calls Try.prog 77 #[.agg #[.int .i64 p, .int .i64 d, .int .i64 e, iv, jv, kv]] w (AnsW Rw1 (RksOf p il jl kl) [] (cpCode p d e il jl kl) w) := by
  have HM := Lib.hid hm
  obtain ⟨w1, hw1⟩ : ∃ w1, w1 = w.alloc (.cells #[.int .i64 p, .int .i64 d, .int .i64 e, iv, jv, kv] 71) := ⟨_, rfl⟩
  have hs1 : w1.heap.size = w.heap.size + 1 := by rw [hw1]; simp
  have HX : Hid (BxCp w w1 w.heap.size p d e iv jv kv il jl kl) := Lib.hid (by rw [hw1]; exact BxCp.start 71 h)
  clear h hm
  have HNX : Hid (∀ W, Below w1.heap.size w1 W → BxCp w W w.heap.size p d e iv jv kv il jl kl) := Lib.hid (fun W h => HX.out.next h)
  obtain ⟨⟨ai, ci, rfl⟩, ⟨aj, cj, rfl⟩, ⟨ak, ck, rfl⟩⟩ := HX.out.cx.shapes
  have hle1 : w.heap.size ≤ w1.heap.size := by omega
  clear hs1
  have c0 := HX.out.c0
  have c1 := HX.out.c1
  have c2 := HX.out.c2
  have c3 := HX.out.c3
  have c4 := HX.out.c4
  have c5 := HX.out.c5
  by_cases hc : IsCp p d e il jl kl
  · have HC := Lib.hid hc
    have hd := hc.2.1
    have he := hc.2.2.1
    have HCODE := Lib.hid (cpCode_yes hc)
    have hq0 := idxM0
    have hq1 := idxM1
    have hq2 := idxM2
    clear hc
    go_enter Try.func77, Try.ntmps77
    go_upto_region 1 with fail
    rw [← hw1]
    clear hw1
    go_wp2_with fail
    refine (isCouple_any p d e _ _ _ il jl kl _ HX.out.cx HM.out).mono ?_
    rintro ee wA ⟨b, rfl, hb, hbb⟩
    obtain rfl : b = true := hbb.2 HC.out
    have HBA := Lib.hid hb
    have HXA := Lib.hid (HNX.out _ hb)
    clear hb hbb c0 c1 c2 c3 c4 c5
    have c0 := HXA.out.c0
    have c1 := HXA.out.c1
    have c2 := HXA.out.c2
    have c3 := HXA.out.c3
    have c4 := HXA.out.c4
    have c5 := HXA.out.c5
    go_wp2_with fail
    refine (mapsOfCouples_any _).mono ?_
    rintro ee w0 ⟨rfl, hb⟩
    have HB0 := Lib.hid (HBA.out.trans (hb.mono HBA.out.size))
    have HX0 := Lib.hid (HNX.out _ HB0.out)
    have HG0 : Hid (Gb w1.heap.size w0 (.slice none 0 0) []) := Lib.hid (Gb.nil _ _)
    clear hb HBA HXA c0 c1 c2 c3 c4 c5
    have c0 := HX0.out.c0
    have c1 := HX0.out.c1
    have c2 := HX0.out.c2
    have c3 := HX0.out.c3
    have c4 := HX0.out.c4
    have c5 := HX0.out.c5
    go_wp2
    refine wp_loop_rounds 4 ?_
    rw [rounds_succ]
    go_wp2_with fail
    refine (mapI_any p d e _ _ _ il jl kl _ HX0.out.cx).mono ?_
    rintro ee wm0 ⟨rfl, hb⟩
    have HB0m := Lib.hid (HB0.out.trans (hb.mono (HB0.out.size)))
    have HG0m := Lib.hid (HG0.out.below hb)
    have HY := Lib.hid (HNX.out _ HB0m.out)
    clear hb c0 c1 c2 c3 c4 c5
    go_wp2_with fail
    refine (rank_any p d d (.slice ai il.length ci) il d _ HC.out.1 HY.out.cx.fi (by omega) HC.out.2.2.2.1.2 (by have := HC.out.2.2.2.1.1; omega)).mono ?_
    rintro ee wr0 ⟨y0, rfl, hb, hy⟩
    have HRK0 := Lib.hid hy
    have hba : Below wr0.heap.size wr0 (wr0.alloc (.cells #[.int .i64 y0] 2)) := below_alloc1 _ _
    have HB0r := Lib.hid (HB0m.out.trans ((hb.trans (hba.mono hb.size)).mono (HB0m.out.size)))
    have HG0r := Lib.hid (HG0m.out.below (hb.trans (hba.mono hb.size)))
    have hcell : (wr0.alloc (.cells #[.int .i64 y0] 2)).cell? ⟨wr0.heap.size, 0, none⟩ = some (.int .i64 y0) := cell_alloc1 _ _ _
    clear hb hba hy HY HG0 HG0m HB0 HB0m HX0
    go_wp2_with (at_builtin; refine wpList_appendB rfl (some 20) rfl (.tmp 14) (.tmp 19) rfl w1.heap.size _ [] rfl wr0.heap.size 1 y0 rfl HG0r.out hcell (by simp) HB0r.out.size ?_)
    intro v W1 hg hgr _
    have HG1 : Hid (Gb w1.heap.size W1 v [y0]) := Lib.hid hg
    have HB1 : Hid (Below w1.heap.size w1 W1) := Lib.hid (HB0r.out.grown hgr HB0r.out.size (fun g hg => (HG0r.out.lt g hg).1))
    obtain ⟨av1, nv1, cv1, hv⟩ : ∃ a n c, v = .slice a n c := by obtain ⟨a, c, ee⟩ := Sl.shape hg.g1.l1; exact ⟨a, _, c, ee⟩
    subst hv
    have HX1 := Lib.hid (HNX.out _ HB1.out)
    clear hg hgr hcell HG0r HB0r
    have c0 := HX1.out.c0
    have c1 := HX1.out.c1
    have c2 := HX1.out.c2
    have c3 := HX1.out.c3
    have c4 := HX1.out.c4
    have c5 := HX1.out.c5
    go_wp2
    rw [rounds_succ]
    go_wp2_with fail
    refine (mapJ_any p d e _ _ _ il jl kl _ HX1.out.cx).mono ?_
    rintro ee wm1 ⟨rfl, hb⟩
    have HB1m := Lib.hid (HB1.out.trans (hb.mono (HB1.out.size)))
    have HG1m := Lib.hid (HG1.out.below hb)
    have HY := Lib.hid (HNX.out _ HB1m.out)
    clear hb c0 c1 c2 c3 c4 c5
    go_wp2_with fail
    refine (rank_any p d e (.slice aj jl.length cj) jl e _ HC.out.1 HY.out.cx.fj (by omega) HC.out.2.2.2.2.1.2 (by have := HC.out.2.2.2.2.1.1; omega)).mono ?_
    rintro ee wr1 ⟨y1, rfl, hb, hy⟩
    have HRK1 := Lib.hid hy
    have hba : Below wr1.heap.size wr1 (wr1.alloc (.cells #[.int .i64 y1] 2)) := below_alloc1 _ _
    have HB1r := Lib.hid (HB1m.out.trans ((hb.trans (hba.mono hb.size)).mono (HB1m.out.size)))
    have HG1r := Lib.hid (HG1m.out.below (hb.trans (hba.mono hb.size)))
    have hcell : (wr1.alloc (.cells #[.int .i64 y1] 2)).cell? ⟨wr1.heap.size, 0, none⟩ = some (.int .i64 y1) := cell_alloc1 _ _ _
    clear hb hba hy HY HG1 HG1m HB1 HB1m HX1
    go_wp2_with (at_builtin; refine wpList_appendB rfl (some 20) rfl (.tmp 14) (.tmp 19) rfl w1.heap.size _ [y0] rfl wr1.heap.size 1 y1 rfl HG1r.out hcell (by simp) HB1r.out.size ?_)
    intro v W2 hg hgr _
    have HG2 : Hid (Gb w1.heap.size W2 v [y0, y1]) := Lib.hid hg
    have HB2 : Hid (Below w1.heap.size w1 W2) := Lib.hid (HB1r.out.grown hgr HB1r.out.size (fun g hg => (HG1r.out.lt g hg).1))
    obtain ⟨av2, nv2, cv2, hv⟩ : ∃ a n c, v = .slice a n c := by obtain ⟨a, c, ee⟩ := Sl.shape hg.g1.l1; exact ⟨a, _, c, ee⟩
    subst hv
    have HX2 := Lib.hid (HNX.out _ HB2.out)
    clear hg hgr hcell HG1r HB1r
    have c0 := HX2.out.c0
    have c1 := HX2.out.c1
    have c2 := HX2.out.c2
    have c3 := HX2.out.c3
    have c4 := HX2.out.c4
    have c5 := HX2.out.c5
    go_wp2
    rw [rounds_succ]
    go_wp2_with fail
    refine (mapK_any p d e _ _ _ il jl kl _ HX2.out.cx).mono ?_
    rintro ee wm2 ⟨rfl, hb⟩
    have HB2m := Lib.hid (HB2.out.trans (hb.mono (HB2.out.size)))
    have HG2m := Lib.hid (HG2.out.below hb)
    have HY := Lib.hid (HNX.out _ HB2m.out)
    clear hb c0 c1 c2 c3 c4 c5
    go_wp2_with fail
    refine (rank_any p e d (.slice ak kl.length ck) kl d _ HC.out.1 HY.out.cx.fk (by omega) HC.out.2.2.2.2.2.2 (by have := HC.out.2.2.2.2.2.1; omega)).mono ?_
    rintro ee wr2 ⟨y2, rfl, hb, hy⟩
    have HRK2 := Lib.hid hy
    have hba : Below wr2.heap.size wr2 (wr2.alloc (.cells #[.int .i64 y2] 2)) := below_alloc1 _ _
    have HB2r := Lib.hid (HB2m.out.trans ((hb.trans (hba.mono hb.size)).mono (HB2m.out.size)))
    have HG2r := Lib.hid (HG2m.out.below (hb.trans (hba.mono hb.size)))
    have hcell : (wr2.alloc (.cells #[.int .i64 y2] 2)).cell? ⟨wr2.heap.size, 0, none⟩ = some (.int .i64 y2) := cell_alloc1 _ _ _
    clear hb hba hy HY HG2 HG2m HB2 HB2m HX2
    go_wp2_with (at_builtin; refine wpList_appendB rfl (some 20) rfl (.tmp 14) (.tmp 19) rfl w1.heap.size _ [y0, y1] rfl wr2.heap.size 1 y2 rfl HG2r.out hcell (by simp) HB2r.out.size ?_)
    intro v W3 hg hgr _
    have HG3 : Hid (Gb w1.heap.size W3 v [y0, y1, y2]) := Lib.hid hg
    have HB3 : Hid (Below w1.heap.size w1 W3) := Lib.hid (HB2r.out.grown hgr HB2r.out.size (fun g hg => (HG2r.out.lt g hg).1))
    obtain ⟨av3, nv3, cv3, hv⟩ : ∃ a n c, v = .slice a n c := by obtain ⟨a, c, ee⟩ := Sl.shape hg.g1.l1; exact ⟨a, _, c, ee⟩
    subst hv
    have HX3 := Lib.hid (HNX.out _ HB3.out)
    clear hg hgr hcell HG2r HB2r
    have c0 := HX3.out.c0
    have c1 := HX3.out.c1
    have c2 := HX3.out.c2
    have c3 := HX3.out.c3
    have c4 := HX3.out.c4
    have c5 := HX3.out.c5
    go_wp2
    rw [rounds_succ]
    go_wp2
    go_ret2
    exact ⟨_, _, 0, rfl, (HG3.out.rw1 (by simp)).wider (by omega) (Nat.le_refl _), HX3.out.below, RsOut.of_yes HCODE.out ⟨_, _, _, rfl, HRK0.out, HRK1.out, HRK2.out⟩⟩
  · have HC := Lib.hid hc
    have HCODE := Lib.hid (cpCode_no hc)
    clear hc
    go_enter Try.func77, Try.ntmps77
    go_upto_region 1 with fail
    rw [← hw1]
    clear hw1
    go_wp2_with fail
    refine (isCouple_any p d e _ _ _ il jl kl _ HX.out.cx HM.out).mono ?_
    rintro ee w2 ⟨b, rfl, hb, hbb⟩
    obtain rfl : b = false := bb_no hbb HC.out
    have HX2 := Lib.hid (HX.out.next hb)
    clear hb hbb c0 c1 c2 c3 c4 c5
    go_wp2
    go_ret2
    exact ⟨_, [], 1, rfl, Rw1.nil _ _ _, HX2.out.below, by rw [HCODE.out]; exact RsOut.of_no (by decide)⟩


set_option maxHeartbeats 3200000 in
set_option maxRecDepth 100000 in
theorem spRanksOf_any (p d e : Int) (iv jv kv : Value) (il jl kl : List (List Int)) (w : World) (h : Cp 0 w iv jv kv il jl kl) (hm : CpB 1048576 il jl kl) :
    Calls Try.prog 76 #[.agg #[.int .i64 p, .int .i64 d, .int .i64 e, iv, jv, kv]] w (AnsS (L1 0) (RksOf p il jl kl) [] (cpCode p d e il jl kl) w) := by
  have HM := Lib.hid hm
  obtain ⟨w1, hw1⟩ : ∃ w1, w1 = w.alloc (.cells #[.int .i64 p, .int .i64 d, .int .i64 e, iv, jv, kv] 71) := ⟨_, rfl⟩
  have hs1 : w1.heap.size = w.heap.size + 1 := by rw [hw1]; simp
  have HX : Hid (BxCp w w1 w.heap.size p d e iv jv kv il jl kl) := Lib.hid (by rw [hw1]; exact BxCp.start 71 h)
  clear h hm
  have HNX : Hid (∀ W, Below w1.heap.size w1 W → BxCp w W w.heap.size p d e iv jv kv il jl kl) := Lib.hid (fun W h => HX.out.next h)
  obtain ⟨⟨ai, ci, rfl⟩, ⟨aj, cj, rfl⟩, ⟨ak, ck, rfl⟩⟩ := HX.out.cx.shapes
  have hle1 : w.heap.size ≤ w1.heap.size := by omega
  clear hs1
  have c0 := HX.out.c0
  have c1 := HX.out.c1
  have c2 := HX.out.c2
  have c3 := HX.out.c3
  have c4 := HX.out.c4
  have c5 := HX.out.c5
  by_cases hc : IsCp p d e il jl kl
  · have HC := Lib.hid hc
    have hd := hc.2.1
    have he := hc.2.2.1
    obtain ⟨dn, hdn⟩ := Int.eq_ofNat_of_zero_le hd.1
    obtain ⟨en, hen⟩ := Int.eq_ofNat_of_zero_le he.1
    have HT0 : Hid (TabOk p d (dn : Int) il) := Lib.hid (by rw [← show d = (dn : Int) from hdn]; exact hc.2.2.2.1)
    have HT1 : Hid (TabOk p d (en : Int) jl) := Lib.hid (by rw [← show e = (en : Int) from hen]; exact hc.2.2.2.2.1)
    have HT2 : Hid (TabOk p e (dn : Int) kl) := Lib.hid (by rw [← show d = (dn : Int) from hdn]; exact hc.2.2.2.2.2)
    have hdn40 : dn ≤ 24 := by omega
    have hen40 : en ≤ 24 := by omega
    have HCODE := Lib.hid (cpCode_yes hc)
    clear hc hdn hen
    go_enter Try.func76, Try.ntmps76
    go_upto_region 1 with fail
    rw [← hw1]
    clear hw1
    go_wp2_with fail
    refine (l05Is_any p d e _ _ _ il jl kl _ HX.out.cx HM.out).mono ?_
    rintro ee wA ⟨b, rfl, hb, hbb⟩
    obtain rfl : b = true := hbb.2 HC.out
    have HBA := Lib.hid hb
    have HXA := Lib.hid (HNX.out _ hb)
    have HD : Hid (Below w1.heap.size w1 wA.drew) := Lib.hid hb.drew
    have HK0 : Hid (∀ W, Below w1.heap.size w1 W → Calls Try.prog 140 #[.int .i64 p, .slice ai il.length ci] W (IntR (RkT p il) W)) := Lib.hid (fun W hW => l01Rank_any p (.slice ai il.length ci) il dn _ HC.out.1 (HNX.out _ hW).cx.fi (by omega) HT0.out.2 (by have := HT0.out.1; omega))
    have HK1 : Hid (∀ W, Below w1.heap.size w1 W → Calls Try.prog 140 #[.int .i64 p, .slice aj jl.length cj] W (IntR (RkT p jl) W)) := Lib.hid (fun W hW => l01Rank_any p (.slice aj jl.length cj) jl en _ HC.out.1 (HNX.out _ hW).cx.fj (by omega) HT1.out.2 (by have := HT1.out.1; omega))
    have HK2 : Hid (∀ W, Below w1.heap.size w1 W → Calls Try.prog 140 #[.int .i64 p, .slice ak kl.length ck] W (IntR (RkT p kl) W)) := Lib.hid (fun W hW => l01Rank_any p (.slice ak kl.length ck) kl dn _ HC.out.1 (HNX.out _ hW).cx.fk (by omega) HT2.out.2 (by have := HT2.out.1; omega))
    have HSP : Hid (∀ w', Below w1.heap.size w1 w' → w'.cell? ⟨w.heap.size, 0, none⟩ = some (.int .i64 p) ∧ w'.cell? ⟨w.heap.size, 3, none⟩ = some (.slice ai il.length ci) ∧ w'.cell? ⟨w.heap.size, 4, none⟩ = some (.slice aj jl.length cj) ∧ w'.cell? ⟨w.heap.size, 5, none⟩ = some (.slice ak kl.length ck)) := Lib.hid (fun w' hb => ⟨(HNX.out _ hb).c0, (HNX.out _ hb).c3, (HNX.out _ hb).c4, (HNX.out _ hb).c5⟩)
    clear hb hbb c0 c1 c2 c3 c4 c5
    have c0 := HXA.out.c0
    have c3 := HXA.out.c3
    have c4 := HXA.out.c4
    have c5 := HXA.out.c5
    go_wp2
    go_region_held3 (fun w' => w'.cell? ⟨w.heap.size, 0, none⟩ = some (.int .i64 p) ∧ w'.cell? ⟨w.heap.size, 3, none⟩ = some (.slice ai il.length ci) ∧ w'.cell? ⟨w.heap.size, 4, none⟩ = some (.slice aj jl.length cj) ∧ w'.cell? ⟨w.heap.size, 5, none⟩ = some (.slice ak kl.length ck))
      (first | exact HSP.out _ HBA.out | exact HSP.out _ HD.out | exact HSP.out _ HE0.out | exact HSP.out _ HE1.out | exact HSP.out _ HE2.out | go_keep)
      (first
        | (go_at_call 140; (with_reducible refine (HK0.out _ HD.out).mono ?_); rintro ee v0 ⟨y0, rfl, hb, hy⟩; have HRK0 := Lib.hid hy; have HE0 := Lib.hid (HD.out.trans (hb.mono HD.out.size)); clear hb hy)
        | (go_at_call 140; (with_reducible refine (HK1.out _ HE0.out).mono ?_); rintro ee v1 ⟨y1, rfl, hb, hy⟩; have HRK1 := Lib.hid hy; have HE1 := Lib.hid (HE0.out.trans (hb.mono HE0.out.size)); clear hb hy)
        | (go_at_call 140; (with_reducible refine (HK2.out _ HE1.out).mono ?_); rintro ee v2 ⟨y2, rfl, hb, hy⟩; have HRK2 := Lib.hid hy; have HE2 := Lib.hid (HE1.out.trans (hb.mono HE1.out.size)); clear hb hy))
    clear c0 c3 c4 c5
    go_wp2
    go_ret2
    exact ⟨_, [y0, y1, y2], 0, rfl, l1_three _ _ _ _ _, (HNX.out _ (HE2.out.trans ((below_alloc1 _ _).mono HE2.out.size))).below, RsOut.of_yes HCODE.out ⟨_, _, _, rfl, HRK0.out, HRK1.out, HRK2.out⟩⟩
  · have HC := Lib.hid hc
    have HCODE := Lib.hid (cpCode_no hc)
    clear hc
    go_enter Try.func76, Try.ntmps76
    go_upto_region 1 with fail
    rw [← hw1]
    clear hw1
    go_wp2_with fail
    refine (l05Is_any p d e _ _ _ il jl kl _ HX.out.cx HM.out).mono ?_
    rintro ee w2 ⟨b, rfl, hb, hbb⟩
    obtain rfl : b = false := bb_no hbb HC.out
    have HX2 := Lib.hid (HX.out.next hb)
    clear hb hbb c0 c1 c2 c3 c4 c5
    go_wp2
    go_ret2
    exact ⟨_, [], 1, rfl, Or.inl ⟨rfl, _, _, rfl⟩, HX2.out.below, by rw [HCODE.out]; exact RsOut.of_no (by decide)⟩
end Go.Proofs.Ytpdkfidmmjlmnab
