/-
  The lead of a family; ApplyFamily of the program, by contracts.
-/
import Derived.Test.YtpdkfidmmjlmnabApf
namespace Go.Proofs.Ytpdkfidmmjlmnab
open Go.RowKit

section
variable {P : Program} {ops : Array Oper} {Q : Exit → Act → World → Prop} {md : Region.Mode} {S : World → Prop}
/-- A guarded operation that is not wanted. -/
theorem held_skip {i : Nat} {oi : Oper} {fuel : Nat} {listed : Array Bool} {a : Act} {w : World} (d : Option Tmp) (hi : ops[i]? = some oi) (hd : oi.dst = d)
    (hs : Region.noSelect ops = true) (hf : Region.free md ops listed i = true) (hr : (Region.ready md ops listed).contains i = true)
    (hQ : ∀ c a w, Q (.panic c) (a.put oi.dst undef) w → Q (.panic c) a w) (hw : Region.wanted oi (yielded ops a.tmps) = false) (hS : S w)
    (h : wpAnyH P md ops Q S fuel (listed.setIfInBounds i true) (a.put d undef) w) : wpAnyH P md ops Q S (fuel + 1) listed a w :=
  held_take d hi hd hs hf hr hQ (Or.inr ⟨hw, rfl⟩) hS h
end
def LeadR (x : Int) (xs : List Int) (w : World) (e : Ending) (w' : World) : Prop := ∃ u, e = .returned (.agg #[.int .i64 x, u]) ∧ W1 w.heap.size w'.heap.size w' u xs ∧ Below w.heap.size w w'

set_option maxHeartbeats 3200000 in
set_option maxRecDepth 100000 in
theorem lead_any (p2 s : Int) (n c2 : Nat) (dv2 mv2 fv vv : Value) (ds2 : List Int) (ms2 fs : List (List (List Int))) (vs : List Int) (w : World) (h2 : Cx 0 w dv2 mv2 ds2 ms2) (hf : L3 0 w fv fs) (hv : L1 0 w vv vs) (hcy : IsCx p2 ds2 ms2) (hn : n < fs.length) (hnb : n ≤ 100) (hs : -1 ≤ s ∧ s ≤ 1) (hc2 : dimZ ds2 ((n : Int) + s) = (c2 : Int)) (ok : ApOk p2 c2 vs (fs.getD n [])) (hmf : fs.length ≤ 1048576) (hmv : vs.length ≤ 1048576) :
    Calls Try.prog 122 #[.agg #[.int .i64 p2, dv2, mv2, .int .i64 s, fv], .agg #[.int .i64 (n : Int), vv]] w (LeadR ((n : Int) + s) (apT p2 c2 vs (fs.getD n [])) w) := by
  obtain ⟨ad2, cap2, rfl⟩ := Sl.shape h2.dims
  obtain ⟨am2, capm2, rfl⟩ := Sl.shape h2.maps
  obtain ⟨af, cf, rfl⟩ := Sl.shape hf
  obtain ⟨av, cv, rfl⟩ := Sl.shape hv
  obtain ⟨t, ht⟩ : ∃ t, t = fs.getD n [] := ⟨_, rfl⟩
  rw [← ht] at ok ⊢
  obtain ⟨tn, htn⟩ : ∃ tn, tn = t.length := ⟨_, rfl⟩
  obtain ⟨wa, hwa⟩ : ∃ wa, wa = w.alloc (.cells #[.int .i64 p2, .slice ad2 ds2.length cap2, .slice am2 ms2.length capm2, .int .i64 s, .slice af fs.length cf] 120) := ⟨_, rfl⟩
  have hba : Below w.heap.size w wa := by rw [hwa]; exact below_alloc1 _ _
  have hsa : wa.heap.size = w.heap.size + 1 := by rw [hwa]; simp
  have a0 : wa.cell? ⟨w.heap.size, 0, none⟩ = some (.int .i64 p2) := by rw [hwa]; simp
  have a1 : wa.cell? ⟨w.heap.size, 1, none⟩ = some (.slice ad2 ds2.length cap2) := by rw [hwa]; simp
  have a2 : wa.cell? ⟨w.heap.size, 2, none⟩ = some (.slice am2 ms2.length capm2) := by rw [hwa]; simp
  have a3 : wa.cell? ⟨w.heap.size, 3, none⟩ = some (.int .i64 s) := by rw [hwa]; simp
  have a4 : wa.cell? ⟨w.heap.size, 4, none⟩ = some (.slice af fs.length cf) := by rw [hwa]; simp
  obtain ⟨wb, hwb⟩ : ∃ wb, wb = wa.alloc (.cells #[.int .i64 (n : Int), .slice av vs.length cv] 118) := ⟨_, rfl⟩
  have hbb : Below wa.heap.size wa wb := by rw [hwb]; exact below_alloc1 _ _
  have hsb : wb.heap.size = w.heap.size + 2 := by rw [hwb]; simp [hsa]
  have b0 : wb.cell? ⟨wa.heap.size, 0, none⟩ = some (.int .i64 (n : Int)) := by rw [hwb]; simp
  have b1 : wb.cell? ⟨wa.heap.size, 1, none⟩ = some (.slice av vs.length cv) := by rw [hwb]; simp
  obtain ⟨w1, hw1a⟩ : ∃ w1, w1 = wb.alloc (.cells #[.int .i64 0, .slice none 0 0] 118) := ⟨_, rfl⟩
  have hbc : Below wb.heap.size wb w1 := by rw [hw1a]; exact below_alloc1 _ _
  have hsz : w.heap.size + 3 = w1.heap.size := by rw [hw1a]; simp [hsb]
  have ht1 : w1.there (w.heap.size + 2) 0 2 := by
    rw [← hsb, hw1a]
    exact there_new wb #[.int .i64 0, .slice none 0 0] 118 (n := 2) (by simp)
  have hw1 : w1 = (((w.alloc (.cells #[.int .i64 p2, .slice ad2 ds2.length cap2, .slice am2 ms2.length capm2, .int .i64 s, .slice af fs.length cf] 120)).alloc (.cells #[.int .i64 (n : Int), .slice av vs.length cv] 118)).alloc (.cells #[.int .i64 0, .slice none 0 0] 118)) := by rw [hw1a, hwb, hwa]
  have hb1 : Below w.heap.size w w1 := (hba.trans (hbb.mono (by omega))).trans (hbc.mono (by omega))
  have hab : Below wa.heap.size wa w1 := hbb.trans (hbc.mono (by omega))
  have g0 := later hab (Nat.le_refl _) a0
  have g1 := later hab (Nat.le_refl _) a1
  have g2 := later hab (Nat.le_refl _) a2
  have g3 := later hab (Nat.le_refl _) a3
  have g4 := later hab (Nat.le_refl _) a4
  have e0 := later hbc (Nat.le_refl _) b0
  have e1 := later hbc (Nat.le_refl _) b1
  rw [hsa] at e0 e1
  clear a0 a1 a2 a3 a4 b0 b1 hbb hbc hab hba hsa hsb hwa hwb hw1a
  have HB1 := Lib.hid hb1
  have HY1 := Lib.hid (h2.below hb1)
  have HF1 := Lib.hid (hf.below hb1)
  have HV1 := Lib.hid (hv.below hb1)
  have HOK := Lib.hid ok
  have HT1 := Lib.hid ht1
  have hl7 := hcy.1.len1
  have hc28 : c2 ≤ 8 := by have := dimZ_b hcy ((n : Int) + s); omega
  obtain ⟨hs0, hs1⟩ := hs
  refine Sl.cases HF1.out (fun _ _ hx _ => absurd hn (by simp [hx])) (fun bf of cf2 hvf _ _ hcf => ?_)
  injection hvf with k1 k2 k3
  clear k2
  subst k1 k3
  obtain ⟨ut, hut, hrt⟩ := hcf n hn
  rw [← getD_of_lt [] hn, ← ht] at hrt
  obtain ⟨at', ct, hus⟩ := Sl.shape hrt
  rw [← htn] at hus
  subst hus
  have HRT := Lib.hid hrt
  have HDA : Hid (∀ W, Below w1.heap.size w1 W → Calls Try.prog 181 #[.agg #[.int .i64 p2, .slice ad2 ds2.length cap2, .slice am2 ms2.length capm2], .int .i64 ((n : Int) + s)] W (BR (.int .i64 (c2 : Int)) W)) := Lib.hid (fun W h => by
    have := dimAt_any p2 ((n : Int) + s) _ _ ds2 ms2 W (HY1.out.below h) (by omega)
    rwa [hc2] at this)
  have HAP : Hid (∀ W, Below w1.heap.size w1 W → Calls Try.prog 180 #[.int .i64 p2, .slice av vs.length cv, .slice at' tn ct, .int .i64 (c2 : Int)] W (ApW p2 c2 vs t W)) := Lib.hid (fun W h => applyTablew_any p2 c2 _ _ vs _ W HOK.out (HV1.out.below h) (HRT.out.below h) hmv (by omega))
  have HIN : Hid (∀ W, Calls Try.prog 130 #[.int .i64 (n : Int), .int .i64 0, .int .i64 ((fs.length : Int) - 1)] W (QW (.bool true) W)) := Lib.hid (fun W => in_yes (by omega) W)
  have hwk : IntKind.i64.wrap ((n : Int) + s) = (n : Int) + s := IntWalk.i64_in _ (by omega)
  have HRES : Hid (Try.f122.results = #[.cell 4 118]) := Lib.hid (by kernel_rfl)
  have HIE : Hid ((Try.prog.info? 118).map (·.size) = some 2) := Lib.hid (by kernel_rfl)
  clear h2 hf hv hcy hc2 ok hcf hrt hb1 ht1 ht htn
  go_enter Try.func122, Try.ntmps122
  go_upto_region 1 with fail
  rw [← hw1]
  clear hw1
  go_wp2_with fail
  refine (HIN.out _).mono ?_
  rintro e w' ⟨rfl, rfl⟩
  clear HIN
  go_upto_region 5 with fail
  have S0 : Hid (Below w1.heap.size w1 w1.drew) := Lib.hid (Below.refl _ _).drew
  refine wp_region_last (fun W => Hid (Below w1.heap.size w1 W)) 13 (by kernel_rfl) rfl (by kernel_rfl) ?_
  refine held_take (i := 0) (v := .int .i64 ((n : Int) + s)) (some 25) rfl rfl (by kernel_rfl) (by kernel_rfl) (by kernel_rfl) (fun _ _ _ h => h) (yieldsIf_move (by kernel_rfl) rfl (by kernel_rfl)) S0 ?_
  refine held_take (i := 1) (v := .pointer (some ⟨w.heap.size, 0, none⟩)) (some 26) rfl rfl (by kernel_rfl) (by kernel_rfl) (by kernel_rfl) (fun _ _ _ h => h) (yieldsIf_run (by kernel_rfl) (fun W _ => by kernel_rfl)) S0 ?_
  refine held_take (i := 2) (v := .pointer (some ⟨w.heap.size, 0, none⟩)) (some 27) rfl rfl (by kernel_rfl) (by kernel_rfl) (by kernel_rfl) (fun _ _ _ h => h) (yieldsIf_run (by kernel_rfl) (fun W _ => by kernel_rfl)) S0 ?_
  refine held_take (i := 3) (v := .int .i64 p2) (some 28) rfl rfl (by kernel_rfl) (by kernel_rfl) (by kernel_rfl) (fun _ _ _ h => h) (yieldsIf_cell (by kernel_rfl) rfl (by kernel_rfl) (fun W h => hload W (later h.out (Nat.le_refl _) g0))) S0 ?_
  refine held_take (i := 4) (v := .pointer (some ⟨w.heap.size + 1, 1, none⟩)) (some 29) rfl rfl (by kernel_rfl) (by kernel_rfl) (by kernel_rfl) (fun _ _ _ h => h) (yieldsIf_run (by kernel_rfl) (fun W _ => by kernel_rfl)) S0 ?_
  refine held_take (i := 5) (v := .slice av vs.length cv) (some 30) rfl rfl (by kernel_rfl) (by kernel_rfl) (by kernel_rfl) (fun _ _ _ h => h) (yieldsIf_cell (by kernel_rfl) rfl (by kernel_rfl) (fun W h => hloadS W (later h.out (Nat.le_refl _) e1))) S0 ?_
  refine held_take (i := 6) (v := .slice at' tn ct) (some 31) rfl rfl (by kernel_rfl) (by kernel_rfl) (by kernel_rfl) (fun _ _ _ h => h) (yieldsIf_move (by kernel_rfl) rfl (by kernel_rfl)) S0 ?_
  refine held_take (i := 7) (v := .pointer (some ⟨w.heap.size, 0, none⟩)) (some 32) rfl rfl (by kernel_rfl) (by kernel_rfl) (by kernel_rfl) (fun _ _ _ h => h) (yieldsIf_run (by kernel_rfl) (fun W _ => by kernel_rfl)) S0 ?_
  refine held_take (i := 8) (v := .agg #[.int .i64 p2, .slice ad2 ds2.length cap2, .slice am2 ms2.length capm2]) (some 33) rfl rfl (by kernel_rfl) (by kernel_rfl) (by kernel_rfl) (fun _ _ _ h => h) (yieldsIf_cell (by kernel_rfl) rfl (by kernel_rfl) (fun W h => hloadC W (later h.out (Nat.le_refl _) g0) (later h.out (Nat.le_refl _) g1) (later h.out (Nat.le_refl _) g2))) S0 ?_
  refine held_take (i := 9) (v := .int .i64 ((n : Int) + s)) (some 34) rfl rfl (by kernel_rfl) (by kernel_rfl) (by kernel_rfl) (fun _ _ _ h => h) (yieldsIf_move (by kernel_rfl) rfl (by kernel_rfl)) S0 ?_
  refine held_enter (i := 10) (some 35) (f := 181) (args := #[.agg #[.int .i64 p2, .slice ad2 ds2.length cap2, .slice am2 ms2.length capm2], .int .i64 ((n : Int) + s)]) (by kernel_rfl) rfl rfl rfl (by kernel_rfl) (HDA.out _ S0.out) ?_ (fun c w' h => by cases h.1) (fun w' h => by cases h.1)
  rintro e4 W4 ⟨he4, hb4⟩
  injection he4 with he4
  subst he4
  have S1 : Hid (Below w1.heap.size w1 W4) := Lib.hid (S0.out.trans hb4)
  refine ⟨S1, ?_⟩
  clear hb4
  refine held_enter (i := 11) (some 36) (f := 180) (args := #[.int .i64 p2, .slice av vs.length cv, .slice at' tn ct, .int .i64 (c2 : Int)]) (by kernel_rfl) rfl rfl rfl (by kernel_rfl) (HAP.out _ S1.out) ?_ (fun c w' h => by obtain ⟨_, h, _⟩ := h; cases h) (fun w' h => by obtain ⟨_, h, _⟩ := h; cases h)
  rintro e5 W5 ⟨u5, he5, hw5, hb5⟩
  injection he5 with he5
  subst he5
  have S2 : Hid (Below w1.heap.size w1 W5) := Lib.hid (S1.out.trans (hb5.mono S1.out.size))
  have HW5 := Lib.hid hw5
  have hs4 : w1.heap.size ≤ W4.heap.size := S1.out.size
  obtain ⟨au, cu, hus⟩ := Sl.shape hw5.l1
  rw [apT_length' HOK.out] at hus
  subst hus
  refine ⟨S2, ?_⟩
  clear hb5 hw5
  refine held_take (i := 12) (v := .agg #[.int .i64 ((n : Int) + s), .slice au c2 cu]) (some 37) rfl rfl (by kernel_rfl) (by kernel_rfl) (by kernel_rfl) (fun _ _ _ h => h) (yieldsIf_run (by kernel_rfl) (fun W _ => by kernel_rfl)) S2 ?_
  refine held_none (i := 13) (v := .bool false) rfl rfl (by kernel_rfl) (by kernel_rfl) (by kernel_rfl) (fun _ _ _ h => h) (yieldsIf_move (by kernel_rfl) rfl (by kernel_rfl)) S2 ?_
  have hth : W5.there (w.heap.size + 2) 0 (#[.int .i64 ((n : Int) + s), .slice au c2 cu] : Array Value).size := there_below HT1.out S2.out (by omega)
  have x0 := hth 0 (by simp)
  have x1 := hth 1 (by simp)
  refine wpAnyH_done (by kernel_rfl) (lastQ_store rfl (by kernel_rfl) (by kernel_rfl) 118 (.tmp 4) (.tmp 37) (by kernel_rfl) (w.heap.size + 2) 0 #[.int .i64 ((n : Int) + s), .slice au c2 cu] (by kernel_rfl) (by kernel_rfl) hth HIE.out (by kernel_rfl) ?_) _
  simp only [Act.put, List.setIfInBounds_toArray, List.set_cons_zero, List.set_cons_succ]
  obtain ⟨W6, hW6⟩ : ∃ W6, W6 = W5.setCells (w.heap.size + 2) 0 [.int .i64 ((n : Int) + s), .slice au c2 cu] := ⟨_, rfl⟩
  have h6 : W6 = (W5.setCell ⟨w.heap.size + 2, 0, none⟩ (.int .i64 ((n : Int) + s))).setCell ⟨w.heap.size + 2, 1, none⟩ (.slice au c2 cu) := by rw [hW6]; rfl
  have HB6 : Hid (Below w.heap.size w W6) := Lib.hid (by
    rw [h6]
    exact (((HB1.out.trans (S2.out.mono HB1.out.size))).setCell (by show w.heap.size ≤ w.heap.size + 2; omega) _).setCell (by show w.heap.size ≤ w.heap.size + 2; omega) _)
  have HW6 : Hid (W1 w.heap.size W6.heap.size W6 (.slice au c2 cu) (apT p2 c2 vs t)) := Lib.hid (by
    have hs6 : W6.heap.size = W5.heap.size := by rw [h6]; simp
    rw [hs6]
    refine (HW5.out.same ?_).wider (by omega) (Nat.le_refl _)
    rw [h6]
    exact (Same.set _ (Or.inl (by omega))).trans (Same.set _ (Or.inl (by omega))))
  obtain ⟨y0, hy0⟩ := Option.isSome_iff_exists.1 x0.1
  obtain ⟨y1, hy1⟩ := Option.isSome_iff_exists.1 x1.1
  have f0 : W6.cell? ⟨w.heap.size + 2, 0, none⟩ = some (.int .i64 ((n : Int) + s)) := by
    rw [h6, World.cell?_setCell_other _ _ _ _ (by simp)]
    exact World.cell?_setCell_same _ _ _ hy0
  have f1 : W6.cell? ⟨w.heap.size + 2, 1, none⟩ = some (.slice au c2 cu) := by
    rw [h6]
    exact World.cell?_setCell_same _ _ _ (by rw [World.cell?_setCell_other _ _ _ _ (by simp)]; exact hy1)
  rw [← hW6]
  clear hW6 h6 hy0 hy1 x0 x1 hth S0 S1 S2 g0 g1 g2 g3 g4 e0 e1 hwk
  go_wp2
  refine bodyPost_ret (v := .agg #[.int .i64 ((n : Int) + s), .slice au c2 cu]) ?_ rfl ⟨.slice au c2 cu, rfl, HW6.out, HB6.out⟩
  simp only [results, HRES.out]
  go_simp

open Classical in
/-- The code of ApplyFamily. -/
noncomputable def apCode (p p2 n : Int) (ds : List Int) (ms : List (List (List Int))) (ds2 : List Int) (ms2 : List (List (List Int))) (fs : List (List (List Int))) (vs : List Int) : Int :=
  if famCode p p2 0 ds ms ds2 ms2 fs = 0 then (if (0 ≤ n ∧ n ≤ (ds.length : Int) - 1) ∧ RowOk p (ds.getD n.toNat 0) vs then 0 else 2) else famCode p p2 0 ds ms ds2 ms2 fs
theorem apCode_zero {p p2 n : Int} {ds : List Int} {ms : List (List (List Int))} {ds2 : List Int} {ms2 : List (List (List Int))} {fs : List (List (List Int))} {vs : List Int} (h : apCode p p2 n ds ms ds2 ms2 fs vs = 0) :
    EndOk p p2 ds ms ds2 ms2 ∧ FamOk p ds ds2 0 fs ∧ (0 ≤ n ∧ n ≤ (ds.length : Int) - 1) ∧ RowOk p (ds.getD n.toNat 0) vs := by
  unfold apCode at h
  by_cases h0 : famCode p p2 0 ds ms ds2 ms2 fs = 0
  · rw [if_pos h0] at h
    by_cases h1 : (0 ≤ n ∧ n ≤ (ds.length : Int) - 1) ∧ RowOk p (ds.getD n.toNat 0) vs
    · exact ⟨(famCode_zero h0).1, (famCode_zero h0).2, h1.1, h1.2⟩
    · rw [if_neg h1] at h
      cases h
  · rw [if_neg h0] at h
    exact absurd h h0
/-- What ApplyFamily answers. -/
def ApFam (p : Int) (ds2 : List Int) (fs : List (List (List Int))) (n : Int) (vs out : List Int) : Prop := out = apT p (dimZ ds2 n).toNat vs (fs.getD n.toNat [])

end Go.Proofs.Ytpdkfidmmjlmnab
