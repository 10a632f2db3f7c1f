/-
  Texts that ProofTpl needs, part 5.
-/
import Derived.Test.YthfcadgbipnemaaZt4
namespace Go.Proofs.Ythfcadgbipnemaa
open Go.RowKit

theorem hload5G (w : World) {b : Nat} {x0 x1 x2 x3 x4 : Value} (h : Rz w b 148 #[x0, x1, x2, x3, x4]) : (Instr.loadAt 148 (.pointer (some ⟨b, 0, none⟩))).run Try.prog w = .ok (.agg #[x0, x1, x2, x3, x4]) w := by
  have c0 := h.cell (i := 0) rfl
  have c1 := h.cell (i := 1) rfl
  have c2 := h.cell (i := 2) rfl
  have c3 := h.cell (i := 3) rfl
  have c4 := h.cell (i := 4) rfl
  go_simp
theorem w1_but {lo hi g : Nat} {w W : World} {u : Value} {xs : List Int} (h : W1 lo hi w u xs) (hg : g < lo) (hb : But g w W) : L1 0 W u xs := by
  rcases h with ⟨hx, ad, cap, hv⟩ | ⟨b, o, cap, hv, hlo, hhi, hpos, hc, hf⟩
  · exact Or.inl ⟨hx, ad, cap, hv⟩
  · refine Or.inr ⟨b, o, cap, hv, Nat.zero_le _, hpos, fun k hk => ?_⟩
    obtain ⟨u, hu, hru⟩ := hc k hk
    exact ⟨u, by rw [hb.cell (cell_lt hu) (by omega)]; exact hu, hru⟩
theorem mod_bd2 {p : Int} (hp : 2 ≤ p) (x : Int) : 0 ≤ x % p ∧ x % p ≤ p - 1 := by
  have h1 := Int.emod_nonneg x (show p ≠ 0 by omega)
  have h2 := Int.emod_lt_of_pos x (show 0 < p by omega)
  omega
theorem adpZ_bd {p : Int} (hp : 2 ≤ p) {S0 : Nat} {us vs : List Int} {f : Int} {a b : Nat} (k : Nat) : 0 ≤ adpZ p f S0 us vs (fun _ => 0) a b k ∧ adpZ p f S0 us vs (fun _ => 0) a b k ≤ p - 1 := by
  unfold adpZ
  by_cases h : S0 ≤ k ∧ k < S0 + a * vs.length + b
  · rw [if_pos h]
    exact mod_bd2 hp _
  · rw [if_neg h]
    show (0 : Int) ≤ 0 ∧ (0 : Int) ≤ p - 1
    omega

set_option maxHeartbeats 3200000 in
set_option maxRecDepth 100000 in
theorem tcImg_any (p p2 f : Int) (i j : Nat) (dv mv dv2 mv2 pv' fx fy uv vv : Value) (bt bf bx bg Sa Sb g N mb nm : Nat) (us vs xs ys : List Int) (S : List PV) (w : World) (hp : IsP p) (hf : 0 ≤ f ∧ f ≤ 6) (hfd : f = if (i : Int) % 2 = 0 then 1 else p - 1) (hib : i ≤ 1000)
    (hts : Rz w bt 145 #[.int .i64 p, dv, mv, .int .i64 p2, dv2, mv2, pv', .map (some mb)]) (hgx : Rz w bf 148 #[.int .i64 p, dv, mv, .int .i64 (-1), fx]) (hgy : Rz w bg 148 #[.int .i64 p2, dv2, mv2, .int .i64 (-1), fy]) (hx0 : w.cell? ⟨bx, 0, none⟩ = some (.int .i64 p)) (hbtg : bt ≠ g) (hbfg : bf ≠ g) (hbgg : bg ≠ g) (hbxg : bx ≠ g)
    (hr : w.rowIs g 2 N (fun _ => .int .i64 0)) (hmap : ∀ W, But g w W → Pl W mb nm S) (hou : ∀ W, But g w W → L1 0 W uv us) (hov : ∀ W, But g w W → L1 0 W vv vs)
    (hl1 : ∀ W, But g w W → Calls Try.prog 144 #[.agg #[.int .i64 p, dv, mv, .int .i64 (-1), fx], .agg #[.int .i64 (i : Int), uv]] W (LeadR ((i : Int) + (-1)) xs W)) (hl2 : ∀ W, But g w W → Calls Try.prog 144 #[.agg #[.int .i64 p2, dv2, mv2, .int .i64 (-1), fy], .agg #[.int .i64 (j : Int), vv]] W (LeadR ((j : Int) + (-1)) ys W))
    (hun : ∀ x ∈ us, 0 ≤ x ∧ x ≤ p - 1) (hvn : ∀ x ∈ vs, 0 ≤ x ∧ x ≤ p - 1) (hxn : ∀ x ∈ xs, 0 ≤ x ∧ x ≤ p - 1) (hyn : ∀ x ∈ ys, 0 ≤ x ∧ x ≤ p - 1)
    (hpa : ∀ a b : Nat, a < xs.length → b < vs.length → Wf4 (((i : Int) + (-1), (a : Int)), ((j : Int), (b : Int))) ∧ (((i : Int) + (-1), (a : Int)), ((j : Int), (b : Int))) ∈ S ∧ plc S (((i : Int) + (-1), (a : Int)), ((j : Int), (b : Int))) = Sa + a * vs.length + b) (hNA : Sa + xs.length * vs.length ≤ N)
    (hpb : ∀ a b : Nat, a < us.length → b < ys.length → Wf4 (((i : Int), (a : Int)), ((j : Int) + (-1), (b : Int))) ∧ (((i : Int), (a : Int)), ((j : Int) + (-1), (b : Int))) ∈ S ∧ plc S (((i : Int), (a : Int)), ((j : Int) + (-1), (b : Int))) = Sb + a * ys.length + b) (hNB : Sb + us.length * ys.length ≤ N)
    (hul : us.length ≤ 1048576) (hvl : vs.length ≤ 1048576) (hxl : xs.length ≤ 1048576) (hyl : ys.length ≤ 1048576) :
    Calls Try.prog 142 #[.slice (some ⟨g, 0, none⟩) N N, .agg #[.int .i64 (i : Int), uv], .agg #[.int .i64 (j : Int), vv], .pointer (some ⟨bt, 0, none⟩), .pointer (some ⟨bf, 0, none⟩), .pointer (some ⟨bx, 0, none⟩), .pointer (some ⟨bg, 0, none⟩)] w (AddR g N (adpZ p f Sb us ys (adpZ p 1 Sa xs vs (fun _ => 0) xs.length 0) us.length 0) w) := by
  have hgl : g < w.heap.size := hr.lt
  obtain ⟨wa, hwa⟩ : ∃ wa, wa = w.alloc (.cells #[.int .i64 (i : Int), uv] 152) := ⟨_, rfl⟩
  have hba : Below w.heap.size w wa := by rw [hwa]; exact below_alloc1 _ _
  have hsa : wa.heap.size = w.heap.size + 1 := by rw [hwa]; simp
  obtain ⟨w1, hw1⟩ : ∃ w1, w1 = wa.alloc (.cells #[.int .i64 (j : Int), vv] 152) := ⟨_, rfl⟩
  have hb1 : Below wa.heap.size wa w1 := by rw [hw1]; exact below_alloc1 _ _
  have hw1b : w1 = (w.alloc (.cells #[.int .i64 (i : Int), uv] 152)).alloc (.cells #[.int .i64 (j : Int), vv] 152) := by rw [hw1, hwa]
  have hb01 : Below w.heap.size w w1 := hba.trans (hb1.mono (by omega))
  have hs1 : w1.heap.size = w.heap.size + 2 := by rw [hw1]; simp [hsa]
  have u0 : w1.cell? ⟨w.heap.size, 0, none⟩ = some (.int .i64 (i : Int)) := later hb1 (Nat.le_refl _) (by rw [hwa]; simp)
  have u1 : w1.cell? ⟨w.heap.size, 1, none⟩ = some uv := later hb1 (Nat.le_refl _) (by rw [hwa]; simp)
  have v0 : w1.cell? ⟨w.heap.size + 1, 0, none⟩ = some (.int .i64 (j : Int)) := by rw [hw1, ← hsa]; simp
  have v1 : w1.cell? ⟨w.heap.size + 1, 1, none⟩ = some vv := by rw [hw1, ← hsa]; simp
  have ht1 := hts.next hb01
  have hx1 := hgx.next hb01
  have hy1 := hgy.next hb01
  have hbxl : bx < w.heap.size := cell_lt hx0
  have x1 : w1.cell? ⟨bx, 0, none⟩ = some (.int .i64 p) := later hb01 (Nat.le_refl _) hx0
  have HCE : Hid (∀ W, But g w1 W → W.cell? ⟨w.heap.size, 0, none⟩ = some (.int .i64 (i : Int)) ∧ W.cell? ⟨w.heap.size, 1, none⟩ = some uv ∧ W.cell? ⟨w.heap.size + 1, 0, none⟩ = some (.int .i64 (j : Int)) ∧ W.cell? ⟨w.heap.size + 1, 1, none⟩ = some vv ∧ W.cell? ⟨bx, 0, none⟩ = some (.int .i64 p) ∧ Rz W bt 145 #[.int .i64 p, dv, mv, .int .i64 p2, dv2, mv2, pv', .map (some mb)] ∧ Rz W bf 148 #[.int .i64 p, dv, mv, .int .i64 (-1), fx] ∧ Rz W bg 148 #[.int .i64 p2, dv2, mv2, .int .i64 (-1), fy]) := Lib.hid (fun W h => ⟨(h.cell (by omega) (by omega)).trans u0, (h.cell (by omega) (by omega)).trans u1, (h.cell (by omega) (by omega)).trans v0, (h.cell (by omega) (by omega)).trans v1, (h.cell (by omega) hbxg).trans x1, (h.block bt ht1.lt hbtg).trans ht1, (h.block bf hx1.lt hbfg).trans hx1, (h.block bg hy1.lt hbgg).trans hy1⟩)
  have HBW : Hid (∀ W, But g w1 W → But g w W) := Lib.hid (fun W h => (But.of_below hb01).trans h)
  have HROW1 : Hid (w1.rowIs g 2 N (fun _ => .int .i64 0)) := Lib.hid (hr.of_block (hb01.block _ hgl))
  have HG1 : Hid (g < w1.heap.size) := Lib.hid (by omega)
  have HL1 := Lib.hid hl1
  have HL2 := Lib.hid hl2
  have HOU := Lib.hid hou
  have HOV := Lib.hid hov
  have HMP := Lib.hid hmap
  have HPA := Lib.hid hpa
  have HPB := Lib.hid hpb
  have HUN := Lib.hid hun
  have HVN := Lib.hid hvn
  have HXN := Lib.hid hxn
  have HYN := Lib.hid hyn
  have HF := Lib.hid hf
  have HP := Lib.hid hp
  have HSG : Hid (∀ W, Calls Try.prog 145 #[.int .i64 p, .int .i64 (i : Int)] W (QW (.int .i64 f) W)) := Lib.hid (fun W => by rw [hfd]; exact signNumber_any p (i : Int) W (by have := hp.lo; omega) (by have := hp.hi; omega) (by omega))
  have HRES : Hid (Try.f142.results = #[]) := Lib.hid (by kernel_rfl)
  clear hwa hw1 hba hb1 hsa hb01 ht1 hx1 hy1 hmap hou hov hpa hpb hr hts hgx hgy hx0 hun hvn hxn hyn hl1 hl2 hs1 u0 u1 v0 v1 x1 hbxl hf hp
  go_enter Try.func142, Try.ntmps142
  go_upto_region 1 with fail
  rw [← hw1b]
  clear hw1b
  refine wp_region_held (S := fun W => Hid (But g w1 W)) (by kernel_rfl) ?_
  have S0 : Hid (But g w1 w1.drew) := Lib.hid (But.refl _ _).drew
  refine held_take (i := 0) (v := .agg #[.int .i64 p, dv, mv, .int .i64 p2, dv2, mv2, pv', .map (some mb)]) (some 10) rfl rfl (by kernel_rfl) (by kernel_rfl) (by kernel_rfl) (fun _ _ _ h => h) (yieldsIf_cell (by kernel_rfl) rfl (by kernel_rfl) (fun W h => hload8T W (HCE.out W h.out).2.2.2.2.2.1)) S0 ?_
  refine held_take (i := 1) (v := .slice (some ⟨g, 0, none⟩) N N) (some 11) rfl rfl (by kernel_rfl) (by kernel_rfl) (by kernel_rfl) (fun _ _ _ h => h) (yieldsIf_move (by kernel_rfl) rfl (by kernel_rfl)) S0 ?_
  refine held_take (i := 2) (v := .agg #[.int .i64 p, dv, mv, .int .i64 (-1), fx]) (some 12) rfl rfl (by kernel_rfl) (by kernel_rfl) (by kernel_rfl) (fun _ _ _ h => h) (yieldsIf_cell (by kernel_rfl) rfl (by kernel_rfl) (fun W h => hload5G W (HCE.out W h.out).2.2.2.2.2.2.1)) S0 ?_
  refine held_take (i := 3) (v := .agg #[.int .i64 (i : Int), uv]) (some 13) rfl rfl (by kernel_rfl) (by kernel_rfl) (by kernel_rfl) (fun _ _ _ h => h) (yieldsIf_cell (by kernel_rfl) rfl (by kernel_rfl) (fun W h => hload2E W (HCE.out W h.out).1 (HCE.out W h.out).2.1)) S0 ?_
  refine held_take (i := 5) (v := .agg #[.int .i64 (j : Int), vv]) (some 15) rfl rfl (by kernel_rfl) (by kernel_rfl) (by kernel_rfl) (fun _ _ _ h => h) (yieldsIf_cell (by kernel_rfl) rfl (by kernel_rfl) (fun W h => hload2E W (HCE.out W h.out).2.2.1 (HCE.out W h.out).2.2.2.1)) S0 ?_
  refine held_enter (i := 4) (some 14) (f := 144) (args := #[.agg #[.int .i64 p, dv, mv, .int .i64 (-1), fx], .agg #[.int .i64 (i : Int), uv]]) (by kernel_rfl) rfl rfl rfl (by kernel_rfl) (HL1.out _ (HBW.out _ S0.out)) ?_ (fun c w' h => by obtain ⟨_, h, _⟩ := h; cases h) (fun w' h => by obtain ⟨_, h, _⟩ := h; cases h)
  rintro e4 w4 ⟨a4, he4, hw4, hb4⟩
  injection he4 with he4
  subst he4
  have S1 : Hid (But g w1 w4) := Lib.hid (S0.out.trans (But.of_below hb4))
  have hg4 : g < w1.drew.heap.size := HG1.out
  have HX4 : Hid (∀ W, But g w4 W → L1 0 W a4 xs) := Lib.hid (fun W h => w1_but hw4 hg4 h)
  have HR4 : Hid (w4.rowIs g 2 N (fun _ => .int .i64 0)) := Lib.hid (HROW1.out.of_block ((hb4.block _ hg4).trans rfl))
  refine ⟨S1, ?_⟩
  refine held_enter (i := 6) (some 16) (f := 143) (args := #[.agg #[.int .i64 p, dv, mv, .int .i64 p2, dv2, mv2, pv', .map (some mb)], .slice (some ⟨g, 0, none⟩) N N, .int .i64 1, .agg #[.int .i64 ((i : Int) + (-1)), a4], .agg #[.int .i64 (j : Int), vv]]) (by kernel_rfl) rfl rfl rfl (by kernel_rfl) (addPair_any p p2 1 ((i : Int) + (-1)) (j : Int) dv mv dv2 mv2 pv' a4 vv Sa g N mb nm (fun _ => 0) xs vs S w4 HP.out (by omega) HR4.out (fun W h => HMP.out W ((HBW.out _ S1.out).trans h)) HX4.out (fun W h => HOV.out W ((HBW.out _ S1.out).trans h)) HXN.out HVN.out (fun k _ => by have := HP.out.lo; omega) HPA.out hNA hxl hvl) ?_ (fun c w' h => by cases h.1) (fun w' h => by cases h.1)
  rintro e5 w5 ⟨he5, hbut5, hrow5⟩
  injection he5 with he5
  subst he5
  have S2 : Hid (But g w1 w5) := Lib.hid (S1.out.trans hbut5)
  have HR5 := Lib.hid hrow5
  refine ⟨S2, ?_⟩
  refine wpAnyH_done (by kernel_rfl) ?_ _
  simp only [Act.put, List.setIfInBounds_toArray, List.set_cons_zero, List.set_cons_succ]
  clear S0 S1 hb4 hw4 hbut5 hrow5 HX4 HR4 hg4
  go_upto_region 2 with fail
  refine wp_region_held (S := fun W => Hid (But g w1 W)) (by kernel_rfl) ?_
  have S0 : Hid (But g w1 w5.drew) := Lib.hid S2.out.drew
  refine held_take (i := 0) (v := .agg #[.int .i64 p, dv, mv, .int .i64 p2, dv2, mv2, pv', .map (some mb)]) (some 17) rfl rfl (by kernel_rfl) (by kernel_rfl) (by kernel_rfl) (fun _ _ _ h => h) (yieldsIf_cell (by kernel_rfl) rfl (by kernel_rfl) (fun W h => hload8T W (HCE.out W h.out).2.2.2.2.2.1)) S0 ?_
  refine held_take (i := 1) (v := .slice (some ⟨g, 0, none⟩) N N) (some 18) rfl rfl (by kernel_rfl) (by kernel_rfl) (by kernel_rfl) (fun _ _ _ h => h) (yieldsIf_move (by kernel_rfl) rfl (by kernel_rfl)) S0 ?_
  refine held_take (i := 2) (v := .pointer (some ⟨bx, 0, none⟩)) (some 19) rfl rfl (by kernel_rfl) (by kernel_rfl) (by kernel_rfl) (fun _ _ _ h => h) (yieldsIf_run (by kernel_rfl) (fun W _ => by kernel_rfl)) S0 ?_
  refine held_take (i := 3) (v := .int .i64 p) (some 20) rfl rfl (by kernel_rfl) (by kernel_rfl) (by kernel_rfl) (fun _ _ _ h => h) (yieldsIf_cell (by kernel_rfl) rfl (by kernel_rfl) (fun W h => hload W (HCE.out W h.out).2.2.2.2.1)) S0 ?_
  refine held_take (i := 4) (v := .pointer (some ⟨w.heap.size, 0, none⟩)) (some 21) rfl rfl (by kernel_rfl) (by kernel_rfl) (by kernel_rfl) (fun _ _ _ h => h) (yieldsIf_run (by kernel_rfl) (fun W _ => by kernel_rfl)) S0 ?_
  refine held_take (i := 5) (v := .int .i64 (i : Int)) (some 22) rfl rfl (by kernel_rfl) (by kernel_rfl) (by kernel_rfl) (fun _ _ _ h => h) (yieldsIf_cell (by kernel_rfl) rfl (by kernel_rfl) (fun W h => hload W (HCE.out W h.out).1)) S0 ?_
  refine held_take (i := 7) (v := .agg #[.int .i64 (i : Int), uv]) (some 24) rfl rfl (by kernel_rfl) (by kernel_rfl) (by kernel_rfl) (fun _ _ _ h => h) (yieldsIf_cell (by kernel_rfl) rfl (by kernel_rfl) (fun W h => hload2E W (HCE.out W h.out).1 (HCE.out W h.out).2.1)) S0 ?_
  refine held_take (i := 8) (v := .agg #[.int .i64 p2, dv2, mv2, .int .i64 (-1), fy]) (some 25) rfl rfl (by kernel_rfl) (by kernel_rfl) (by kernel_rfl) (fun _ _ _ h => h) (yieldsIf_cell (by kernel_rfl) rfl (by kernel_rfl) (fun W h => hload5G W (HCE.out W h.out).2.2.2.2.2.2.2)) S0 ?_
  refine held_take (i := 9) (v := .agg #[.int .i64 (j : Int), vv]) (some 26) rfl rfl (by kernel_rfl) (by kernel_rfl) (by kernel_rfl) (fun _ _ _ h => h) (yieldsIf_cell (by kernel_rfl) rfl (by kernel_rfl) (fun W h => hload2E W (HCE.out W h.out).2.2.1 (HCE.out W h.out).2.2.2.1)) S0 ?_
  refine held_enter (i := 6) (some 23) (f := 145) (args := #[.int .i64 p, .int .i64 (i : Int)]) (by kernel_rfl) rfl rfl rfl (by kernel_rfl) (HSG.out _) ?_ (fun c w' h => by cases h.1) (fun w' h => by cases h.1)
  rintro e6 w6 ⟨he6, hw6⟩
  injection he6 with he6
  subst he6 hw6
  refine ⟨S0, ?_⟩
  refine held_enter (i := 10) (some 27) (f := 144) (args := #[.agg #[.int .i64 p2, dv2, mv2, .int .i64 (-1), fy], .agg #[.int .i64 (j : Int), vv]]) (by kernel_rfl) rfl rfl rfl (by kernel_rfl) (HL2.out _ (HBW.out _ S0.out)) ?_ (fun c w' h => by obtain ⟨_, h, _⟩ := h; cases h) (fun w' h => by obtain ⟨_, h, _⟩ := h; cases h)
  rintro e7 w7 ⟨a7, he7, hw7, hb7⟩
  injection he7 with he7
  subst he7
  have S3 : Hid (But g w1 w7) := Lib.hid (S0.out.trans (But.of_below hb7))
  have hg7 : g < w5.drew.heap.size := Nat.lt_of_lt_of_le HG1.out S2.out.size
  have HY7 : Hid (∀ W, But g w7 W → L1 0 W a7 ys) := Lib.hid (fun W h => w1_but hw7 hg7 h)
  have HR7 : Hid (w7.rowIs g 2 N (fun k => .int .i64 (adpZ p 1 Sa xs vs (fun _ => 0) xs.length 0 k))) := Lib.hid (HR5.out.of_block ((hb7.block _ hg7).trans rfl))
  refine ⟨S3, ?_⟩
  refine held_enter (i := 11) (some 28) (f := 143) (args := #[.agg #[.int .i64 p, dv, mv, .int .i64 p2, dv2, mv2, pv', .map (some mb)], .slice (some ⟨g, 0, none⟩) N N, .int .i64 f, .agg #[.int .i64 (i : Int), uv], .agg #[.int .i64 ((j : Int) + (-1)), a7]]) (by kernel_rfl) rfl rfl rfl (by kernel_rfl) (addPair_any p p2 f (i : Int) ((j : Int) + (-1)) dv mv dv2 mv2 pv' uv a7 Sb g N mb nm (adpZ p 1 Sa xs vs (fun _ => 0) xs.length 0) us ys S w7 HP.out HF.out HR7.out (fun W h => HMP.out W ((HBW.out _ S3.out).trans h)) (fun W h => HOU.out W ((HBW.out _ S3.out).trans h)) HY7.out HUN.out HYN.out (fun k _ => adpZ_bd HP.out.lo k) HPB.out hNB hul hyl) ?_ (fun c w' h => by cases h.1) (fun w' h => by cases h.1)
  rintro e8 w8 ⟨he8, hbut8, hrow8⟩
  injection he8 with he8
  subst he8
  have S4 : Hid (But g w1 w8) := Lib.hid (S3.out.trans hbut8)
  have HRF := Lib.hid hrow8
  have HBF := Lib.hid (HBW.out _ S4.out)
  refine ⟨S4, ?_⟩
  refine wpAnyH_done (by kernel_rfl) ?_ _
  simp only [Act.put, List.setIfInBounds_toArray, List.set_cons_zero, List.set_cons_succ]
  clear S0 S2 S3 S4 hb7 hw7 hbut8 hrow8
  go_wp2
  refine bodyPost_ret (v := .tuple #[]) ?_ rfl ⟨rfl, HBF.out, HRF.out⟩
  simp only [results, HRES.out]
  go_simp
end Go.Proofs.Ythfcadgbipnemaa


namespace Go.Proofs.Ythfcadgbipnemaa
open Go.RowKit

/-- What the image of a pair reads. -/
structure TcW (p : Int) (dv mv dv2 mv2 fx fy : Value) (ds : List Int) (ms : List (List (List Int))) (ds2 : List Int) (ms2 : List (List (List Int))) (G N mb nm bt bf bx bg : Nat) (W : World) : Prop where
  ts : Rz W bt 145 #[.int .i64 p, dv, mv, .int .i64 p, dv2, mv2, .slice (some ⟨G, 0, none⟩) N N, .map (some mb)]
  gx : Rz W bf 148 #[.int .i64 p, dv, mv, .int .i64 (-1), fx]
  gy : Rz W bg 148 #[.int .i64 p, dv2, mv2, .int .i64 (-1), fy]
  x0 : W.cell? ⟨bx, 0, none⟩ = some (.int .i64 p)
  pl : Pl W mb nm (tsA (bsL ds ds.length) (bsL ds2 ds2.length) (bsL ds ds.length).length)
  cx : Cx 0 W dv mv ds ms
  cy : Cx 0 W dv2 mv2 ds2 ms2
  tx : L3 0 W fx (dfL ds ms)
  ty : L3 0 W fy (dfL ds2 ms2)

theorem tcImgAt {p : Int} {dv mv dv2 mv2 fx fy : Value} {ds : List Int} {ms : List (List (List Int))} {ds2 : List Int} {ms2 : List (List (List Int))} {G N mb nm bt bf bx bg : Nat} (hcx : IsCx p ds ms) (hcy : IsCx p ds2 ms2) {n k c i a j b ri rj gi gj g : Nat} {W : World} (hT : ∀ W2, But g W W2 → TcW p dv mv dv2 mv2 fx fy ds ms ds2 ms2 G N mb nm bt bf bx bg W2)
    (hbt : bt ≠ g) (hbf : bf ≠ g) (hbg : bg ≠ g) (hbx : bx ≠ g) (hn : 1 ≤ n) (hc : c = (tdN ds ds2 (n - 1)).toNat) (hq : (prF (tsA (bsL ds ds.length) (bsL ds2 ds2.length) (bsL ds ds.length).length) (n : Int))[k]? = some (((i : Int), (a : Int)), ((j : Int), (b : Int)))) (hi : i < ds.length) (hj : j < ds2.length) (hri : ds.getD i 0 = (ri : Int)) (hrj : ds2.getD j 0 = (rj : Int)) (ha : a < ri) (hb : b < rj)
    (hui : W.rowIs gi 2 ri (fun q => .int .i64 (if q = a then 1 else 0))) (huj : W.rowIs gj 2 rj (fun q => .int .i64 (if q = b then 1 else 0))) (hrow : W.rowIs g 2 c (fun _ => .int .i64 0)) (hgi : gi ≠ g) (hgj : gj ≠ g) :
    Calls Try.prog 142 #[.slice (some ⟨g, 0, none⟩) c c, .agg #[.int .i64 (i : Int), .slice (some ⟨gi, 0, none⟩) ri ri], .agg #[.int .i64 (j : Int), .slice (some ⟨gj, 0, none⟩) rj rj], .pointer (some ⟨bt, 0, none⟩), .pointer (some ⟨bf, 0, none⟩), .pointer (some ⟨bx, 0, none⟩), .pointer (some ⟨bg, 0, none⟩)] W (AddR g c (tcZ p ds ms ds2 ms2 n k) W) := by
  have hw := hT W (But.refl _ _)
  have hlo := hcx.1.prime.lo
  have hhi := hcx.1.prime.hi
  have hl6 := hcx.1.len1
  have hl7 := hcy.1.len1
  have hdi : dimZ ds (i : Int) = (ri : Int) := by rw [dimZ_in rfl hi, ← hri, getD_of_lt _ hi]
  have hdj : dimZ ds2 (j : Int) = (rj : Int) := by rw [dimZ_in rfl hj, ← hrj, getD_of_lt _ hj]
  have hbi := dimZ_b hcx (i : Int)
  have hbj := dimZ_b hcy (j : Int)
  have hmem : (((i : Int), (a : Int)), ((j : Int), (b : Int))) ∈ prF (tsA (bsL ds ds.length) (bsL ds2 ds2.length) (bsL ds ds.length).length) (n : Int) := List.mem_of_getElem? hq
  have hdg : (i : Int) + (j : Int) = (n : Int) := (prF_mem.1 hmem).2
  have e1 : (i : Int) + (-1) + (j : Int) = ((n - 1 : Nat) : Int) := by omega
  have e2 : (i : Int) + ((j : Int) + (-1)) = ((n - 1 : Nat) : Int) := by omega
  have hcn : c = plS ds ds2 ((n - 1 : Nat) : Int) ds.length := by
    rw [hc, td_n hcx hcy]
    omega
  have hxl := tcX_len hcx hi hri ha
  have hyl := tcX_len hcy hj hrj hb
  have hx8 := tcX_8 hcx hi hri ha
  have hy8 := tcX_8 hcy hj hrj hb
  have hxo := (tcX_ok hcx hi hri ha).2
  have hyo := (tcX_ok hcy hj hrj hb).2
  have hUL : ∀ W2, But g W W2 → L1 0 W2 (.slice (some ⟨gi, 0, none⟩) ri ri) (unL ri a) := fun W2 h2 => unL_l1 (hui.of_block (h2.block _ hui.lt hgi)) (by omega)
  have hVL : ∀ W2, But g W W2 → L1 0 W2 (.slice (some ⟨gj, 0, none⟩) rj rj) (unL rj b) := fun W2 h2 => unL_l1 (huj.of_block (h2.block _ huj.lt hgj)) (by omega)
  have hf : 0 ≤ (if (i : Int) % 2 = 0 then (1 : Int) else p - 1) ∧ (if (i : Int) % 2 = 0 then (1 : Int) else p - 1) ≤ 6 := by split <;> omega
  have hNA : plS ds ds2 ((i : Int) + (-1) + (j : Int)) (i - 1) + (tcX ds ms i a).length * (unL rj b).length ≤ c ∧ ∀ a2 b2 : Nat, a2 < (tcX ds ms i a).length → b2 < (unL rj b).length → Wf4 (((i : Int) + (-1), (a2 : Int)), ((j : Int), (b2 : Int))) ∧ (((i : Int) + (-1), (a2 : Int)), ((j : Int), (b2 : Int))) ∈ (tsA (bsL ds ds.length) (bsL ds2 ds2.length) (bsL ds ds.length).length) ∧ plc (tsA (bsL ds ds.length) (bsL ds2 ds2.length) (bsL ds ds.length).length) (((i : Int) + (-1), (a2 : Int)), ((j : Int), (b2 : Int))) = plS ds ds2 ((i : Int) + (-1) + (j : Int)) (i - 1) + a2 * (unL rj b).length + b2 := by
    cases i with
    | zero =>
      rw [tcX_zero hcx hri ha]
      refine ⟨by simp [plS], fun a2 b2 h1 => absurd h1 (by simp)⟩
    | succ q =>
      have hq2 : q < ds.length := by omega
      have e3 : ((q + 1 : Nat) : Int) + (-1) = (q : Int) := by omega
      rw [e3] at hxl e1 ⊢
      have hz := dimZ_b hcx (q : Int)
      have hu : ((tcX ds ms (q + 1) a).length : Int) = dimZ ds (q : Int) := by omega
      have hv : ((unL rj b).length : Int) = dimZ ds2 (j : Int) := by rw [unL_length, hdj]
      refine ⟨?_, fun a2 b2 h1 h2 => ⟨⟨WalkArith.wf_i64 (by simp only []; omega), WalkArith.wf_i64 (by simp only []; omega), WalkArith.wf_i64 (by simp only []; omega), WalkArith.wf_i64 (by simp only []; rw [unL_length] at h2; omega)⟩, pv_mem hq2 hj hu hv h1 h2, pv_place hq2 hu hv h1 h2⟩⟩
      have h0 := pv_fit hq2 hu hv
      rw [e1] at h0 ⊢
      rw [hcn]
      exact h0
  have hNB : plS ds ds2 ((i : Int) + ((j : Int) + (-1))) i + (unL ri a).length * (tcX ds2 ms2 j b).length ≤ c ∧ ∀ a2 b2 : Nat, a2 < (unL ri a).length → b2 < (tcX ds2 ms2 j b).length → Wf4 (((i : Int), (a2 : Int)), ((j : Int) + (-1), (b2 : Int))) ∧ (((i : Int), (a2 : Int)), ((j : Int) + (-1), (b2 : Int))) ∈ (tsA (bsL ds ds.length) (bsL ds2 ds2.length) (bsL ds ds.length).length) ∧ plc (tsA (bsL ds ds.length) (bsL ds2 ds2.length) (bsL ds ds.length).length) (((i : Int), (a2 : Int)), ((j : Int) + (-1), (b2 : Int))) = plS ds ds2 ((i : Int) + ((j : Int) + (-1))) i + a2 * (tcX ds2 ms2 j b).length + b2 := by
    cases j with
    | zero =>
      rw [tcX_zero hcy hrj hb]
      refine ⟨?_, fun a2 b2 _ h1 => absurd h1 (by simp)⟩
      rw [e2, hcn]
      have := plS_mono ds ds2 ((n - 1 : Nat) : Int) (show i ≤ ds.length by omega)
      simpa using this
    | succ q =>
      have hq2 : q < ds2.length := by omega
      have e3 : ((q + 1 : Nat) : Int) + (-1) = (q : Int) := by omega
      rw [e3] at hyl e2 ⊢
      have hz := dimZ_b hcy (q : Int)
      have hu : ((unL ri a).length : Int) = dimZ ds (i : Int) := by rw [unL_length, hdi]
      have hv : ((tcX ds2 ms2 (q + 1) b).length : Int) = dimZ ds2 (q : Int) := by omega
      refine ⟨?_, fun a2 b2 h1 h2 => ⟨⟨WalkArith.wf_i64 (by simp only []; omega), WalkArith.wf_i64 (by simp only []; rw [unL_length] at h1; omega), WalkArith.wf_i64 (by simp only []; omega), WalkArith.wf_i64 (by simp only []; omega)⟩, pv_mem hi hq2 hu hv h1 h2, pv_place hi hu hv h1 h2⟩⟩
      have h0 := pv_fit hi hu hv
      rw [e2] at h0 ⊢
      rw [hcn]
      exact h0
  have hmain := tcImg_any p p (if (i : Int) % 2 = 0 then 1 else p - 1) i j dv mv dv2 mv2 (.slice (some ⟨G, 0, none⟩) N N) fx fy (.slice (some ⟨gi, 0, none⟩) ri ri) (.slice (some ⟨gj, 0, none⟩) rj rj) bt bf bx bg (plS ds ds2 ((i : Int) + (-1) + (j : Int)) (i - 1)) (plS ds ds2 ((i : Int) + ((j : Int) + (-1))) i) g c mb nm (unL ri a) (unL rj b) (tcX ds ms i a) (tcX ds2 ms2 j b) (tsA (bsL ds ds.length) (bsL ds2 ds2.length) (bsL ds ds.length).length) W hcx.1.prime hf rfl (by omega) hw.ts hw.gx hw.gy hw.x0 hbt hbf hbg hbx hrow (fun W2 h2 => (hT W2 h2).pl) hUL hVL
    (fun W2 h2 => lead_tc hcx hi hri ha (hT W2 h2).cx (hT W2 h2).tx (hUL W2 h2)) (fun W2 h2 => lead_tc hcy hj hrj hb (hT W2 h2).cy (hT W2 h2).ty (hVL W2 h2)) (unL_bd hlo) (unL_bd hlo) hxo hyo hNA.2 hNA.1 hNB.2 hNB.1 (by rw [unL_length]; omega) (by rw [unL_length]; omega) (by omega) (by omega)
  have hfun : adpZ p (if (i : Int) % 2 = 0 then 1 else p - 1) (plS ds ds2 ((i : Int) + ((j : Int) + (-1))) i) (unL ri a) (tcX ds2 ms2 j b) (adpZ p 1 (plS ds ds2 ((i : Int) + (-1) + (j : Int)) (i - 1)) (tcX ds ms i a) (unL rj b) (fun _ => 0) (tcX ds ms i a).length 0) (unL ri a).length 0 = tcZ p ds ms ds2 ms2 n k := by
    funext q
    unfold tcZ
    rw [hq]
    simp only [Int.toNat_natCast]
    unfold tcRow
    rw [hri, hrj, Int.toNat_natCast, Int.toNat_natCast]
  rwa [hfun] at hmain
end Go.Proofs.Ythfcadgbipnemaa


namespace Go.Proofs.Ythfcadgbipnemaa
open Go.RowKit

set_option maxHeartbeats 3200000 in
set_option maxRecDepth 100000 in
theorem tableByC_any (p p2 : Int) (n c m G N base mb : Nat) (dv mv dv2 mv2 c1 c2 c3 c4 : Value) (ds ds2 : List Int) (f : Nat → Value) (Zr : Nat → Nat → Int) (w : World) (h : L1 0 w dv ds) (h2 : L1 0 w dv2 ds2) (hd : ∀ n, 0 ≤ dimZ ds n ∧ dimZ ds n ≤ 8) (hd2 : ∀ n, 0 ≤ dimZ ds2 n ∧ dimZ ds2 n ≤ 8)
    (hprs : Prs w base G N f (tsA (bsL ds ds.length) (bsL ds2 ds2.length) (bsL ds ds.length).length)) (hn : n < N) (hm : m = (prF (tsA (bsL ds ds.length) (bsL ds2 ds2.length) (bsL ds ds.length).length) (n : Int)).length) (hm8 : m ≤ 1048576) (hc : c ≤ 1048576)
    (himg : ∀ (W : World) (k i a j b ri rj gi gj g : Nat), Below w.heap.size w W → k < m → (prF (tsA (bsL ds ds.length) (bsL ds2 ds2.length) (bsL ds ds.length).length) (n : Int))[k]? = some (((i : Int), (a : Int)), ((j : Int), (b : Int))) → i < ds.length → j < ds2.length → ds.getD i 0 = (ri : Int) → ds2.getD j 0 = (rj : Int) → a < ri → b < rj →
      W.rowIs gi 2 ri (fun q => .int .i64 (if q = a then 1 else 0)) → W.rowIs gj 2 rj (fun q => .int .i64 (if q = b then 1 else 0)) → W.rowIs g 2 c (fun _ => .int .i64 0) → w.heap.size ≤ g → gi ≠ g → gj ≠ g →
      Calls Try.prog 142 #[.slice (some ⟨g, 0, none⟩) c c, .agg #[.int .i64 (i : Int), .slice (some ⟨gi, 0, none⟩) ri ri], .agg #[.int .i64 (j : Int), .slice (some ⟨gj, 0, none⟩) rj rj], c1, c2, c3, c4] W (AddR g c (Zr k) W)) :
    Calls Try.prog 141 #[.agg #[.int .i64 p, dv, mv, .int .i64 p2, dv2, mv2, .slice (some ⟨G, 0, none⟩) N N, .map (some mb)], .int .i64 (n : Int), .int .i64 (c : Int), .func (.func 142) #[] #[c1, c2, c3, c4]] w (TbyR m c Zr w) := by
  obtain ⟨ad, cap, rfl⟩ := Sl.shape h
  obtain ⟨ad2, cap2, rfl⟩ := Sl.shape h2
  obtain ⟨w1, hw1⟩ : ∃ w1, w1 = w.alloc (.cells #[.int .i64 p, .slice ad ds.length cap, mv, .int .i64 p2, .slice ad2 ds2.length cap2, mv2, .slice (some ⟨G, 0, none⟩) N N, .map (some mb)] 145) := ⟨_, rfl⟩
  have hb1 : Below w.heap.size w w1 := by rw [hw1]; exact below_alloc1 _ _
  have hs1 : w1.heap.size = w.heap.size + 1 := by rw [hw1]; simp
  have hz1 : Rz w1 w.heap.size 145 #[.int .i64 p, .slice ad ds.length cap, mv, .int .i64 p2, .slice ad2 ds2.length cap2, mv2, .slice (some ⟨G, 0, none⟩) N N, .map (some mb)] := by rw [hw1]; exact Rz.new _ _ _
  obtain ⟨apr, cpr, hfn⟩ := hprs.shape hn
  rw [← hm] at hfn
  have k1 : w1.cell? ⟨G, n, none⟩ = some (.slice apr m cpr) := later hb1 (Nat.le_refl _) (by rw [← hfn]; exact hprs.row.cell hn)
  have hni : (n : Int) < (N : Int) := by omega
  have hown := hprs.own n hn
  rw [hfn] at hown
  have HOWN : Hid (∀ W, Below w.heap.size w W → W.ownsRow base 194 4 (.slice apr m cpr) (prF (tsA (bsL ds ds.length) (bsL ds2 ds2.length) (bsL ds ds.length).length) (n : Int)).length (pcs (prF (tsA (bsL ds ds.length) (bsL ds2 ds2.length) (bsL ds ds.length).length) (n : Int)))) := Lib.hid (fun W hb => owns_below hown hb)
  have HDS : Hid (∀ W, Below w.heap.size w W → L1 0 W (.slice ad ds.length cap) ds) := Lib.hid (fun W hb => h.below hb)
  have HDS2 : Hid (∀ W, Below w.heap.size w W → L1 0 W (.slice ad2 ds2.length cap2) ds2) := Lib.hid (fun W hb => h2.below hb)
  have HT : Hid (∀ W, Below w1.heap.size w1 W → Below w.heap.size w W) := Lib.hid (fun W hb => hb1.trans (hb.mono (by omega)))
  have HZ : Hid (∀ W, Below w1.heap.size w1 W → Rz W w.heap.size 145 #[.int .i64 p, .slice ad ds.length cap, mv, .int .i64 p2, .slice ad2 ds2.length cap2, mv2, .slice (some ⟨G, 0, none⟩) N N, .map (some mb)]) := Lib.hid (fun W hb => hz1.next hb)
  have HK : Hid (∀ W, Below w1.heap.size w1 W → W.cell? ⟨G, n, none⟩ = some (.slice apr m cpr)) := Lib.hid (fun W hb => later hb (Nat.le_refl _) k1)
  have HIMG := Lib.hid himg
  have HMD := Lib.hid hm
  have HS1 := Lib.hid hs1
  have t0 := hz1.cell (i := 0) rfl
  have t1 := hz1.cell (i := 1) rfl
  have t2 := hz1.cell (i := 2) rfl
  have t3 := hz1.cell (i := 3) rfl
  have t4 := hz1.cell (i := 4) rfl
  have t5 := hz1.cell (i := 5) rfl
  have t6 := hz1.cell (i := 6) rfl
  have t7 := hz1.cell (i := 7) rfl
  clear h h2 hb1 hz1 hfn hown hprs himg hm hs1
  go_enter Try.func141, Try.ntmps141
  go_upto_region 1 with fail
  rw [← hw1]
  clear hw1
  go_wp2_with fail
  refine (dim_any p p2 _ _ _ _ G N n mb m cpr apr _ k1 hn).mono ?_
  rintro ee w2 ⟨rfl, hb2⟩
  go_wp2_with fail
  refine (zeroTable_any m c _ hm8 hc).mono ?_
  rintro ee w3 ⟨rfl, hmat⟩
  have htb := hmat.tb
  have hb23 := hmat.below
  have hs2 := hb2.size
  have HB3 : Hid (Below w1.heap.size w1 w3) := Lib.hid (hb2.trans (hb23.mono hs2))
  obtain ⟨gT, hgT⟩ : ∃ g, g = w2.heap.size := ⟨_, rfl⟩
  rw [← hgT] at htb ⊢
  have HGT : Hid (w1.heap.size ≤ gT) := Lib.hid (by rw [hgT]; exact hs2)
  have HTB := Lib.hid htb
  clear hmat htb hb2 hb23 hs2 k1 hgT t0 t1 t2 t3 t4 t5 t6 t7
  have hz3 := HZ.out _ HB3.out
  have t6 := hz3.cell (i := 6) rfl
  have k3 := HK.out _ HB3.out
  go_wp2
  clear t6 k3 hz3
  go_loopw [10, 11, 23] (fun _ _ x wr => ∃ k : Nat, k ≤ m ∧ x = .int .i64 (k : Int) ∧ Hid (Below w1.heap.size w1 wr) ∧ Hid (Tb wr gT m c (fun j q => if j < k then Zr j q else 0))) (fun _ _ x _ => m - (intOf x).toNat)
  case atStart => exact ⟨0, Nat.zero_le _, rfl, HB3, Lib.hid (HTB.out.congr (fun j _ q _ => by rw [if_neg (Nat.not_lt_zero _)]))⟩
  case round =>
    clear HB3 HTB
    obtain ⟨k, hk, rfl, HB, HTB⟩ := hrel
    obtain ⟨wx, hwx⟩ : ∃ wx : World, wx = wr := ⟨_, rfl⟩
    subst hwx
    by_cases hlt : k < m
    · have hki : (k : Int) < (m : Int) := by omega
      have hkl : k < (prF (tsA (bsL ds ds.length) (bsL ds2 ds2.length) (bsL ds ds.length).length) (n : Int)).length := by rw [← HMD.out]; exact hlt
      obtain ⟨⟨⟨qi, qa⟩, ⟨qj, qb⟩⟩, hq⟩ : ∃ q, (prF (tsA (bsL ds ds.length) (bsL ds2 ds2.length) (bsL ds ds.length).length) (n : Int))[k] = q := ⟨_, rfl⟩
      obtain ⟨gp, cp, hsp, hgp, p0, p1, p2', p3⟩ := pr_at (HOWN.out _ (HT.out _ HB.out)) hkl
      rw [← HMD.out] at hsp
      injection hsp with e1 e2 e3
      clear e2
      subst e1 e3
      rw [hq] at p0 p1 p2' p3
      have hmem : (((qi, qa), (qj, qb)) : PV) ∈ (tsA (bsL ds ds.length) (bsL ds2 ds2.length) (bsL ds ds.length).length) := (prF_mem.1 (by rw [← hq]; exact List.getElem_mem hkl)).1
      obtain ⟨⟨a1, a2⟩, ⟨a3, a4⟩, ⟨a5, a6⟩, a7, a8⟩ := pl_mem.1 hmem
      obtain ⟨i, rfl⟩ : ∃ i : Nat, qi = (i : Int) := ⟨qi.toNat, by omega⟩
      obtain ⟨a, rfl⟩ : ∃ i : Nat, qa = (i : Int) := ⟨qa.toNat, by omega⟩
      obtain ⟨j, rfl⟩ : ∃ i : Nat, qj = (i : Int) := ⟨qj.toNat, by omega⟩
      obtain ⟨b, rfl⟩ : ∃ i : Nat, qb = (i : Int) := ⟨qb.toNat, by omega⟩
      have hi : i < ds.length := by omega
      have hj : j < ds2.length := by omega
      have hdi := hd (i : Int)
      have hdj := hd2 (j : Int)
      obtain ⟨ri, hri⟩ : ∃ r : Nat, dimZ ds (i : Int) = (r : Int) := ⟨(dimZ ds (i : Int)).toNat, by omega⟩
      obtain ⟨rj, hrj⟩ : ∃ r : Nat, dimZ ds2 (j : Int) = (r : Int) := ⟨(dimZ ds2 (j : Int)).toNat, by omega⟩
      have hgi : ds.getD i 0 = (ri : Int) := by rw [← hri, dimZ_in rfl hi, getD_of_lt _ hi]
      have hgj : ds2.getD j 0 = (rj : Int) := by rw [← hrj, dimZ_in rfl hj, getD_of_lt _ hj]
      have hr8 : ri ≤ 8 := by omega
      have hr9 : rj ≤ 8 := by omega
      have hai : a < ri := by omega
      have hbj : b < rj := by omega
      have hqk : (prF (tsA (bsL ds ds.length) (bsL ds2 ds2.length) (bsL ds ds.length).length) (n : Int))[k]? = some (((i : Int), (a : Int)), ((j : Int), (b : Int))) := by rw [List.getElem?_eq_getElem hkl, hq]
      have HQK := Lib.hid hqk
      clear hmem a1 a2 a3 a4 a5 a6 a7 a8 hq hqk hkl hri hrj hdi hdj
      have hz := HZ.out _ HB.out
      go_upto_region 5 with fail
      obtain ⟨w5, hw5⟩ : ∃ w5, w5 = wx.alloc (.cells #[.int .i64 (i : Int), .int .i64 (a : Int), .int .i64 (j : Int), .int .i64 (b : Int)] 194) := ⟨_, rfl⟩
      have hb5 : Below wx.heap.size wx w5 := by rw [hw5]; exact below_alloc1 _ _
      have hz5 : Rz w5 wx.heap.size 194 #[.int .i64 (i : Int), .int .i64 (a : Int), .int .i64 (j : Int), .int .i64 (b : Int)] := by rw [hw5]; exact Rz.new _ _ _
      rw [← hw5]
      clear hw5
      obtain ⟨gr, hgr⟩ : ∃ g, g = gT + 1 + k := ⟨_, rfl⟩
      have hTl := HTB.out.lt
      have hsx := HB.out.size
      have hs5 := hb5.size
      have hg1 := HGT.out
      have hg2 := HS1.out
      have HTB5 := Lib.hid (HTB.out.below hb5)
      have HB5 : Hid (∀ W, But gr w5 W → Below w1.heap.size w1 W) := Lib.hid (fun W hW => (HB.out.trans (hb5.mono hsx)).trans (hW.below (by omega) (by omega)))
      have HP5 : Hid (∀ W, But gr w5 W → Rz W wx.heap.size 194 #[.int .i64 (i : Int), .int .i64 (a : Int), .int .i64 (j : Int), .int .i64 (b : Int)]) := Lib.hid (fun W hW => (hW.block _ hz5.lt (by omega)).trans hz5)
      have HH5 : Hid (∀ W, But gr w5 W → W.cell? ⟨gT, 0 + k, none⟩ = some (.slice (some ⟨gr, 0, none⟩) c c)) := Lib.hid (fun W hW => by rw [Nat.zero_add, hgr]; rw [hgr] at hW; exact (hW.cell (by omega) (by omega)).trans (HTB5.out.top.cell hlt))
      have HROW5 : Hid (w5.rowIs gr 2 c (fun _ => .int .i64 0)) := Lib.hid (by rw [hgr]; exact (HTB5.out.rows k hlt).congr (fun q _ => by rw [if_neg (Nat.lt_irrefl _)]))
      have HGR : Hid (w.heap.size ≤ gr ∧ gr < w5.heap.size) := Lib.hid (by omega)
      have HGE := Lib.hid hgr
      clear hb5 hz5 hz hTl hs5 hg1 hg2 hgr p0 p1 p2' p3 hgp
      refine wp_region_held (S := fun W => Hid (But gr w5 W)) (by kernel_rfl) ?_
      have S0 : Hid (But gr w5 w5.drew) := Lib.hid (But.refl _ _).drew
      refine held_take (i := 0) (v := .func (.func 142) #[] #[c1, c2, c3, c4]) (some 28) rfl rfl (by kernel_rfl) (by kernel_rfl) (by kernel_rfl) (fun _ _ _ h => h) (yieldsIf_move (by kernel_rfl) rfl (by kernel_rfl)) S0 ?_
      refine held_take (i := 1) (v := .slice (some ⟨gT, 0, none⟩) m m) (some 29) rfl rfl (by kernel_rfl) (by kernel_rfl) (by kernel_rfl) (fun _ _ _ h => h) (yieldsIf_move (by kernel_rfl) rfl (by kernel_rfl)) S0 ?_
      refine held_take (i := 2) (v := .int .i64 (k : Int)) (some 30) rfl rfl (by kernel_rfl) (by kernel_rfl) (by kernel_rfl) (fun _ _ _ h => h) (yieldsIf_move (by kernel_rfl) rfl (by kernel_rfl)) S0 ?_
      refine held_take (i := 3) (v := .pointer (some ⟨gT, 0 + k, none⟩)) (some 31) rfl rfl (by kernel_rfl) (by kernel_rfl) (by kernel_rfl) (fun _ _ _ h => h) (yieldsIf_index (by kernel_rfl) rfl (by kernel_rfl) (by kernel_rfl) (hidxS gT 0 m hlt)) S0 ?_
      refine held_take (i := 4) (v := .slice (some ⟨gr, 0, none⟩) c c) (some 32) rfl rfl (by kernel_rfl) (by kernel_rfl) (by kernel_rfl) (fun _ _ _ h => h) (yieldsIf_cell (by kernel_rfl) rfl (by kernel_rfl) (fun W h => hloadS W (HH5.out W h.out))) S0 ?_
      refine held_take (i := 5) (v := .pointer (some ⟨w.heap.size, 0, none⟩)) (some 33) rfl rfl (by kernel_rfl) (by kernel_rfl) (by kernel_rfl) (fun _ _ _ h => h) (yieldsIf_run (by kernel_rfl) (fun W _ => by kernel_rfl)) S0 ?_
      refine held_take (i := 6) (v := .agg #[.int .i64 p, .slice ad ds.length cap, mv]) (some 34) rfl rfl (by kernel_rfl) (by kernel_rfl) (by kernel_rfl) (fun _ _ _ h => h) (yieldsIf_cell (by kernel_rfl) rfl (by kernel_rfl) (fun W h => hload3 W ((HZ.out _ (HB5.out W h.out)).cell (i := 0) rfl) ((HZ.out _ (HB5.out W h.out)).cell (i := 1) rfl) ((HZ.out _ (HB5.out W h.out)).cell (i := 2) rfl))) S0 ?_
      refine held_take (i := 7) (v := .pointer (some ⟨wx.heap.size, 0, none⟩)) (some 35) rfl rfl (by kernel_rfl) (by kernel_rfl) (by kernel_rfl) (fun _ _ _ h => h) (yieldsIf_run (by kernel_rfl) (fun W _ => by kernel_rfl)) S0 ?_
      refine held_take (i := 8) (v := .agg #[.int .i64 (i : Int), .int .i64 (a : Int)]) (some 36) rfl rfl (by kernel_rfl) (by kernel_rfl) (by kernel_rfl) (fun _ _ _ h => h) (yieldsIf_cell (by kernel_rfl) rfl (by kernel_rfl) (fun W h => hload2B W ((HP5.out W h.out).cell (i := 0) rfl) ((HP5.out W h.out).cell (i := 1) rfl))) S0 ?_
      refine held_take (i := 10) (v := .pointer (some ⟨w.heap.size, 3, none⟩)) (some 38) rfl rfl (by kernel_rfl) (by kernel_rfl) (by kernel_rfl) (fun _ _ _ h => h) (yieldsIf_run (by kernel_rfl) (fun W _ => by kernel_rfl)) S0 ?_
      refine held_take (i := 11) (v := .agg #[.int .i64 p2, .slice ad2 ds2.length cap2, mv2]) (some 39) rfl rfl (by kernel_rfl) (by kernel_rfl) (by kernel_rfl) (fun _ _ _ h => h) (yieldsIf_cell (by kernel_rfl) rfl (by kernel_rfl) (fun W h => hload3o W ((HZ.out _ (HB5.out W h.out)).cell (i := 3) rfl) ((HZ.out _ (HB5.out W h.out)).cell (i := 4) rfl) ((HZ.out _ (HB5.out W h.out)).cell (i := 5) rfl))) S0 ?_
      refine held_take (i := 12) (v := .pointer (some ⟨wx.heap.size, 2, none⟩)) (some 40) rfl rfl (by kernel_rfl) (by kernel_rfl) (by kernel_rfl) (fun _ _ _ h => h) (yieldsIf_run (by kernel_rfl) (fun W _ => by kernel_rfl)) S0 ?_
      refine held_take (i := 13) (v := .agg #[.int .i64 (j : Int), .int .i64 (b : Int)]) (some 41) rfl rfl (by kernel_rfl) (by kernel_rfl) (by kernel_rfl) (fun _ _ _ h => h) (yieldsIf_cell (by kernel_rfl) rfl (by kernel_rfl) (fun W h => hload2Bo W ((HP5.out W h.out).cell (i := 2) rfl) ((HP5.out W h.out).cell (i := 3) rfl))) S0 ?_
      refine held_enter (i := 9) (some 37) (f := 193) (args := #[.agg #[.int .i64 p, .slice ad ds.length cap, mv], .agg #[.int .i64 (i : Int), .int .i64 (a : Int)]]) (by kernel_rfl) rfl rfl rfl (by kernel_rfl) (unitElement_any p i a ri _ _ ds _ (HDS.out _ (HT.out _ (HB5.out _ S0.out))) hi hgi hai (by omega)) ?_ (fun c w' h => by obtain ⟨_, h, _⟩ := h; cases h) (fun w' h => by obtain ⟨_, h, _⟩ := h; cases h)
      rintro e6 w6 ⟨gi, he6, hgi6, hb6, hu6⟩
      injection he6 with he6
      subst he6
      have S1 : Hid (But gr w5 w6) := Lib.hid (S0.out.trans (But.of_below hb6))
      have HU6 := Lib.hid hu6
      have hgi1 : gr < gi := by have h1 := HGR.out; have h2 := S0.out.size; have h3 : w5.drew.heap.size ≤ gi := hgi6; omega
      refine ⟨S1, ?_⟩
      refine held_enter (i := 14) (some 42) (f := 193) (args := #[.agg #[.int .i64 p2, .slice ad2 ds2.length cap2, mv2], .agg #[.int .i64 (j : Int), .int .i64 (b : Int)]]) (by kernel_rfl) rfl rfl rfl (by kernel_rfl) (unitElement_any p2 j b rj _ _ ds2 _ (HDS2.out _ (HT.out _ (HB5.out _ S1.out))) hj hgj hbj (by omega)) ?_ (fun c w' h => by obtain ⟨_, h, _⟩ := h; cases h) (fun w' h => by obtain ⟨_, h, _⟩ := h; cases h)
      rintro e7 w7 ⟨gj, he7, hgj7, hb7, hu7⟩
      injection he7 with he7
      subst he7
      have S2 : Hid (But gr w5 w7) := Lib.hid (S1.out.trans (But.of_below hb7))
      have HU7 := Lib.hid hu7
      have HU67 := Lib.hid (HU6.out.of_block (hb7.block _ HU6.out.lt))
      have hgj1 : gr < gj := by have := HGR.out; have := S1.out.size; omega
      refine ⟨S2, ?_⟩
      have HRW7 : Hid (w7.rowIs gr 2 c (fun _ => .int .i64 0)) := Lib.hid (HROW5.out.of_block ((hb7.block _ (by have := HGR.out; have := S1.out.size; omega)).trans ((hb6.block _ (by show gr < w5.drew.heap.size; have := HGR.out; have := S0.out.size; omega)).trans rfl)))
      refine held_enter (i := 15) (some 43) (f := 142) (args := #[.slice (some ⟨gr, 0, none⟩) c c, .agg #[.int .i64 (i : Int), .slice (some ⟨gi, 0, none⟩) ri ri], .agg #[.int .i64 (j : Int), .slice (some ⟨gj, 0, none⟩) rj rj], c1, c2, c3, c4]) (by kernel_rfl) rfl rfl rfl (by kernel_rfl) (HIMG.out w7 k i a j b ri rj gi gj gr (HT.out _ (HB5.out _ S2.out)) hlt HQK.out hi hj hgi hgj hai hbj HU67.out HU7.out HRW7.out HGR.out.1 (by omega) (by omega)) ?_ (fun c w' h => by cases h.1) (fun w' h => by cases h.1)
      rintro e8 w8 ⟨he8, hbut, hrow⟩
      injection he8 with he8
      subst he8
      have S3 : Hid (But gr w5 w8) := Lib.hid (S2.out.trans hbut)
      refine ⟨S3, ?_⟩
      have HB8 : Hid (Below w1.heap.size w1 w8) := Lib.hid (HB5.out _ S3.out)
      have HT8 : Hid (Tb w8 gT m c (fun j q => if j < k + 1 then Zr j q else 0)) := Lib.hid ((HTB5.out.row' (j := k) (by rw [← HGE.out]; exact S3.out) (by rw [← HGE.out]; exact hrow)).congr (fun j2 _ q _ => by
        by_cases e : j2 = k
        · rw [if_pos e, if_pos (by omega), e]
        · rw [if_neg e]
          by_cases e2 : j2 < k
          · rw [if_pos e2, if_pos (by omega)]
          · rw [if_neg e2, if_neg (by omega)]))
      refine wpAnyH_done (by kernel_rfl) ?_ _
      simp only [Act.put, List.setIfInBounds_toArray, List.set_cons_zero, List.set_cons_succ]
      clear S0 S1 S2 S3 hb6 hb7 hu6 hu7 hbut hrow HB HTB hgi6 hgj7
      go_wp2
      go_roundw
      case rel => exact ⟨k + 1, by omega, by go_num, HB8, HT8⟩
      case measure => simp [intOf]; omega
    · have hki : ¬ (k : Int) < (m : Int) := by omega
      have hke : k = m := by omega
      have HTF : Hid (Tb wx gT m c Zr) := Lib.hid (HTB.out.congr (fun j hj q _ => by rw [if_pos (by omega)]))
      have HBF := Lib.hid (HT.out _ HB.out)
      clear hke
      go_wp2
      go_ret
      exact ⟨gT, rfl, by have := HGT.out; have := HS1.out; omega, HTF.out, HBF.out⟩
end Go.Proofs.Ythfcadgbipnemaa


namespace Go.Proofs.Ythfcadgbipnemaa
open Go.RowKit
theorem Same.setRow {lo hi g : Nat} {w : World} (x : Array Value) (h : g < lo ∨ hi ≤ g) : Same lo hi w (w.setRow g x) := fun b hl hb => setRow_other w g b x (by omega)
end Go.Proofs.Ythfcadgbipnemaa


namespace Go.Proofs.Ythfcadgbipnemaa
open Go.RowKit
theorem owns_offRowC {w : World} {base n g : Nat} {e t : TypeId} {u : Value} {xs : List Value} {cs : Array Value} {fr : Nat × Nat} (ho : w.ownsRow base e 1 u n xs) (hg : w.heap[g]? = some (.cells cs t fr)) (h : t ≠ e) (x : Array Value) : (w.setRow g x).ownsRow base e 1 u n xs := by
  refine ⟨ho.1, ?_⟩
  rcases ho.2 with h2 | ⟨g2, cap, cur, hu, hb, hh, r⟩
  · exact Or.inl h2
  · refine Or.inr ⟨g2, cap, cur, hu, hb, ?_, r⟩
    rw [setRow_other w g g2 x (fun e2 => by
      subst e2
      rw [hg] at hh
      simp at hh
      exact h hh.2.1)]
    exact hh
theorem Gb.offRowC {base g : Nat} {w : World} {u : Value} {xs : List Int} {t : TypeId} {cs : Array Value} (h : Gb base w u xs) (hg : Rz w g t cs) (ht : t ≠ 2) (x : Array Value) : Gb base (w.setRow g x) u xs := owns_offRowC h hg ht x
theorem Gs.offRowC {base g : Nat} {w : World} {u : Value} {xs : List (List Int)} {t : TypeId} {cs : Array Value} (h : Gs base w u xs) (hg : Rz w g t cs) (ht : t ≠ 2 ∧ t ≠ 22) (x : Array Value) : Gs base (w.setRow g x) u xs := by
  obtain ⟨vs, ho, h1⟩ := h
  exact ⟨vs, owns_offRowC ho hg ht.2 x, fun k a b => owns_offRowC (h1 k a b) hg ht.1 x⟩
theorem Gt.offRowC {base g : Nat} {w : World} {u : Value} {ts : List (List (List Int))} {t : TypeId} {cs : Array Value} (h : Gt base w u ts) (hg : Rz w g t cs) (ht : t ≠ 2 ∧ t ≠ 22 ∧ t ≠ 27) (x : Array Value) : Gt base (w.setRow g x) u ts := by
  obtain ⟨vs, ho, h1⟩ := h
  exact ⟨vs, owns_offRowC ho hg ht.2.2 x, fun k a b => (h1 k a b).offRowC hg ⟨ht.1, ht.2.1⟩ x⟩
/-- A complex as the model's answer. -/
def GwC (base : Nat) (W : World) (u : Value) (o : Co) : Prop := ∃ ad cd am cm, u = .agg #[.int .i64 o.1, .slice ad o.2.1.length cd, .slice am o.2.2.length cm] ∧ Gb base W (.slice ad o.2.1.length cd) o.2.1 ∧ Gt base W (.slice am o.2.2.length cm) o.2.2
theorem GwC.nil (base : Nat) (W : World) : GwC base W (.agg #[.int .i64 0, .slice none 0 0, .slice none 0 0]) (0, [], []) := ⟨none, 0, none, 0, rfl, ⟨rfl, Or.inl ⟨rfl, rfl⟩⟩, ⟨[], ⟨rfl, Or.inl ⟨rfl, rfl⟩⟩, fun _ h => absurd h (Nat.not_lt_zero _)⟩⟩
end Go.Proofs.Ythfcadgbipnemaa


namespace Go.Proofs.Ythfcadgbipnemaa
open Go.RowKit

theorem But.after {b g : Nat} {x y z : World} (h : But b x y) (k : But g y z) (hg : x.heap.size ≤ g) : But b x z :=
  ⟨k.os.trans h.os, k.tape.trans h.tape, k.output.trans h.output, Nat.le_trans h.size k.size, fun i hi hb => (k.block i (Nat.lt_of_lt_of_le hi h.size) (by omega)).trans (h.block i hi hb)⟩
theorem rz_ne_row {W : World} {g b n : Nat} {t t' : TypeId} {cs : Array Value} {f : Nat → Value} (h : Rz W g t cs) (hr : W.rowIs b t' n f) (ht : t ≠ t') : g ≠ b := by
  rintro rfl
  obtain ⟨c, hc, _⟩ := hr
  have h' : W.heap[g]? = some (.cells cs t (0, 0)) := h
  rw [h'] at hc
  simp at hc
  exact ht hc.2
theorem kp_two {a c gm g1 g2 : Nat} {Wd W V : World} (hb : Below Wd.heap.size Wd W) (x1 x2 : Array Value) (hg1 : (a ≤ g1 ∧ g1 < c) ∨ Wd.heap.size ≤ g1) (hg2 : (a ≤ g2 ∧ g2 < c) ∨ Wd.heap.size ≤ g2) (hgm : a ≤ gm ∧ gm < c) (hV : But gm ((W.setRow g1 x1).setRow g2 x2) V) : Kp a c Wd V := by
  have h1 : Below 0 W (W.setRow g1 x1) := below_setRow (Below.refl 0 W) (Nat.zero_le _) _
  have h2 : Below 0 (W.setRow g1 x1) ((W.setRow g1 x1).setRow g2 x2) := below_setRow (Below.refl 0 _) (Nat.zero_le _) _
  have hs := hb.size
  have hs1 := h1.size
  have hs2 := h2.size
  refine ⟨hV.os.trans (h2.os.trans (h1.os.trans hb.os)), hV.tape.trans (h2.tape.trans (h1.tape.trans hb.tape)), hV.output.trans (h2.output.trans (h1.output.trans hb.output)), Nat.le_trans hs (Nat.le_trans hs1 (Nat.le_trans hs2 hV.size)), fun k hk hh => ?_⟩
  rw [hV.block k (by omega) (by omega), setRow_other _ _ _ _ (by omega), setRow_other _ _ _ _ (by omega)]
  exact hb.block k hk
theorem infoT8 (x0 x1 x2 x3 x4 x5 x6 x7 : Value) : (Try.prog.info? 145).map (·.size) = some (#[x0, x1, x2, x3, x4, x5, x6, x7] : Array Value).size := by kernel_rfl
theorem infoG5 (x0 x1 x2 x3 x4 : Value) : (Try.prog.info? 148).map (·.size) = some (#[x0, x1, x2, x3, x4] : Array Value).size := by kernel_rfl
theorem owns_offRow4 {w : World} {base n g size : Nat} {e t : TypeId} {u : Value} {xs : List Value} {cs : Array Value} {fr : Nat × Nat} (ho : w.ownsRow base e size u n xs) (hg : w.heap[g]? = some (.cells cs t fr)) (h : t ≠ e) (x : Array Value) : (w.setRow g x).ownsRow base e size u n xs := by
  refine ⟨ho.1, ?_⟩
  rcases ho.2 with h2 | ⟨g2, cap, cur, hu, hb, hh, r⟩
  · exact Or.inl h2
  · refine Or.inr ⟨g2, cap, cur, hu, hb, ?_, r⟩
    rw [setRow_other w g g2 x (fun e2 => by
      subst e2
      rw [hg] at hh
      simp at hh
      exact h hh.2.1)]
    exact hh
theorem Prs.offRow {W : World} {base G N g : Nat} {f : Nat → Value} {S : List PV} {cs : Array Value} (h : Prs W base G N f S) (hz : Rz W g 145 cs) (x : Array Value) : Prs (W.setRow g x) base G N f S :=
  ⟨h.row.of_block (setRow_other _ _ _ _ (Ne.symm (rz_ne_row hz h.row (by decide)))), h.lo, fun n hn => owns_offRow4 (h.own n hn) hz (by decide) x, h.sep⟩
theorem Pl.offRow {W : World} {b n g : Nat} {S : List PV} {t : TypeId} {cs : Array Value} (h : Pl W b n S) (hz : Rz W g t cs) (x : Array Value) : Pl (W.setRow g x) b n S := by
  refine h.block (setRow_other _ _ _ _ ?_)
  rintro rfl
  obtain ⟨D, ⟨es, clock, h1, _⟩, _⟩ := h
  have h' : W.heap[b]? = some (.cells cs t (0, 0)) := hz
  rw [h'] at h1
  cases h1
theorem l1_at {w1 : World} {am : Option Addr} {capm : Nat} {ms : List Int} (h : L1 0 w1 (.slice am ms.length capm) ms) {k : Nat} (hk : k < ms.length) : ∃ bm om, am = some ⟨bm, om, none⟩ ∧ w1.cell? ⟨bm, om + k, none⟩ = some (.int .i64 ms[k]) := by
  refine Sl.cases h (fun _ _ hx _ => absurd hk (by simp [hx])) (fun bm om cap hv _ _ hc => ?_)
  injection hv with e1 e2 e3
  obtain ⟨u, hu, hr⟩ := hc k hk
  exact ⟨bm, om, e1, by rw [hu, hr]⟩

theorem rwC_two {lo hi a b c g : Nat} {W : World} {p : Int} {u v : Value} {xs : List Int} {ts : List (List (List Int))} (hd : Rw1 a b W u xs) (hm : W3 g hi W v ts ∧ ∃ J, S3 g hi W v J ∧ Nums c hi W J ∧ Disj J ∧ ivSize J ≤ 1152921504606846976) (h1 : lo ≤ a) (h2 : b ≤ c) (h3 : lo ≤ g) (h4 : b ≤ hi) (h5 : lo ≤ c) : RwC lo hi W (.agg #[.int .i64 p, u, v]) (p, xs, ts) := by
  obtain ⟨ad, cd, hu⟩ := hd.shape
  obtain ⟨q1, I, s1, n1, d1, z1⟩ := hd
  obtain ⟨q3, J, s3, n3, d3, z3⟩ := hm
  obtain ⟨am, cm, hv⟩ := Sw.shape q3
  subst hu hv
  refine ⟨ad, cd, am, cm, rfl, ⟨q1.wider h1 h4, q3.wider h3 (Nat.le_refl _)⟩, I, J, s1.wider h1 h4, s3.wider h3 (Nat.le_refl _), n1.wider h1 h4, n3.wider h5 (Nat.le_refl _), d3, fun x hx y hy => Or.inl ?_, z1, z3⟩
  have e1 := (n1 x hx).2.1
  have e2 := (n3 y hy).1
  omega
def TcR (p : Int) (ds : List Int) (ms : List (List (List Int))) (ds2 : List Int) (ms2 : List (List (List Int))) (w : World) (e : Ending) (w' : World) : Prop := ∃ u, e = .returned u ∧ RwC w.heap.size w'.heap.size w' u (tcOut p ds ms ds2 ms2) ∧ Below w.heap.size w w'

set_option maxHeartbeats 6400000 in
set_option maxRecDepth 100000 in
theorem tensorComplex_any (p : Int) (dv mv dv2 mv2 : Value) (ds : List Int) (ms : List (List (List Int))) (ds2 : List Int) (ms2 : List (List (List Int))) (w : World) (h : Cx 0 w dv mv ds ms) (h2 : Cx 0 w dv2 mv2 ds2 ms2) (hcx : IsCx p ds ms) (hcy : IsCx p ds2 ms2) :
    Calls Try.prog 80 #[.agg #[.int .i64 p, dv, mv], .agg #[.int .i64 p, dv2, mv2]] w (TcR p ds ms ds2 ms2 w) := by
  have hres : Try.f80.results = #[.cell 4 30] := by kernel_rfl
  have HRES := Lib.hid hres
  obtain ⟨ad, cap, rfl⟩ := Sl.shape h.dims
  obtain ⟨am, capm, rfl⟩ := Sl.shape h.maps
  obtain ⟨ad2, cap2, rfl⟩ := Sl.shape h2.dims
  obtain ⟨am2, capm2, rfl⟩ := Sl.shape h2.maps
  obtain ⟨k1, k2⟩ := bx_two (p := p) (p2 := p) 30 h h2
  obtain ⟨wa, hwa⟩ : ∃ wa, wa = ((w.alloc (.cells #[.int .i64 p, .slice ad ds.length cap, .slice am ms.length capm] 30)).alloc (.cells #[.int .i64 p, .slice ad2 ds2.length cap2, .slice am2 ms2.length capm2] 30)) := ⟨_, rfl⟩
  rw [← hwa] at k1 k2
  obtain ⟨w1, hw1⟩ : ∃ w1, w1 = wa.alloc (.cells #[.int .i64 0, .slice none 0 0, .slice none 0 0] 30) := ⟨_, rfl⟩
  have hsa : wa.heap.size = w.heap.size + 2 := by rw [hwa]; simp
  have hs1 : w1.heap.size = w.heap.size + 3 := by rw [hw1]; simp [hsa]
  have hba : Below wa.heap.size wa w1 := by rw [hw1]; exact below_alloc1 _ _
  have HN1 : Hid (∀ W, Below w1.heap.size w1 W → Bx w W w.heap.size p (.slice ad ds.length cap) (.slice am ms.length capm) ds ms ∧ Bx w W (w.heap.size + 1) p (.slice ad2 ds2.length cap2) (.slice am2 ms2.length capm2) ds2 ms2) := Lib.hid (fun W hb => ⟨(k1.next hba).next hb, (k2.next hba).next hb⟩)
  have HR0 : Hid (Rz w1 (w.heap.size + 2) 30 #[.int .i64 0, .slice none 0 0, .slice none 0 0]) := Lib.hid (by rw [hw1, ← hsa]; exact Rz.new _ _ _)
  have HCX := Lib.hid hcx
  have HCY := Lib.hid hcy
  have HS1 := Lib.hid hs1
  have HX1 := Lib.hid (HN1.out w1 (Below.refl _ _)).1
  have HY1 := Lib.hid (HN1.out w1 (Below.refl _ _)).2
  have hl6 := hcx.1.len1
  have hl60 := hcx.1.len0
  have hl7 := hcy.1.len1
  have hl70 := hcy.1.len0
  obtain ⟨nL, hLn⟩ : ∃ nL, nL = tdL ds ds2 := ⟨_, rfl⟩
  have hL11 : 1 ≤ nL ∧ nL ≤ 11 := by rw [hLn]; unfold tdL; omega
  obtain ⟨t, ht⟩ : ∃ t, t + 1 = nL := ⟨nL - 1, by omega⟩
  have HLN := Lib.hid hLn
  have HT := Lib.hid ht
  have ht10 : t ≤ 10 := by omega
  clear h h2 hcx hcy hres k1 k2 hba hs1 hLn ht hl6 hl60 hl7 hl70
  go_enter Try.func80, Try.ntmps80
  go_upto_region 1 with fail
  rw [← hwa, ← hw1]
  clear hwa hw1 hsa
  go_cut [5, 6] from 11 to 16 (fun s5 s6 wz => ∃ (bt G mb N base nm : Nat) (f : Nat → Value) (au : Option Addr) (cu : Nat), s5 = .pointer (some ⟨bt, 0, none⟩) ∧ s6 = .slice au nL cu ∧ Hid (Below w1.heap.size w1 wz) ∧ Hid (N = nL) ∧ Hid (w1.heap.size ≤ bt) ∧ Hid (Rz wz bt 145 #[.int .i64 p, .slice ad ds.length cap, .slice am ms.length capm, .int .i64 p, .slice ad2 ds2.length cap2, .slice am2 ms2.length capm2, .slice (some ⟨G, 0, none⟩) N N, .map (some mb)]) ∧ Hid (Prs wz base G N f (tsA (bsL ds ds.length) (bsL ds2 ds2.length) (bsL ds ds.length).length)) ∧ Hid (Pl wz mb nm (tsA (bsL ds ds.length) (bsL ds2 ds2.length) (bsL ds ds.length).length)) ∧ Hid (Rw1 w1.heap.size wz.heap.size wz (.slice au nL cu) (tdD ds ds2)))
  case first =>
    refine wp_region_held (S := fun W => Below (w1.heap.size) w1 W) (by kernel_rfl) ?_
    have S0 : Below (w1.heap.size) w1 w1.drew := (Below.refl _ _).drew
    have hB0 : w1.heap.size ≤ w1.heap.size := Nat.le_refl _
    have hsd : w1.heap.size ≤ w1.drew.heap.size := Nat.le_refl _
    have hbd : Below w1.heap.size w1 w1.drew := (Below.refl _ _).drew
    change wpAnyH _ _ _ _ _ _ _ _ w1.drew
    obtain ⟨wd, hwd⟩ : ∃ wd, wd = w1.drew := ⟨_, rfl⟩
    rw [← hwd] at S0 hsd hbd ⊢
    clear hwd
    refine held_take (i := 0) (v := .agg #[.int .i64 p, .slice ad ds.length cap, .slice am ms.length capm]) (some 11) rfl rfl (by kernel_rfl) (by kernel_rfl) (by kernel_rfl) (fun _ _ _ h => h) (yieldsIf_cell (by kernel_rfl) rfl (by kernel_rfl) (fun W h => hload3x (HN1.out W h).1)) S0 ?_
    refine held_take (i := 1) (v := .agg #[.int .i64 p, .slice ad2 ds2.length cap2, .slice am2 ms2.length capm2]) (some 12) rfl rfl (by kernel_rfl) (by kernel_rfl) (by kernel_rfl) (fun _ _ _ h => h) (yieldsIf_cell (by kernel_rfl) rfl (by kernel_rfl) (fun W h => hload3x (HN1.out W h).2)) S0 ?_
    refine held_take (i := 3) (v := .agg #[.int .i64 p, .slice ad ds.length cap, .slice am ms.length capm]) (some 14) rfl rfl (by kernel_rfl) (by kernel_rfl) (by kernel_rfl) (fun _ _ _ h => h) (yieldsIf_cell (by kernel_rfl) rfl (by kernel_rfl) (fun W h => hload3x (HN1.out W h).1)) S0 ?_
    refine held_take (i := 4) (v := .agg #[.int .i64 p, .slice ad2 ds2.length cap2, .slice am2 ms2.length capm2]) (some 15) rfl rfl (by kernel_rfl) (by kernel_rfl) (by kernel_rfl) (fun _ _ _ h => h) (yieldsIf_cell (by kernel_rfl) rfl (by kernel_rfl) (fun W h => hload3x (HN1.out W h).2)) S0 ?_
    refine held_two (i := 2) (j := 6) (by kernel_rfl) ?_ ?_
    · refine op_enter (i := 2) (some 13) (f := 139) (args := #[.agg #[.int .i64 p, .slice ad ds.length cap, .slice am ms.length capm], .agg #[.int .i64 p, .slice ad2 ds2.length cap2, .slice am2 ms2.length capm2]]) rfl rfl rfl (by kernel_rfl) (tensorOf_any p p _ _ _ _ ds ms ds2 ms2 wd (HN1.out wd S0).1.cx (HN1.out wd S0).2.cx HCX.out HCY.out) ?_ (fun c w' h => by obtain ⟨_, _, _, _, _, _, h, _⟩ := h; cases h) (fun w' h => by obtain ⟨_, _, _, _, _, _, h, _⟩ := h; cases h)
      rintro ee W1 ⟨G1, mb1, N1, base1, nm1, f1, he, hN1, hG1, hmb1, hprs1, hpl1, hb1⟩
      injection he with he
      subst he
      have S1 : Below (w1.heap.size) w1 W1 := S0.trans (hb1.mono (Nat.le_trans hB0 S0.size))
      have hlt1 := hb1.size
      refine ⟨S1, ?_⟩
      refine held_two (i := 5) (j := 6) (by kernel_rfl) ?_ ?_
      · refine op_enter (i := 5) (some 16) (f := 138) (args := #[.agg #[.int .i64 p, .slice ad ds.length cap, .slice am ms.length capm], .agg #[.int .i64 p, .slice ad2 ds2.length cap2, .slice am2 ms2.length capm2]]) rfl rfl rfl (by kernel_rfl) (tensorDims_any p p _ _ _ _ ds ms ds2 ms2 W1 (HN1.out W1 S1).1.cx (HN1.out W1 S1).2.cx HCX.out HCY.out) ?_ (fun c w' h => by obtain ⟨_, h, _⟩ := h; cases h) (fun w' h => by obtain ⟨_, h, _⟩ := h; cases h)
        rintro ee W2 ⟨u2, he, hu2, hb2⟩
        injection he with he
        subst he
        obtain ⟨au2, cu2, hv⟩ := hu2.shape
        rw [tdD_length, ← HLN.out] at hv
        subst hv
        have S2 : Below (w1.heap.size) w1 W2 := S1.trans (hb2.mono (Nat.le_trans hB0 S1.size))
        have hpr_2 := hprs1.below hb2
        have hpl_2 := hpl1.below hb2
        have hlt2 := hb2.size
        have hch2 := Below.refl W2.heap.size W2
        refine ⟨S2, ?_⟩
        refine held_one (i := 6) (by kernel_rfl) ?_
        · obtain ⟨W3, hW3⟩ : ∃ W', W' = W2.alloc (.cells #[.int .i64 0, .slice none 0 0, .slice none 0 0, .int .i64 0, .slice none 0 0, .slice none 0 0, .slice none 0 0, .map none] 145) := ⟨_, rfl⟩
          have hb3 : Below W2.heap.size W2 W3 := by rw [hW3]; exact below_alloc1 _ _
          have hAt3 : Rz W3 W2.heap.size 145 #[.int .i64 0, .slice none 0 0, .slice none 0 0, .int .i64 0, .slice none 0 0, .slice none 0 0, .slice none 0 0, .map none] := by rw [hW3]; exact Rz.new _ _ _
          have S3 : Below (w1.heap.size) w1 W3 := S2.trans (hb3.mono (Nat.le_trans hB0 S2.size))
          have hGt : w1.heap.size ≤ W2.heap.size := Nat.le_trans hB0 S2.size
          have hpr_3 := hpr_2.below hb3
          have hpl_3 := hpl_2.below hb3
          have hchdm_3 := hch2.trans (hb3.mono hch2.size)
          have hlt3 : W2.heap.size < W3.heap.size := by rw [hW3]; simp
          refine op_mem (i := 6) (v := .pointer (some ⟨W2.heap.size, 0, none⟩)) (w' := W3) (some 5) rfl rfl rfl (by rw [hW3]; go_simp) ?_
          refine ⟨S3, ?_⟩
          have hprF := hpr_3.offRow hAt3 #[.int .i64 p, .slice ad ds.length cap, .slice am ms.length capm, .int .i64 p, .slice ad2 ds2.length cap2, .slice am2 ms2.length capm2, .slice (some ⟨G1, 0, none⟩) N1 N1, .map (some mb1)]
          have hplF := hpl_3.offRow hAt3 #[.int .i64 p, .slice ad ds.length cap, .slice am ms.length capm, .int .i64 p, .slice ad2 ds2.length cap2, .slice am2 ms2.length capm2, .slice (some ⟨G1, 0, none⟩) N1 N1, .map (some mb1)]
          have hsch := hchdm_3.size
          have hduF := (hu2.same (Same.of_below hchdm_3 (Nat.le_refl _))).same (Same.setRow (g := W2.heap.size) #[.int .i64 p, .slice ad ds.length cap, .slice am ms.length capm, .int .i64 p, .slice ad2 ds2.length cap2, .slice am2 ms2.length capm2, .slice (some ⟨G1, 0, none⟩) N1 N1, .map (some mb1)] (by omega))
          have S4 : Below (w1.heap.size) w1 (W3.setRow (W2.heap.size) #[.int .i64 p, .slice ad ds.length cap, .slice am ms.length capm, .int .i64 p, .slice ad2 ds2.length cap2, .slice am2 ms2.length capm2, .slice (some ⟨G1, 0, none⟩) N1 N1, .map (some mb1)]) := below_setRow S3 hGt _
          refine held_one (i := 7) (by kernel_rfl) ?_
          refine op_row (i := 7) rfl rfl rfl 145 (.tmp 5) (.tmp 13) rfl (W2.heap.size) #[.int .i64 p, .slice ad ds.length cap, .slice am ms.length capm, .int .i64 p, .slice ad2 ds2.length cap2, .slice am2 ms2.length capm2, .slice (some ⟨G1, 0, none⟩) N1 N1, .map (some mb1)] (by kernel_rfl) (by kernel_rfl) 145 _ hAt3 (infoT8 _ _ _ _ _ _ _ _) (by kernel_rfl) (by kernel_rfl) ?_
          refine ⟨S4, ?_⟩
          have hAt4 := hAt3.set #[.int .i64 p, .slice ad ds.length cap, .slice am ms.length capm, .int .i64 p, .slice ad2 ds2.length cap2, .slice am2 ms2.length capm2, .slice (some ⟨G1, 0, none⟩) N1 N1, .map (some mb1)]
          refine held_take (i := 8) (v := .slice au2 nL cu2) (some 6) rfl rfl (by kernel_rfl) (by kernel_rfl) (by kernel_rfl) (fun _ _ _ h => h) (yieldsIf_assign (by kernel_rfl) rfl (by kernel_rfl)) S4 ?_
          refine wpAnyH_done (by kernel_rfl) ?_ _
          simp only [Act.put, List.setIfInBounds_toArray, List.set_cons_zero, List.set_cons_succ]
          go_wp2
          go_meet
          refine ⟨W2.heap.size, G1, mb1, N1, base1, nm1, f1, au2, cu2, rfl, rfl, Lib.hid S4, Lib.hid (by have := HLN.out; unfold tdL at this; omega), Lib.hid hGt, Lib.hid hAt4, Lib.hid hprF, Lib.hid hplF, Lib.hid ?_⟩
          exact (hduF).wider S1.size (Nat.le_trans hchdm_3.size (Nat.le_of_eq (by simp)))
      · obtain ⟨W5, hW5⟩ : ∃ W', W' = W1.alloc (.cells #[.int .i64 0, .slice none 0 0, .slice none 0 0, .int .i64 0, .slice none 0 0, .slice none 0 0, .slice none 0 0, .map none] 145) := ⟨_, rfl⟩
        have hb5 : Below W1.heap.size W1 W5 := by rw [hW5]; exact below_alloc1 _ _
        have hAt5 : Rz W5 W1.heap.size 145 #[.int .i64 0, .slice none 0 0, .slice none 0 0, .int .i64 0, .slice none 0 0, .slice none 0 0, .slice none 0 0, .map none] := by rw [hW5]; exact Rz.new _ _ _
        have S5 : Below (w1.heap.size) w1 W5 := S1.trans (hb5.mono (Nat.le_trans hB0 S1.size))
        have hGt : w1.heap.size ≤ W1.heap.size := Nat.le_trans hB0 S1.size
        have hpr_5 := hprs1.below hb5
        have hpl_5 := hpl1.below hb5
        have hlt5 : W1.heap.size < W5.heap.size := by rw [hW5]; simp
        refine op_mem (i := 6) (v := .pointer (some ⟨W1.heap.size, 0, none⟩)) (w' := W5) (some 5) rfl rfl rfl (by rw [hW5]; go_simp) ?_
        refine ⟨S5, ?_⟩
        refine held_one (i := 5) (by kernel_rfl) ?_
        · refine op_enter (i := 5) (some 16) (f := 138) (args := #[.agg #[.int .i64 p, .slice ad ds.length cap, .slice am ms.length capm], .agg #[.int .i64 p, .slice ad2 ds2.length cap2, .slice am2 ms2.length capm2]]) rfl rfl rfl (by kernel_rfl) (tensorDims_any p p _ _ _ _ ds ms ds2 ms2 W5 (HN1.out W5 S5).1.cx (HN1.out W5 S5).2.cx HCX.out HCY.out) ?_ (fun c w' h => by obtain ⟨_, h, _⟩ := h; cases h) (fun w' h => by obtain ⟨_, h, _⟩ := h; cases h)
          rintro ee W6 ⟨u6, he, hu6, hb6⟩
          injection he with he
          subst he
          obtain ⟨au6, cu6, hv⟩ := hu6.shape
          rw [tdD_length, ← HLN.out] at hv
          subst hv
          have S6 : Below (w1.heap.size) w1 W6 := S5.trans (hb6.mono (Nat.le_trans hB0 S5.size))
          have hAt6 := hAt5.next hb6
          have hpr_6 := hpr_5.below hb6
          have hpl_6 := hpl_5.below hb6
          have hlt6 := hb6.size
          have hch6 := Below.refl W6.heap.size W6
          refine ⟨S6, ?_⟩
          have hprF := hpr_6.offRow hAt6 #[.int .i64 p, .slice ad ds.length cap, .slice am ms.length capm, .int .i64 p, .slice ad2 ds2.length cap2, .slice am2 ms2.length capm2, .slice (some ⟨G1, 0, none⟩) N1 N1, .map (some mb1)]
          have hplF := hpl_6.offRow hAt6 #[.int .i64 p, .slice ad ds.length cap, .slice am ms.length capm, .int .i64 p, .slice ad2 ds2.length cap2, .slice am2 ms2.length capm2, .slice (some ⟨G1, 0, none⟩) N1 N1, .map (some mb1)]
          have hsch := hch6.size
          have hduF := (hu6.same (Same.of_below hch6 (Nat.le_refl _))).same (Same.setRow (g := W1.heap.size) #[.int .i64 p, .slice ad ds.length cap, .slice am ms.length capm, .int .i64 p, .slice ad2 ds2.length cap2, .slice am2 ms2.length capm2, .slice (some ⟨G1, 0, none⟩) N1 N1, .map (some mb1)] (by omega))
          have S7 : Below (w1.heap.size) w1 (W6.setRow (W1.heap.size) #[.int .i64 p, .slice ad ds.length cap, .slice am ms.length capm, .int .i64 p, .slice ad2 ds2.length cap2, .slice am2 ms2.length capm2, .slice (some ⟨G1, 0, none⟩) N1 N1, .map (some mb1)]) := below_setRow S6 hGt _
          refine held_one (i := 7) (by kernel_rfl) ?_
          refine op_row (i := 7) rfl rfl rfl 145 (.tmp 5) (.tmp 13) rfl (W1.heap.size) #[.int .i64 p, .slice ad ds.length cap, .slice am ms.length capm, .int .i64 p, .slice ad2 ds2.length cap2, .slice am2 ms2.length capm2, .slice (some ⟨G1, 0, none⟩) N1 N1, .map (some mb1)] (by kernel_rfl) (by kernel_rfl) 145 _ hAt6 (infoT8 _ _ _ _ _ _ _ _) (by kernel_rfl) (by kernel_rfl) ?_
          refine ⟨S7, ?_⟩
          have hAt7 := hAt6.set #[.int .i64 p, .slice ad ds.length cap, .slice am ms.length capm, .int .i64 p, .slice ad2 ds2.length cap2, .slice am2 ms2.length capm2, .slice (some ⟨G1, 0, none⟩) N1 N1, .map (some mb1)]
          refine held_take (i := 8) (v := .slice au6 nL cu6) (some 6) rfl rfl (by kernel_rfl) (by kernel_rfl) (by kernel_rfl) (fun _ _ _ h => h) (yieldsIf_assign (by kernel_rfl) rfl (by kernel_rfl)) S7 ?_
          refine wpAnyH_done (by kernel_rfl) ?_ _
          simp only [Act.put, List.setIfInBounds_toArray, List.set_cons_zero, List.set_cons_succ]
          go_wp2
          go_meet
          refine ⟨W1.heap.size, G1, mb1, N1, base1, nm1, f1, au6, cu6, rfl, rfl, Lib.hid S7, Lib.hid (by have := HLN.out; unfold tdL at this; omega), Lib.hid hGt, Lib.hid hAt7, Lib.hid hprF, Lib.hid hplF, Lib.hid ?_⟩
          exact (hduF).wider S5.size (Nat.le_trans hch6.size (Nat.le_of_eq (by simp)))
    · obtain ⟨W8, hW8⟩ : ∃ W', W' = wd.alloc (.cells #[.int .i64 0, .slice none 0 0, .slice none 0 0, .int .i64 0, .slice none 0 0, .slice none 0 0, .slice none 0 0, .map none] 145) := ⟨_, rfl⟩
      have hb8 : Below wd.heap.size wd W8 := by rw [hW8]; exact below_alloc1 _ _
      have hAt8 : Rz W8 wd.heap.size 145 #[.int .i64 0, .slice none 0 0, .slice none 0 0, .int .i64 0, .slice none 0 0, .slice none 0 0, .slice none 0 0, .map none] := by rw [hW8]; exact Rz.new _ _ _
      have S8 : Below (w1.heap.size) w1 W8 := S0.trans (hb8.mono (Nat.le_trans hB0 S0.size))
      have hGt : w1.heap.size ≤ wd.heap.size := Nat.le_trans hB0 S0.size
      have hlt8 : wd.heap.size < W8.heap.size := by rw [hW8]; simp
      refine op_mem (i := 6) (v := .pointer (some ⟨wd.heap.size, 0, none⟩)) (w' := W8) (some 5) rfl rfl rfl (by rw [hW8]; go_simp) ?_
      refine ⟨S8, ?_⟩
      refine held_one (i := 2) (by kernel_rfl) ?_
      · refine op_enter (i := 2) (some 13) (f := 139) (args := #[.agg #[.int .i64 p, .slice ad ds.length cap, .slice am ms.length capm], .agg #[.int .i64 p, .slice ad2 ds2.length cap2, .slice am2 ms2.length capm2]]) rfl rfl rfl (by kernel_rfl) (tensorOf_any p p _ _ _ _ ds ms ds2 ms2 W8 (HN1.out W8 S8).1.cx (HN1.out W8 S8).2.cx HCX.out HCY.out) ?_ (fun c w' h => by obtain ⟨_, _, _, _, _, _, h, _⟩ := h; cases h) (fun w' h => by obtain ⟨_, _, _, _, _, _, h, _⟩ := h; cases h)
        rintro ee W9 ⟨G9, mb9, N9, base9, nm9, f9, he, hN9, hG9, hmb9, hprs9, hpl9, hb9⟩
        injection he with he
        subst he
        have S9 : Below (w1.heap.size) w1 W9 := S8.trans (hb9.mono (Nat.le_trans hB0 S8.size))
        have hAt9 := hAt8.next hb9
        have hlt9 := hb9.size
        refine ⟨S9, ?_⟩
        refine held_one (i := 5) (by kernel_rfl) ?_
        · refine op_enter (i := 5) (some 16) (f := 138) (args := #[.agg #[.int .i64 p, .slice ad ds.length cap, .slice am ms.length capm], .agg #[.int .i64 p, .slice ad2 ds2.length cap2, .slice am2 ms2.length capm2]]) rfl rfl rfl (by kernel_rfl) (tensorDims_any p p _ _ _ _ ds ms ds2 ms2 W9 (HN1.out W9 S9).1.cx (HN1.out W9 S9).2.cx HCX.out HCY.out) ?_ (fun c w' h => by obtain ⟨_, h, _⟩ := h; cases h) (fun w' h => by obtain ⟨_, h, _⟩ := h; cases h)
          rintro ee W10 ⟨u10, he, hu10, hb10⟩
          injection he with he
          subst he
          obtain ⟨au10, cu10, hv⟩ := hu10.shape
          rw [tdD_length, ← HLN.out] at hv
          subst hv
          have S10 : Below (w1.heap.size) w1 W10 := S9.trans (hb10.mono (Nat.le_trans hB0 S9.size))
          have hAt10 := hAt9.next hb10
          have hpr_10 := hprs9.below hb10
          have hpl_10 := hpl9.below hb10
          have hlt10 := hb10.size
          have hch10 := Below.refl W10.heap.size W10
          refine ⟨S10, ?_⟩
          have hprF := hpr_10.offRow hAt10 #[.int .i64 p, .slice ad ds.length cap, .slice am ms.length capm, .int .i64 p, .slice ad2 ds2.length cap2, .slice am2 ms2.length capm2, .slice (some ⟨G9, 0, none⟩) N9 N9, .map (some mb9)]
          have hplF := hpl_10.offRow hAt10 #[.int .i64 p, .slice ad ds.length cap, .slice am ms.length capm, .int .i64 p, .slice ad2 ds2.length cap2, .slice am2 ms2.length capm2, .slice (some ⟨G9, 0, none⟩) N9 N9, .map (some mb9)]
          have hsch := hch10.size
          have hduF := (hu10.same (Same.of_below hch10 (Nat.le_refl _))).same (Same.setRow (g := wd.heap.size) #[.int .i64 p, .slice ad ds.length cap, .slice am ms.length capm, .int .i64 p, .slice ad2 ds2.length cap2, .slice am2 ms2.length capm2, .slice (some ⟨G9, 0, none⟩) N9 N9, .map (some mb9)] (by omega))
          have S11 : Below (w1.heap.size) w1 (W10.setRow (wd.heap.size) #[.int .i64 p, .slice ad ds.length cap, .slice am ms.length capm, .int .i64 p, .slice ad2 ds2.length cap2, .slice am2 ms2.length capm2, .slice (some ⟨G9, 0, none⟩) N9 N9, .map (some mb9)]) := below_setRow S10 hGt _
          refine held_one (i := 7) (by kernel_rfl) ?_
          refine op_row (i := 7) rfl rfl rfl 145 (.tmp 5) (.tmp 13) rfl (wd.heap.size) #[.int .i64 p, .slice ad ds.length cap, .slice am ms.length capm, .int .i64 p, .slice ad2 ds2.length cap2, .slice am2 ms2.length capm2, .slice (some ⟨G9, 0, none⟩) N9 N9, .map (some mb9)] (by kernel_rfl) (by kernel_rfl) 145 _ hAt10 (infoT8 _ _ _ _ _ _ _ _) (by kernel_rfl) (by kernel_rfl) ?_
          refine ⟨S11, ?_⟩
          have hAt11 := hAt10.set #[.int .i64 p, .slice ad ds.length cap, .slice am ms.length capm, .int .i64 p, .slice ad2 ds2.length cap2, .slice am2 ms2.length capm2, .slice (some ⟨G9, 0, none⟩) N9 N9, .map (some mb9)]
          refine held_take (i := 8) (v := .slice au10 nL cu10) (some 6) rfl rfl (by kernel_rfl) (by kernel_rfl) (by kernel_rfl) (fun _ _ _ h => h) (yieldsIf_assign (by kernel_rfl) rfl (by kernel_rfl)) S11 ?_
          refine wpAnyH_done (by kernel_rfl) ?_ _
          simp only [Act.put, List.setIfInBounds_toArray, List.set_cons_zero, List.set_cons_succ]
          go_wp2
          go_meet
          refine ⟨wd.heap.size, G9, mb9, N9, base9, nm9, f9, au10, cu10, rfl, rfl, Lib.hid S11, Lib.hid (by have := HLN.out; unfold tdL at this; omega), Lib.hid hGt, Lib.hid hAt11, Lib.hid hprF, Lib.hid hplF, Lib.hid ?_⟩
          exact (hduF).wider S9.size (Nat.le_trans hch10.size (Nat.le_of_eq (by simp)))
  case rest =>
    obtain ⟨bt, G, mb, N, base, nm, f, au, cu, rfl, rfl, HBz, HNL, HBT, HRT, HPR, HPL, HDU⟩ := hcut
    obtain ⟨wz, hwz⟩ : ∃ wz : World, wz = wc := ⟨_, rfl⟩
    subst hwz
    have HZ1 : Hid (∀ W, Below wz.heap.size wz W → Rz W bt 145 #[.int .i64 p, .slice ad ds.length cap, .slice am ms.length capm, .int .i64 p, .slice ad2 ds2.length cap2, .slice am2 ms2.length capm2, .slice (some ⟨G, 0, none⟩) N N, .map (some mb)] ∧ Prs W base G N f (tsA (bsL ds ds.length) (bsL ds2 ds2.length) (bsL ds ds.length).length) ∧ Pl W mb nm (tsA (bsL ds ds.length) (bsL ds2 ds2.length) (bsL ds ds.length).length) ∧ Rw1 w1.heap.size wz.heap.size W (.slice au nL cu) (tdD ds ds2) ∧ Bx w W w.heap.size p (.slice ad ds.length cap) (.slice am ms.length capm) ds ms ∧ Bx w W (w.heap.size + 1) p (.slice ad2 ds2.length cap2) (.slice am2 ms2.length capm2) ds2 ms2) := Lib.hid (fun W hb => ⟨HRT.out.next hb, HPR.out.below hb, HPL.out.below hb, HDU.out.next hb (Nat.le_refl _), HN1.out W (HBz.out.trans (hb.mono HBz.out.size))⟩)
    have hsz := HBz.out.size
    have hwk : IntKind.i64.wrap ((nL : Int) - 1) = (t : Int) := by rw [show (nL : Int) - 1 = (t : Int) by have := HT.out; omega]; exact IntWalk.i64_in _ (by omega)
    have hmk : ∀ V : World, (Instr.makeSlice 23 (.int .i64 (t : Int)) (.int .i64 (t : Int))).run Try.prog V = .ok (.slice (some ⟨V.heap.size, 0, none⟩) t t) (V.alloc (.cells (madeCells #[.slice none 0 0] t) 27)) := fun V => run_make_row' (P := Try.prog) 23 27 (.slice none 0 0) 24 Try.underlying23 Try.infoSS rfl .i64 .i64 t (by omega) (by omega) V
    clear HBT HRT HPR HPL
    go_upto_region 2 with fail
    go_cut [7] from 17 to 24 (fun s7 wy => ∃ (bc gm : Nat), s7 = .pointer (some ⟨bc, 0, none⟩) ∧ Hid (Below wz.heap.size wz wy) ∧ Hid (wz.heap.size ≤ bc ∧ wz.heap.size ≤ gm ∧ bc ≠ gm) ∧ Hid (Rz wy bc 30 #[.int .i64 p, .slice au nL cu, .slice (some ⟨gm, 0, none⟩) t t]) ∧ Hid (wy.rowIs gm 27 t (fun _ => .slice none 0 0)))
    case first =>
      refine wp_region_held (S := fun W => Below wz.heap.size wz W) (by kernel_rfl) ?_
      have S0 : Below wz.heap.size wz wz.drew := (Below.refl _ _).drew
      change wpAnyH _ _ _ _ _ _ _ _ wz.drew
      obtain ⟨wd, hwd⟩ : ∃ wd, wd = wz.drew := ⟨_, rfl⟩
      rw [← hwd] at S0 ⊢
      clear hwd
      have hsd := S0.size
      refine held_take (i := 0) (v := .pointer (some ⟨w.heap.size, 0, none⟩)) (some 17) rfl rfl (by kernel_rfl) (by kernel_rfl) (by kernel_rfl) (fun _ _ _ h => h) (yieldsIf_run (by kernel_rfl) (fun W _ => by kernel_rfl)) S0 ?_
      refine held_take (i := 1) (v := .int .i64 p) (some 18) rfl rfl (by kernel_rfl) (by kernel_rfl) (by kernel_rfl) (fun _ _ _ h => h) (yieldsIf_cell (by kernel_rfl) rfl (by kernel_rfl) (fun W h => hload W ((HZ1.out W h).2.2.2.2.1.c0))) S0 ?_
      refine held_take (i := 2) (v := .slice au nL cu) (some 19) rfl rfl (by kernel_rfl) (by kernel_rfl) (by kernel_rfl) (fun _ _ _ h => h) (yieldsIf_move (by kernel_rfl) rfl (by kernel_rfl)) S0 ?_
      refine held_take (i := 3) (v := .slice au nL cu) (some 20) rfl rfl (by kernel_rfl) (by kernel_rfl) (by kernel_rfl) (fun _ _ _ h => h) (yieldsIf_move (by kernel_rfl) rfl (by kernel_rfl)) S0 ?_
      refine held_take (i := 4) (v := .int .i64 (nL : Int)) (some 21) rfl rfl (by kernel_rfl) (by kernel_rfl) (by kernel_rfl) (fun _ _ _ h => h) (yieldsIf_run (by kernel_rfl) (fun W _ => by kernel_rfl)) S0 ?_
      refine held_take (i := 5) (v := .int .i64 (t : Int)) (some 22) rfl rfl (by kernel_rfl) (by kernel_rfl) (by kernel_rfl) (fun _ _ _ h => h) (yieldsIf_bin (by kernel_rfl) rfl (by kernel_rfl) (by kernel_rfl) (fun _ => rfl) (hsubN hwk)) S0 ?_
      refine held_two (i := 6) (j := 8) (by kernel_rfl) ?_ ?_
      · obtain ⟨V1, hV1⟩ : ∃ W', W' = wd.alloc (.cells (madeCells #[.slice none 0 0] t) 27) := ⟨_, rfl⟩
        have hbV1 : Below wd.heap.size wd V1 := by rw [hV1]; exact below_alloc1 _ _
        have hM : V1.rowIs wd.heap.size 27 t (fun _ => .slice none 0 0) := by rw [hV1]; exact World.rowIs_made wd _ _ _
        have S1 : Below wz.heap.size wz V1 := S0.trans (hbV1.mono S0.size)
        refine op_make (i := 6) (v := .slice (some ⟨wd.heap.size, 0, none⟩) t t) (w' := V1) (x := .int .i64 (t : Int)) (y := .int .i64 (t : Int)) (some 23) 23 (.tmp 22) (.tmp 22) rfl rfl rfl rfl (by kernel_rfl) (by kernel_rfl) (by rw [hV1]; exact hmk _) ?_
        refine ⟨S1, ?_⟩
        refine held_take (i := 7) (v := .agg #[.int .i64 p, .slice au nL cu, .slice (some ⟨wd.heap.size, 0, none⟩) t t]) (some 24) rfl rfl (by kernel_rfl) (by kernel_rfl) (by kernel_rfl) (fun _ _ _ h => h) (yieldsIf_run (by kernel_rfl) (fun W _ => by kernel_rfl)) S1 ?_
        refine held_one (i := 8) (by kernel_rfl) ?_
        obtain ⟨V2, hV2⟩ : ∃ W', W' = V1.alloc (.cells #[.int .i64 0, .slice none 0 0, .slice none 0 0] 30) := ⟨_, rfl⟩
        have hbV2 : Below V1.heap.size V1 V2 := by rw [hV2]; exact below_alloc1 _ _
        have hR : Rz V2 V1.heap.size 30 #[.int .i64 0, .slice none 0 0, .slice none 0 0] := by rw [hV2]; exact Rz.new _ _ _
        have S2 : Below wz.heap.size wz V2 := S1.trans (hbV2.mono S1.size)
        refine op_mem (i := 8) (v := .pointer (some ⟨V1.heap.size, 0, none⟩)) (w' := V2) (some 7) rfl rfl rfl (by rw [hV2]; go_simp) ?_
        refine ⟨S2, ?_⟩
        have hM2 := hM.of_block (hbV2.block _ hM.lt)
        have hR2 := hR
        have hneM := rz_ne_row hR2 hM2 coT.2.2
        have hz1 := S1.size
        have hz2 := S2.size
        have S3 : Below wz.heap.size wz (V2.setRow (V1.heap.size) #[.int .i64 p, .slice au nL cu, .slice (some ⟨wd.heap.size, 0, none⟩) t t]) := below_setRow S2 (by omega) _
        refine held_one (i := 9) (by kernel_rfl) ?_
        refine op_row (i := 9) rfl rfl rfl 30 (.tmp 7) (.tmp 24) rfl (V1.heap.size) #[.int .i64 p, .slice au nL cu, .slice (some ⟨wd.heap.size, 0, none⟩) t t] (by kernel_rfl) (by kernel_rfl) 30 _ hR2 (infoCo _ _ _) (by kernel_rfl) (by kernel_rfl) ?_
        refine ⟨S3, ?_⟩
        refine wpAnyH_done (by kernel_rfl) ?_ _
        simp only [Act.put, List.setIfInBounds_toArray, List.set_cons_zero, List.set_cons_succ]
        go_wp2
        go_meet
        exact ⟨V1.heap.size, wd.heap.size, rfl, Lib.hid S3, Lib.hid ⟨by omega, by omega, hneM⟩, Lib.hid (hR2.set _), Lib.hid (hM2.of_block (setRow_other _ _ _ _ (Ne.symm hneM)))⟩
      · obtain ⟨V1, hV1⟩ : ∃ W', W' = wd.alloc (.cells #[.int .i64 0, .slice none 0 0, .slice none 0 0] 30) := ⟨_, rfl⟩
        have hbV1 : Below wd.heap.size wd V1 := by rw [hV1]; exact below_alloc1 _ _
        have hR : Rz V1 wd.heap.size 30 #[.int .i64 0, .slice none 0 0, .slice none 0 0] := by rw [hV1]; exact Rz.new _ _ _
        have S1 : Below wz.heap.size wz V1 := S0.trans (hbV1.mono S0.size)
        refine op_mem (i := 8) (v := .pointer (some ⟨wd.heap.size, 0, none⟩)) (w' := V1) (some 7) rfl rfl rfl (by rw [hV1]; go_simp) ?_
        refine ⟨S1, ?_⟩
        refine held_one (i := 6) (by kernel_rfl) ?_
        obtain ⟨V2, hV2⟩ : ∃ W', W' = V1.alloc (.cells (madeCells #[.slice none 0 0] t) 27) := ⟨_, rfl⟩
        have hbV2 : Below V1.heap.size V1 V2 := by rw [hV2]; exact below_alloc1 _ _
        have hM : V2.rowIs V1.heap.size 27 t (fun _ => .slice none 0 0) := by rw [hV2]; exact World.rowIs_made V1 _ _ _
        have S2 : Below wz.heap.size wz V2 := S1.trans (hbV2.mono S1.size)
        refine op_make (i := 6) (v := .slice (some ⟨V1.heap.size, 0, none⟩) t t) (w' := V2) (x := .int .i64 (t : Int)) (y := .int .i64 (t : Int)) (some 23) 23 (.tmp 22) (.tmp 22) rfl rfl rfl rfl (by kernel_rfl) (by kernel_rfl) (by rw [hV2]; exact hmk _) ?_
        refine ⟨S2, ?_⟩
        refine held_take (i := 7) (v := .agg #[.int .i64 p, .slice au nL cu, .slice (some ⟨V1.heap.size, 0, none⟩) t t]) (some 24) rfl rfl (by kernel_rfl) (by kernel_rfl) (by kernel_rfl) (fun _ _ _ h => h) (yieldsIf_run (by kernel_rfl) (fun W _ => by kernel_rfl)) S2 ?_
        have hM2 := hM
        have hR2 := hR.next hbV2
        have hneM := rz_ne_row hR2 hM2 coT.2.2
        have hz1 := S1.size
        have hz2 := S2.size
        have S3 : Below wz.heap.size wz (V2.setRow (wd.heap.size) #[.int .i64 p, .slice au nL cu, .slice (some ⟨V1.heap.size, 0, none⟩) t t]) := below_setRow S2 (by omega) _
        refine held_one (i := 9) (by kernel_rfl) ?_
        refine op_row (i := 9) rfl rfl rfl 30 (.tmp 7) (.tmp 24) rfl (wd.heap.size) #[.int .i64 p, .slice au nL cu, .slice (some ⟨V1.heap.size, 0, none⟩) t t] (by kernel_rfl) (by kernel_rfl) 30 _ hR2 (infoCo _ _ _) (by kernel_rfl) (by kernel_rfl) ?_
        refine ⟨S3, ?_⟩
        refine wpAnyH_done (by kernel_rfl) ?_ _
        simp only [Act.put, List.setIfInBounds_toArray, List.set_cons_zero, List.set_cons_succ]
        go_wp2
        go_meet
        exact ⟨wd.heap.size, V1.heap.size, rfl, Lib.hid S3, Lib.hid ⟨by omega, by omega, hneM⟩, Lib.hid (hR2.set _), Lib.hid (hM2.of_block (setRow_other _ _ _ _ (Ne.symm hneM)))⟩
    case rest =>
      obtain ⟨bc, gm, rfl, HBy, HGB, HRC, HGM⟩ := hcut
      obtain ⟨wy, hwy⟩ : ∃ wy : World, wy = wc := ⟨_, rfl⟩
      subst hwy
      have HY2 : Hid (∀ W, Below wy.heap.size wy W → Bx w W w.heap.size p (.slice ad ds.length cap) (.slice am ms.length capm) ds ms ∧ Bx w W (w.heap.size + 1) p (.slice ad2 ds2.length cap2) (.slice am2 ms2.length capm2) ds2 ms2) := Lib.hid (fun W hb => (HZ1.out W (HBy.out.trans (hb.mono HBy.out.size))).2.2.2.2)
      have hsy := HBy.out.size
      have hgmy := HGM.out.lt
      have hbcy := HRC.out.lt
      have hgb := HGB.out
      clear hwk hmk
      have HDX : Hid (∀ W, Below wy.heap.size wy W → Calls Try.prog 140 #[.agg #[.int .i64 p, .slice ad ds.length cap, .slice am ms.length capm]] W (DmB p (.slice ad ds.length cap) (.slice am ms.length capm) ds ms w1.heap.size W)) := Lib.hid (fun W hb => differentialMapB_any p _ _ ds ms w1 W HX1.out.cx (HBz.out.trans ((HBy.out.trans (hb.mono hsy)).mono hsz)) HCX.out)
      have HDY : Hid (∀ W, Below wy.heap.size wy W → Calls Try.prog 140 #[.agg #[.int .i64 p, .slice ad2 ds2.length cap2, .slice am2 ms2.length capm2]] W (DmB p (.slice ad2 ds2.length cap2) (.slice am2 ms2.length capm2) ds2 ms2 w1.heap.size W)) := Lib.hid (fun W hb => differentialMapB_any p _ _ ds2 ms2 w1 W HY1.out.cx (HBz.out.trans ((HBy.out.trans (hb.mono hsy)).mono hsz)) HCY.out)
      go_upto_region 3 with fail
      go_cut [8, 9] from 25 to 28 (fun s8 s9 wv => ∃ (bf bg : Nat) (fx fy : Value), s8 = .pointer (some ⟨bf, 0, none⟩) ∧ s9 = .pointer (some ⟨bg, 0, none⟩) ∧ Hid (Below wy.heap.size wy wv) ∧ Hid (wy.heap.size ≤ bf ∧ wy.heap.size ≤ bg) ∧ Hid (Rz wv bf 148 #[.int .i64 p, .slice ad ds.length cap, .slice am ms.length capm, .int .i64 (-1), fx]) ∧ Hid (Rz wv bg 148 #[.int .i64 p, .slice ad2 ds2.length cap2, .slice am2 ms2.length capm2, .int .i64 (-1), fy]) ∧ Hid (∀ W, But gm wv W → L3 0 W fx (dfL ds ms)) ∧ Hid (∀ W, But gm wv W → L3 0 W fy (dfL ds2 ms2)))
      case first =>
        refine wp_region_held (S := fun W => Below (wy.heap.size) wy W) (by kernel_rfl) ?_
        have S0 : Below (wy.heap.size) wy wy.drew := (Below.refl _ _).drew
        have hB0 : wy.heap.size ≤ wy.heap.size := Nat.le_refl _
        have hsd : wy.heap.size ≤ wy.drew.heap.size := Nat.le_refl _
        have hbd : Below wy.heap.size wy wy.drew := (Below.refl _ _).drew
        change wpAnyH _ _ _ _ _ _ _ _ wy.drew
        obtain ⟨wd, hwd⟩ : ∃ wd, wd = wy.drew := ⟨_, rfl⟩
        rw [← hwd] at S0 hsd hbd ⊢
        clear hwd
        refine held_take (i := 0) (v := .agg #[.int .i64 p, .slice ad ds.length cap, .slice am ms.length capm]) (some 25) rfl rfl (by kernel_rfl) (by kernel_rfl) (by kernel_rfl) (fun _ _ _ h => h) (yieldsIf_cell (by kernel_rfl) rfl (by kernel_rfl) (fun W h => hload3x (HY2.out W h).1)) S0 ?_
        refine held_take (i := 2) (v := .agg #[.int .i64 p, .slice ad2 ds2.length cap2, .slice am2 ms2.length capm2]) (some 27) rfl rfl (by kernel_rfl) (by kernel_rfl) (by kernel_rfl) (fun _ _ _ h => h) (yieldsIf_cell (by kernel_rfl) rfl (by kernel_rfl) (fun W h => hload3x (HY2.out W h).2)) S0 ?_
        refine held_three (i := 1) (j := 4) (l := 5) (by kernel_rfl) ?_ ?_ ?_
        · refine op_enter (i := 1) (some 26) (f := 140) (args := #[.agg #[.int .i64 p, .slice ad ds.length cap, .slice am ms.length capm]]) rfl rfl rfl (by kernel_rfl) (HDX.out wd S0) ?_ (fun c w' h => by obtain ⟨_, h, _⟩ := h; cases h) (fun w' h => by obtain ⟨_, h, _⟩ := h; cases h)
          rintro ee W1 ⟨u1, he, hb1, hl1⟩
          injection he with he
          subst he
          obtain ⟨ax1, cx1, hv⟩ := Sl.shape (hl1 _ _ (Nat.le_refl _) (Kp.refl _ _ _))
          subst hv
          have S1 : Below (wy.heap.size) wy W1 := S0.trans (hb1.mono (Nat.le_trans hB0 S0.size))
          have hlt1 := hb1.size
          have hchfx1 := Below.refl W1.heap.size W1
          refine ⟨S1, ?_⟩
          refine held_three (i := 3) (j := 4) (l := 5) (by kernel_rfl) ?_ ?_ ?_
          · refine op_enter (i := 3) (some 28) (f := 140) (args := #[.agg #[.int .i64 p, .slice ad2 ds2.length cap2, .slice am2 ms2.length capm2]]) rfl rfl rfl (by kernel_rfl) (HDY.out W1 S1) ?_ (fun c w' h => by obtain ⟨_, h, _⟩ := h; cases h) (fun w' h => by obtain ⟨_, h, _⟩ := h; cases h)
            rintro ee W2 ⟨u2, he, hb2, hl2⟩
            injection he with he
            subst he
            obtain ⟨ax2, cx2, hv⟩ := Sl.shape (hl2 _ _ (Nat.le_refl _) (Kp.refl _ _ _))
            subst hv
            have S2 : Below (wy.heap.size) wy W2 := S1.trans (hb2.mono (Nat.le_trans hB0 S1.size))
            have hchfx_2 := hchfx1.trans (hb2.mono hchfx1.size)
            have hlt2 := hb2.size
            have hchfy2 := Below.refl W2.heap.size W2
            refine ⟨S2, ?_⟩
            refine held_two (i := 4) (j := 5) (by kernel_rfl) ?_ ?_
            · obtain ⟨W3, hW3⟩ : ∃ W', W' = W2.alloc (.cells #[.int .i64 0, .slice none 0 0, .slice none 0 0, .int .i64 0, .slice none 0 0] 148) := ⟨_, rfl⟩
              have hb3 : Below W2.heap.size W2 W3 := by rw [hW3]; exact below_alloc1 _ _
              have hAf3 : Rz W3 W2.heap.size 148 #[.int .i64 0, .slice none 0 0, .slice none 0 0, .int .i64 0, .slice none 0 0] := by rw [hW3]; exact Rz.new _ _ _
              have S3 : Below (wy.heap.size) wy W3 := S2.trans (hb3.mono (Nat.le_trans hB0 S2.size))
              have hGf : wy.heap.size ≤ W2.heap.size := Nat.le_trans hB0 S2.size
              have hchfx_3 := hchfx_2.trans (hb3.mono hchfx_2.size)
              have hchfy_3 := hchfy2.trans (hb3.mono hchfy2.size)
              have hlt3 : W2.heap.size < W3.heap.size := by rw [hW3]; simp
              refine op_mem (i := 4) (v := .pointer (some ⟨W2.heap.size, 0, none⟩)) (w' := W3) (some 8) rfl rfl rfl (by rw [hW3]; go_simp) ?_
              refine ⟨S3, ?_⟩
              refine held_one (i := 5) (by kernel_rfl) ?_
              · obtain ⟨W4, hW4⟩ : ∃ W', W' = W3.alloc (.cells #[.int .i64 0, .slice none 0 0, .slice none 0 0, .int .i64 0, .slice none 0 0] 148) := ⟨_, rfl⟩
                have hb4 : Below W3.heap.size W3 W4 := by rw [hW4]; exact below_alloc1 _ _
                have hAg4 : Rz W4 W3.heap.size 148 #[.int .i64 0, .slice none 0 0, .slice none 0 0, .int .i64 0, .slice none 0 0] := by rw [hW4]; exact Rz.new _ _ _
                have S4 : Below (wy.heap.size) wy W4 := S3.trans (hb4.mono (Nat.le_trans hB0 S3.size))
                have hGg : wy.heap.size ≤ W3.heap.size := Nat.le_trans hB0 S3.size
                have hne : W2.heap.size ≠ W3.heap.size := Nat.ne_of_lt hAf3.lt
                have hAf4 := hAf3.next hb4
                have hchfx_4 := hchfx_3.trans (hb4.mono hchfx_3.size)
                have hchfy_4 := hchfy_3.trans (hb4.mono hchfy_3.size)
                have hlt4 : W3.heap.size < W4.heap.size := by rw [hW4]; simp
                refine op_mem (i := 5) (v := .pointer (some ⟨W3.heap.size, 0, none⟩)) (w' := W4) (some 9) rfl rfl rfl (by rw [hW4]; go_simp) ?_
                refine ⟨S4, ?_⟩
                have hscx := hchfx_4.size
                have hscy := hchfy_4.size
                have hsx := S0.size
                have hsy2 := S1.size
                have hx1 : (w1.heap.size ≤ W2.heap.size ∧ W2.heap.size < wd.heap.size) ∨ W1.heap.size ≤ W2.heap.size := by omega
                have hx2 : (w1.heap.size ≤ W3.heap.size ∧ W3.heap.size < wd.heap.size) ∨ W1.heap.size ≤ W3.heap.size := by omega
                have hx3 : w1.heap.size ≤ gm ∧ gm < wd.heap.size := by omega
                have hy1 : (w1.heap.size ≤ W2.heap.size ∧ W2.heap.size < W1.heap.size) ∨ W2.heap.size ≤ W2.heap.size := by omega
                have hy2 : (w1.heap.size ≤ W3.heap.size ∧ W3.heap.size < W1.heap.size) ∨ W2.heap.size ≤ W3.heap.size := by omega
                have hy3 : w1.heap.size ≤ gm ∧ gm < W1.heap.size := by omega
                have S5 : Below (wy.heap.size) wy (W4.setRow (W2.heap.size) #[.int .i64 p, .slice ad ds.length cap, .slice am ms.length capm, .int .i64 (-1), .slice ax1 (dfL ds ms).length cx1]) := below_setRow S4 hGf _
                refine held_one (i := 6) (by kernel_rfl) ?_
                refine op_row (i := 6) rfl rfl rfl 148 (.tmp 8) (.tmp 26) rfl (W2.heap.size) #[.int .i64 p, .slice ad ds.length cap, .slice am ms.length capm, .int .i64 (-1), .slice ax1 (dfL ds ms).length cx1] (by kernel_rfl) (by kernel_rfl) 148 _ hAf4 (infoG5 _ _ _ _ _) (by kernel_rfl) (by kernel_rfl) ?_
                refine ⟨S5, ?_⟩
                have hAf5 := hAf4.set #[.int .i64 p, .slice ad ds.length cap, .slice am ms.length capm, .int .i64 (-1), .slice ax1 (dfL ds ms).length cx1]
                have hAg5 := hAg4.off (by first | exact hne | exact hne.symm) #[.int .i64 p, .slice ad ds.length cap, .slice am ms.length capm, .int .i64 (-1), .slice ax1 (dfL ds ms).length cx1]
                have S6 : Below (wy.heap.size) wy ((W4.setRow (W2.heap.size) #[.int .i64 p, .slice ad ds.length cap, .slice am ms.length capm, .int .i64 (-1), .slice ax1 (dfL ds ms).length cx1]).setRow (W3.heap.size) #[.int .i64 p, .slice ad2 ds2.length cap2, .slice am2 ms2.length capm2, .int .i64 (-1), .slice ax2 (dfL ds2 ms2).length cx2]) := below_setRow S5 hGg _
                refine held_one (i := 7) (by kernel_rfl) ?_
                refine op_row (i := 7) rfl rfl rfl 148 (.tmp 9) (.tmp 28) rfl (W3.heap.size) #[.int .i64 p, .slice ad2 ds2.length cap2, .slice am2 ms2.length capm2, .int .i64 (-1), .slice ax2 (dfL ds2 ms2).length cx2] (by kernel_rfl) (by kernel_rfl) 148 _ hAg5 (infoG5 _ _ _ _ _) (by kernel_rfl) (by kernel_rfl) ?_
                refine ⟨S6, ?_⟩
                have hAf6 := hAf5.off (by first | exact hne | exact hne.symm) #[.int .i64 p, .slice ad2 ds2.length cap2, .slice am2 ms2.length capm2, .int .i64 (-1), .slice ax2 (dfL ds2 ms2).length cx2]
                have hAg6 := hAg5.set #[.int .i64 p, .slice ad2 ds2.length cap2, .slice am2 ms2.length capm2, .int .i64 (-1), .slice ax2 (dfL ds2 ms2).length cx2]
                refine wpAnyH_done (by kernel_rfl) ?_ _
                simp only [Act.put, List.setIfInBounds_toArray, List.set_cons_zero, List.set_cons_succ]
                go_wp2
                go_meet
                refine ⟨W2.heap.size, W3.heap.size, (.slice ax1 (dfL ds ms).length cx1), (.slice ax2 (dfL ds2 ms2).length cx2), rfl, rfl, Lib.hid S6, Lib.hid ⟨hGf, hGg⟩, Lib.hid hAf6, Lib.hid hAg6, Lib.hid (fun V hV => ?_), Lib.hid (fun V hV => ?_)⟩
                · exact hl1 wd.heap.size V (Nat.le_refl _) (kp_two hchfx_4 _ _ hx1 hx2 hx3 hV)
                · exact hl2 W1.heap.size V (Nat.le_refl _) (kp_two hchfy_4 _ _ hy1 hy2 hy3 hV)
            · obtain ⟨W7, hW7⟩ : ∃ W', W' = W2.alloc (.cells #[.int .i64 0, .slice none 0 0, .slice none 0 0, .int .i64 0, .slice none 0 0] 148) := ⟨_, rfl⟩
              have hb7 : Below W2.heap.size W2 W7 := by rw [hW7]; exact below_alloc1 _ _
              have hAg7 : Rz W7 W2.heap.size 148 #[.int .i64 0, .slice none 0 0, .slice none 0 0, .int .i64 0, .slice none 0 0] := by rw [hW7]; exact Rz.new _ _ _
              have S7 : Below (wy.heap.size) wy W7 := S2.trans (hb7.mono (Nat.le_trans hB0 S2.size))
              have hGg : wy.heap.size ≤ W2.heap.size := Nat.le_trans hB0 S2.size
              have hchfx_7 := hchfx_2.trans (hb7.mono hchfx_2.size)
              have hchfy_7 := hchfy2.trans (hb7.mono hchfy2.size)
              have hlt7 : W2.heap.size < W7.heap.size := by rw [hW7]; simp
              refine op_mem (i := 5) (v := .pointer (some ⟨W2.heap.size, 0, none⟩)) (w' := W7) (some 9) rfl rfl rfl (by rw [hW7]; go_simp) ?_
              refine ⟨S7, ?_⟩
              refine held_one (i := 4) (by kernel_rfl) ?_
              · obtain ⟨W8, hW8⟩ : ∃ W', W' = W7.alloc (.cells #[.int .i64 0, .slice none 0 0, .slice none 0 0, .int .i64 0, .slice none 0 0] 148) := ⟨_, rfl⟩
                have hb8 : Below W7.heap.size W7 W8 := by rw [hW8]; exact below_alloc1 _ _
                have hAf8 : Rz W8 W7.heap.size 148 #[.int .i64 0, .slice none 0 0, .slice none 0 0, .int .i64 0, .slice none 0 0] := by rw [hW8]; exact Rz.new _ _ _
                have S8 : Below (wy.heap.size) wy W8 := S7.trans (hb8.mono (Nat.le_trans hB0 S7.size))
                have hGf : wy.heap.size ≤ W7.heap.size := Nat.le_trans hB0 S7.size
                have hne : W2.heap.size ≠ W7.heap.size := Nat.ne_of_lt hAg7.lt
                have hAg8 := hAg7.next hb8
                have hchfx_8 := hchfx_7.trans (hb8.mono hchfx_7.size)
                have hchfy_8 := hchfy_7.trans (hb8.mono hchfy_7.size)
                have hlt8 : W7.heap.size < W8.heap.size := by rw [hW8]; simp
                refine op_mem (i := 4) (v := .pointer (some ⟨W7.heap.size, 0, none⟩)) (w' := W8) (some 8) rfl rfl rfl (by rw [hW8]; go_simp) ?_
                refine ⟨S8, ?_⟩
                have hscx := hchfx_8.size
                have hscy := hchfy_8.size
                have hsx := S0.size
                have hsy2 := S1.size
                have hx1 : (w1.heap.size ≤ W7.heap.size ∧ W7.heap.size < wd.heap.size) ∨ W1.heap.size ≤ W7.heap.size := by omega
                have hx2 : (w1.heap.size ≤ W2.heap.size ∧ W2.heap.size < wd.heap.size) ∨ W1.heap.size ≤ W2.heap.size := by omega
                have hx3 : w1.heap.size ≤ gm ∧ gm < wd.heap.size := by omega
                have hy1 : (w1.heap.size ≤ W7.heap.size ∧ W7.heap.size < W1.heap.size) ∨ W2.heap.size ≤ W7.heap.size := by omega
                have hy2 : (w1.heap.size ≤ W2.heap.size ∧ W2.heap.size < W1.heap.size) ∨ W2.heap.size ≤ W2.heap.size := by omega
                have hy3 : w1.heap.size ≤ gm ∧ gm < W1.heap.size := by omega
                have S9 : Below (wy.heap.size) wy (W8.setRow (W7.heap.size) #[.int .i64 p, .slice ad ds.length cap, .slice am ms.length capm, .int .i64 (-1), .slice ax1 (dfL ds ms).length cx1]) := below_setRow S8 hGf _
                refine held_one (i := 6) (by kernel_rfl) ?_
                refine op_row (i := 6) rfl rfl rfl 148 (.tmp 8) (.tmp 26) rfl (W7.heap.size) #[.int .i64 p, .slice ad ds.length cap, .slice am ms.length capm, .int .i64 (-1), .slice ax1 (dfL ds ms).length cx1] (by kernel_rfl) (by kernel_rfl) 148 _ hAf8 (infoG5 _ _ _ _ _) (by kernel_rfl) (by kernel_rfl) ?_
                refine ⟨S9, ?_⟩
                have hAg9 := hAg8.off (by first | exact hne | exact hne.symm) #[.int .i64 p, .slice ad ds.length cap, .slice am ms.length capm, .int .i64 (-1), .slice ax1 (dfL ds ms).length cx1]
                have hAf9 := hAf8.set #[.int .i64 p, .slice ad ds.length cap, .slice am ms.length capm, .int .i64 (-1), .slice ax1 (dfL ds ms).length cx1]
                have S10 : Below (wy.heap.size) wy ((W8.setRow (W7.heap.size) #[.int .i64 p, .slice ad ds.length cap, .slice am ms.length capm, .int .i64 (-1), .slice ax1 (dfL ds ms).length cx1]).setRow (W2.heap.size) #[.int .i64 p, .slice ad2 ds2.length cap2, .slice am2 ms2.length capm2, .int .i64 (-1), .slice ax2 (dfL ds2 ms2).length cx2]) := below_setRow S9 hGg _
                refine held_one (i := 7) (by kernel_rfl) ?_
                refine op_row (i := 7) rfl rfl rfl 148 (.tmp 9) (.tmp 28) rfl (W2.heap.size) #[.int .i64 p, .slice ad2 ds2.length cap2, .slice am2 ms2.length capm2, .int .i64 (-1), .slice ax2 (dfL ds2 ms2).length cx2] (by kernel_rfl) (by kernel_rfl) 148 _ hAg9 (infoG5 _ _ _ _ _) (by kernel_rfl) (by kernel_rfl) ?_
                refine ⟨S10, ?_⟩
                have hAg10 := hAg9.set #[.int .i64 p, .slice ad2 ds2.length cap2, .slice am2 ms2.length capm2, .int .i64 (-1), .slice ax2 (dfL ds2 ms2).length cx2]
                have hAf10 := hAf9.off (by first | exact hne | exact hne.symm) #[.int .i64 p, .slice ad2 ds2.length cap2, .slice am2 ms2.length capm2, .int .i64 (-1), .slice ax2 (dfL ds2 ms2).length cx2]
                refine wpAnyH_done (by kernel_rfl) ?_ _
                simp only [Act.put, List.setIfInBounds_toArray, List.set_cons_zero, List.set_cons_succ]
                go_wp2
                go_meet
                refine ⟨W7.heap.size, W2.heap.size, (.slice ax1 (dfL ds ms).length cx1), (.slice ax2 (dfL ds2 ms2).length cx2), rfl, rfl, Lib.hid S10, Lib.hid ⟨hGf, hGg⟩, Lib.hid hAf10, Lib.hid hAg10, Lib.hid (fun V hV => ?_), Lib.hid (fun V hV => ?_)⟩
                · exact hl1 wd.heap.size V (Nat.le_refl _) (kp_two hchfx_8 _ _ hx1 hx2 hx3 hV)
                · exact hl2 W1.heap.size V (Nat.le_refl _) (kp_two hchfy_8 _ _ hy1 hy2 hy3 hV)
          · obtain ⟨W11, hW11⟩ : ∃ W', W' = W1.alloc (.cells #[.int .i64 0, .slice none 0 0, .slice none 0 0, .int .i64 0, .slice none 0 0] 148) := ⟨_, rfl⟩
            have hb11 : Below W1.heap.size W1 W11 := by rw [hW11]; exact below_alloc1 _ _
            have hAf11 : Rz W11 W1.heap.size 148 #[.int .i64 0, .slice none 0 0, .slice none 0 0, .int .i64 0, .slice none 0 0] := by rw [hW11]; exact Rz.new _ _ _
            have S11 : Below (wy.heap.size) wy W11 := S1.trans (hb11.mono (Nat.le_trans hB0 S1.size))
            have hGf : wy.heap.size ≤ W1.heap.size := Nat.le_trans hB0 S1.size
            have hchfx_11 := hchfx1.trans (hb11.mono hchfx1.size)
            have hlt11 : W1.heap.size < W11.heap.size := by rw [hW11]; simp
            refine op_mem (i := 4) (v := .pointer (some ⟨W1.heap.size, 0, none⟩)) (w' := W11) (some 8) rfl rfl rfl (by rw [hW11]; go_simp) ?_
            refine ⟨S11, ?_⟩
            refine held_two (i := 3) (j := 5) (by kernel_rfl) ?_ ?_
            · refine op_enter (i := 3) (some 28) (f := 140) (args := #[.agg #[.int .i64 p, .slice ad2 ds2.length cap2, .slice am2 ms2.length capm2]]) rfl rfl rfl (by kernel_rfl) (HDY.out W11 S11) ?_ (fun c w' h => by obtain ⟨_, h, _⟩ := h; cases h) (fun w' h => by obtain ⟨_, h, _⟩ := h; cases h)
              rintro ee W12 ⟨u12, he, hb12, hl12⟩
              injection he with he
              subst he
              obtain ⟨ax12, cx12, hv⟩ := Sl.shape (hl12 _ _ (Nat.le_refl _) (Kp.refl _ _ _))
              subst hv
              have S12 : Below (wy.heap.size) wy W12 := S11.trans (hb12.mono (Nat.le_trans hB0 S11.size))
              have hAf12 := hAf11.next hb12
              have hchfx_12 := hchfx_11.trans (hb12.mono hchfx_11.size)
              have hlt12 := hb12.size
              have hchfy12 := Below.refl W12.heap.size W12
              refine ⟨S12, ?_⟩
              refine held_one (i := 5) (by kernel_rfl) ?_
              · obtain ⟨W13, hW13⟩ : ∃ W', W' = W12.alloc (.cells #[.int .i64 0, .slice none 0 0, .slice none 0 0, .int .i64 0, .slice none 0 0] 148) := ⟨_, rfl⟩
                have hb13 : Below W12.heap.size W12 W13 := by rw [hW13]; exact below_alloc1 _ _
                have hAg13 : Rz W13 W12.heap.size 148 #[.int .i64 0, .slice none 0 0, .slice none 0 0, .int .i64 0, .slice none 0 0] := by rw [hW13]; exact Rz.new _ _ _
                have S13 : Below (wy.heap.size) wy W13 := S12.trans (hb13.mono (Nat.le_trans hB0 S12.size))
                have hGg : wy.heap.size ≤ W12.heap.size := Nat.le_trans hB0 S12.size
                have hne : W1.heap.size ≠ W12.heap.size := Nat.ne_of_lt hAf12.lt
                have hAf13 := hAf12.next hb13
                have hchfx_13 := hchfx_12.trans (hb13.mono hchfx_12.size)
                have hchfy_13 := hchfy12.trans (hb13.mono hchfy12.size)
                have hlt13 : W12.heap.size < W13.heap.size := by rw [hW13]; simp
                refine op_mem (i := 5) (v := .pointer (some ⟨W12.heap.size, 0, none⟩)) (w' := W13) (some 9) rfl rfl rfl (by rw [hW13]; go_simp) ?_
                refine ⟨S13, ?_⟩
                have hscx := hchfx_13.size
                have hscy := hchfy_13.size
                have hsx := S0.size
                have hsy2 := S11.size
                have hx1 : (w1.heap.size ≤ W1.heap.size ∧ W1.heap.size < wd.heap.size) ∨ W1.heap.size ≤ W1.heap.size := by omega
                have hx2 : (w1.heap.size ≤ W12.heap.size ∧ W12.heap.size < wd.heap.size) ∨ W1.heap.size ≤ W12.heap.size := by omega
                have hx3 : w1.heap.size ≤ gm ∧ gm < wd.heap.size := by omega
                have hy1 : (w1.heap.size ≤ W1.heap.size ∧ W1.heap.size < W11.heap.size) ∨ W12.heap.size ≤ W1.heap.size := by omega
                have hy2 : (w1.heap.size ≤ W12.heap.size ∧ W12.heap.size < W11.heap.size) ∨ W12.heap.size ≤ W12.heap.size := by omega
                have hy3 : w1.heap.size ≤ gm ∧ gm < W11.heap.size := by omega
                have S14 : Below (wy.heap.size) wy (W13.setRow (W1.heap.size) #[.int .i64 p, .slice ad ds.length cap, .slice am ms.length capm, .int .i64 (-1), .slice ax1 (dfL ds ms).length cx1]) := below_setRow S13 hGf _
                refine held_one (i := 6) (by kernel_rfl) ?_
                refine op_row (i := 6) rfl rfl rfl 148 (.tmp 8) (.tmp 26) rfl (W1.heap.size) #[.int .i64 p, .slice ad ds.length cap, .slice am ms.length capm, .int .i64 (-1), .slice ax1 (dfL ds ms).length cx1] (by kernel_rfl) (by kernel_rfl) 148 _ hAf13 (infoG5 _ _ _ _ _) (by kernel_rfl) (by kernel_rfl) ?_
                refine ⟨S14, ?_⟩
                have hAf14 := hAf13.set #[.int .i64 p, .slice ad ds.length cap, .slice am ms.length capm, .int .i64 (-1), .slice ax1 (dfL ds ms).length cx1]
                have hAg14 := hAg13.off (by first | exact hne | exact hne.symm) #[.int .i64 p, .slice ad ds.length cap, .slice am ms.length capm, .int .i64 (-1), .slice ax1 (dfL ds ms).length cx1]
                have S15 : Below (wy.heap.size) wy ((W13.setRow (W1.heap.size) #[.int .i64 p, .slice ad ds.length cap, .slice am ms.length capm, .int .i64 (-1), .slice ax1 (dfL ds ms).length cx1]).setRow (W12.heap.size) #[.int .i64 p, .slice ad2 ds2.length cap2, .slice am2 ms2.length capm2, .int .i64 (-1), .slice ax12 (dfL ds2 ms2).length cx12]) := below_setRow S14 hGg _
                refine held_one (i := 7) (by kernel_rfl) ?_
                refine op_row (i := 7) rfl rfl rfl 148 (.tmp 9) (.tmp 28) rfl (W12.heap.size) #[.int .i64 p, .slice ad2 ds2.length cap2, .slice am2 ms2.length capm2, .int .i64 (-1), .slice ax12 (dfL ds2 ms2).length cx12] (by kernel_rfl) (by kernel_rfl) 148 _ hAg14 (infoG5 _ _ _ _ _) (by kernel_rfl) (by kernel_rfl) ?_
                refine ⟨S15, ?_⟩
                have hAf15 := hAf14.off (by first | exact hne | exact hne.symm) #[.int .i64 p, .slice ad2 ds2.length cap2, .slice am2 ms2.length capm2, .int .i64 (-1), .slice ax12 (dfL ds2 ms2).length cx12]
                have hAg15 := hAg14.set #[.int .i64 p, .slice ad2 ds2.length cap2, .slice am2 ms2.length capm2, .int .i64 (-1), .slice ax12 (dfL ds2 ms2).length cx12]
                refine wpAnyH_done (by kernel_rfl) ?_ _
                simp only [Act.put, List.setIfInBounds_toArray, List.set_cons_zero, List.set_cons_succ]
                go_wp2
                go_meet
                refine ⟨W1.heap.size, W12.heap.size, (.slice ax1 (dfL ds ms).length cx1), (.slice ax12 (dfL ds2 ms2).length cx12), rfl, rfl, Lib.hid S15, Lib.hid ⟨hGf, hGg⟩, Lib.hid hAf15, Lib.hid hAg15, Lib.hid (fun V hV => ?_), Lib.hid (fun V hV => ?_)⟩
                · exact hl1 wd.heap.size V (Nat.le_refl _) (kp_two hchfx_13 _ _ hx1 hx2 hx3 hV)
                · exact hl12 W11.heap.size V (Nat.le_refl _) (kp_two hchfy_13 _ _ hy1 hy2 hy3 hV)
            · obtain ⟨W16, hW16⟩ : ∃ W', W' = W11.alloc (.cells #[.int .i64 0, .slice none 0 0, .slice none 0 0, .int .i64 0, .slice none 0 0] 148) := ⟨_, rfl⟩
              have hb16 : Below W11.heap.size W11 W16 := by rw [hW16]; exact below_alloc1 _ _
              have hAg16 : Rz W16 W11.heap.size 148 #[.int .i64 0, .slice none 0 0, .slice none 0 0, .int .i64 0, .slice none 0 0] := by rw [hW16]; exact Rz.new _ _ _
              have S16 : Below (wy.heap.size) wy W16 := S11.trans (hb16.mono (Nat.le_trans hB0 S11.size))
              have hGg : wy.heap.size ≤ W11.heap.size := Nat.le_trans hB0 S11.size
              have hne : W1.heap.size ≠ W11.heap.size := Nat.ne_of_lt hAf11.lt
              have hAf16 := hAf11.next hb16
              have hchfx_16 := hchfx_11.trans (hb16.mono hchfx_11.size)
              have hlt16 : W11.heap.size < W16.heap.size := by rw [hW16]; simp
              refine op_mem (i := 5) (v := .pointer (some ⟨W11.heap.size, 0, none⟩)) (w' := W16) (some 9) rfl rfl rfl (by rw [hW16]; go_simp) ?_
              refine ⟨S16, ?_⟩
              refine held_one (i := 3) (by kernel_rfl) ?_
              · refine op_enter (i := 3) (some 28) (f := 140) (args := #[.agg #[.int .i64 p, .slice ad2 ds2.length cap2, .slice am2 ms2.length capm2]]) rfl rfl rfl (by kernel_rfl) (HDY.out W16 S16) ?_ (fun c w' h => by obtain ⟨_, h, _⟩ := h; cases h) (fun w' h => by obtain ⟨_, h, _⟩ := h; cases h)
                rintro ee W17 ⟨u17, he, hb17, hl17⟩
                injection he with he
                subst he
                obtain ⟨ax17, cx17, hv⟩ := Sl.shape (hl17 _ _ (Nat.le_refl _) (Kp.refl _ _ _))
                subst hv
                have S17 : Below (wy.heap.size) wy W17 := S16.trans (hb17.mono (Nat.le_trans hB0 S16.size))
                have hAf17 := hAf16.next hb17
                have hAg17 := hAg16.next hb17
                have hchfx_17 := hchfx_16.trans (hb17.mono hchfx_16.size)
                have hlt17 := hb17.size
                have hchfy17 := Below.refl W17.heap.size W17
                refine ⟨S17, ?_⟩
                have hscx := hchfx_17.size
                have hscy := hchfy17.size
                have hsx := S0.size
                have hsy2 := S16.size
                have hx1 : (w1.heap.size ≤ W1.heap.size ∧ W1.heap.size < wd.heap.size) ∨ W1.heap.size ≤ W1.heap.size := by omega
                have hx2 : (w1.heap.size ≤ W11.heap.size ∧ W11.heap.size < wd.heap.size) ∨ W1.heap.size ≤ W11.heap.size := by omega
                have hx3 : w1.heap.size ≤ gm ∧ gm < wd.heap.size := by omega
                have hy1 : (w1.heap.size ≤ W1.heap.size ∧ W1.heap.size < W16.heap.size) ∨ W17.heap.size ≤ W1.heap.size := by omega
                have hy2 : (w1.heap.size ≤ W11.heap.size ∧ W11.heap.size < W16.heap.size) ∨ W17.heap.size ≤ W11.heap.size := by omega
                have hy3 : w1.heap.size ≤ gm ∧ gm < W16.heap.size := by omega
                have S18 : Below (wy.heap.size) wy (W17.setRow (W1.heap.size) #[.int .i64 p, .slice ad ds.length cap, .slice am ms.length capm, .int .i64 (-1), .slice ax1 (dfL ds ms).length cx1]) := below_setRow S17 hGf _
                refine held_one (i := 6) (by kernel_rfl) ?_
                refine op_row (i := 6) rfl rfl rfl 148 (.tmp 8) (.tmp 26) rfl (W1.heap.size) #[.int .i64 p, .slice ad ds.length cap, .slice am ms.length capm, .int .i64 (-1), .slice ax1 (dfL ds ms).length cx1] (by kernel_rfl) (by kernel_rfl) 148 _ hAf17 (infoG5 _ _ _ _ _) (by kernel_rfl) (by kernel_rfl) ?_
                refine ⟨S18, ?_⟩
                have hAf18 := hAf17.set #[.int .i64 p, .slice ad ds.length cap, .slice am ms.length capm, .int .i64 (-1), .slice ax1 (dfL ds ms).length cx1]
                have hAg18 := hAg17.off (by first | exact hne | exact hne.symm) #[.int .i64 p, .slice ad ds.length cap, .slice am ms.length capm, .int .i64 (-1), .slice ax1 (dfL ds ms).length cx1]
                have S19 : Below (wy.heap.size) wy ((W17.setRow (W1.heap.size) #[.int .i64 p, .slice ad ds.length cap, .slice am ms.length capm, .int .i64 (-1), .slice ax1 (dfL ds ms).length cx1]).setRow (W11.heap.size) #[.int .i64 p, .slice ad2 ds2.length cap2, .slice am2 ms2.length capm2, .int .i64 (-1), .slice ax17 (dfL ds2 ms2).length cx17]) := below_setRow S18 hGg _
                refine held_one (i := 7) (by kernel_rfl) ?_
                refine op_row (i := 7) rfl rfl rfl 148 (.tmp 9) (.tmp 28) rfl (W11.heap.size) #[.int .i64 p, .slice ad2 ds2.length cap2, .slice am2 ms2.length capm2, .int .i64 (-1), .slice ax17 (dfL ds2 ms2).length cx17] (by kernel_rfl) (by kernel_rfl) 148 _ hAg18 (infoG5 _ _ _ _ _) (by kernel_rfl) (by kernel_rfl) ?_
                refine ⟨S19, ?_⟩
                have hAf19 := hAf18.off (by first | exact hne | exact hne.symm) #[.int .i64 p, .slice ad2 ds2.length cap2, .slice am2 ms2.length capm2, .int .i64 (-1), .slice ax17 (dfL ds2 ms2).length cx17]
                have hAg19 := hAg18.set #[.int .i64 p, .slice ad2 ds2.length cap2, .slice am2 ms2.length capm2, .int .i64 (-1), .slice ax17 (dfL ds2 ms2).length cx17]
                refine wpAnyH_done (by kernel_rfl) ?_ _
                simp only [Act.put, List.setIfInBounds_toArray, List.set_cons_zero, List.set_cons_succ]
                go_wp2
                go_meet
                refine ⟨W1.heap.size, W11.heap.size, (.slice ax1 (dfL ds ms).length cx1), (.slice ax17 (dfL ds2 ms2).length cx17), rfl, rfl, Lib.hid S19, Lib.hid ⟨hGf, hGg⟩, Lib.hid hAf19, Lib.hid hAg19, Lib.hid (fun V hV => ?_), Lib.hid (fun V hV => ?_)⟩
                · exact hl1 wd.heap.size V (Nat.le_refl _) (kp_two hchfx_17 _ _ hx1 hx2 hx3 hV)
                · exact hl17 W16.heap.size V (Nat.le_refl _) (kp_two hchfy17 _ _ hy1 hy2 hy3 hV)
          · obtain ⟨W20, hW20⟩ : ∃ W', W' = W1.alloc (.cells #[.int .i64 0, .slice none 0 0, .slice none 0 0, .int .i64 0, .slice none 0 0] 148) := ⟨_, rfl⟩
            have hb20 : Below W1.heap.size W1 W20 := by rw [hW20]; exact below_alloc1 _ _
            have hAg20 : Rz W20 W1.heap.size 148 #[.int .i64 0, .slice none 0 0, .slice none 0 0, .int .i64 0, .slice none 0 0] := by rw [hW20]; exact Rz.new _ _ _
            have S20 : Below (wy.heap.size) wy W20 := S1.trans (hb20.mono (Nat.le_trans hB0 S1.size))
            have hGg : wy.heap.size ≤ W1.heap.size := Nat.le_trans hB0 S1.size
            have hchfx_20 := hchfx1.trans (hb20.mono hchfx1.size)
            have hlt20 : W1.heap.size < W20.heap.size := by rw [hW20]; simp
            refine op_mem (i := 5) (v := .pointer (some ⟨W1.heap.size, 0, none⟩)) (w' := W20) (some 9) rfl rfl rfl (by rw [hW20]; go_simp) ?_
            refine ⟨S20, ?_⟩
            refine held_two (i := 3) (j := 4) (by kernel_rfl) ?_ ?_
            · refine op_enter (i := 3) (some 28) (f := 140) (args := #[.agg #[.int .i64 p, .slice ad2 ds2.length cap2, .slice am2 ms2.length capm2]]) rfl rfl rfl (by kernel_rfl) (HDY.out W20 S20) ?_ (fun c w' h => by obtain ⟨_, h, _⟩ := h; cases h) (fun w' h => by obtain ⟨_, h, _⟩ := h; cases h)
              rintro ee W21 ⟨u21, he, hb21, hl21⟩
              injection he with he
              subst he
              obtain ⟨ax21, cx21, hv⟩ := Sl.shape (hl21 _ _ (Nat.le_refl _) (Kp.refl _ _ _))
              subst hv
              have S21 : Below (wy.heap.size) wy W21 := S20.trans (hb21.mono (Nat.le_trans hB0 S20.size))
              have hAg21 := hAg20.next hb21
              have hchfx_21 := hchfx_20.trans (hb21.mono hchfx_20.size)
              have hlt21 := hb21.size
              have hchfy21 := Below.refl W21.heap.size W21
              refine ⟨S21, ?_⟩
              refine held_one (i := 4) (by kernel_rfl) ?_
              · obtain ⟨W22, hW22⟩ : ∃ W', W' = W21.alloc (.cells #[.int .i64 0, .slice none 0 0, .slice none 0 0, .int .i64 0, .slice none 0 0] 148) := ⟨_, rfl⟩
                have hb22 : Below W21.heap.size W21 W22 := by rw [hW22]; exact below_alloc1 _ _
                have hAf22 : Rz W22 W21.heap.size 148 #[.int .i64 0, .slice none 0 0, .slice none 0 0, .int .i64 0, .slice none 0 0] := by rw [hW22]; exact Rz.new _ _ _
                have S22 : Below (wy.heap.size) wy W22 := S21.trans (hb22.mono (Nat.le_trans hB0 S21.size))
                have hGf : wy.heap.size ≤ W21.heap.size := Nat.le_trans hB0 S21.size
                have hne : W1.heap.size ≠ W21.heap.size := Nat.ne_of_lt hAg21.lt
                have hAg22 := hAg21.next hb22
                have hchfx_22 := hchfx_21.trans (hb22.mono hchfx_21.size)
                have hchfy_22 := hchfy21.trans (hb22.mono hchfy21.size)
                have hlt22 : W21.heap.size < W22.heap.size := by rw [hW22]; simp
                refine op_mem (i := 4) (v := .pointer (some ⟨W21.heap.size, 0, none⟩)) (w' := W22) (some 8) rfl rfl rfl (by rw [hW22]; go_simp) ?_
                refine ⟨S22, ?_⟩
                have hscx := hchfx_22.size
                have hscy := hchfy_22.size
                have hsx := S0.size
                have hsy2 := S20.size
                have hx1 : (w1.heap.size ≤ W21.heap.size ∧ W21.heap.size < wd.heap.size) ∨ W1.heap.size ≤ W21.heap.size := by omega
                have hx2 : (w1.heap.size ≤ W1.heap.size ∧ W1.heap.size < wd.heap.size) ∨ W1.heap.size ≤ W1.heap.size := by omega
                have hx3 : w1.heap.size ≤ gm ∧ gm < wd.heap.size := by omega
                have hy1 : (w1.heap.size ≤ W21.heap.size ∧ W21.heap.size < W20.heap.size) ∨ W21.heap.size ≤ W21.heap.size := by omega
                have hy2 : (w1.heap.size ≤ W1.heap.size ∧ W1.heap.size < W20.heap.size) ∨ W21.heap.size ≤ W1.heap.size := by omega
                have hy3 : w1.heap.size ≤ gm ∧ gm < W20.heap.size := by omega
                have S23 : Below (wy.heap.size) wy (W22.setRow (W21.heap.size) #[.int .i64 p, .slice ad ds.length cap, .slice am ms.length capm, .int .i64 (-1), .slice ax1 (dfL ds ms).length cx1]) := below_setRow S22 hGf _
                refine held_one (i := 6) (by kernel_rfl) ?_
                refine op_row (i := 6) rfl rfl rfl 148 (.tmp 8) (.tmp 26) rfl (W21.heap.size) #[.int .i64 p, .slice ad ds.length cap, .slice am ms.length capm, .int .i64 (-1), .slice ax1 (dfL ds ms).length cx1] (by kernel_rfl) (by kernel_rfl) 148 _ hAf22 (infoG5 _ _ _ _ _) (by kernel_rfl) (by kernel_rfl) ?_
                refine ⟨S23, ?_⟩
                have hAg23 := hAg22.off (by first | exact hne | exact hne.symm) #[.int .i64 p, .slice ad ds.length cap, .slice am ms.length capm, .int .i64 (-1), .slice ax1 (dfL ds ms).length cx1]
                have hAf23 := hAf22.set #[.int .i64 p, .slice ad ds.length cap, .slice am ms.length capm, .int .i64 (-1), .slice ax1 (dfL ds ms).length cx1]
                have S24 : Below (wy.heap.size) wy ((W22.setRow (W21.heap.size) #[.int .i64 p, .slice ad ds.length cap, .slice am ms.length capm, .int .i64 (-1), .slice ax1 (dfL ds ms).length cx1]).setRow (W1.heap.size) #[.int .i64 p, .slice ad2 ds2.length cap2, .slice am2 ms2.length capm2, .int .i64 (-1), .slice ax21 (dfL ds2 ms2).length cx21]) := below_setRow S23 hGg _
                refine held_one (i := 7) (by kernel_rfl) ?_
                refine op_row (i := 7) rfl rfl rfl 148 (.tmp 9) (.tmp 28) rfl (W1.heap.size) #[.int .i64 p, .slice ad2 ds2.length cap2, .slice am2 ms2.length capm2, .int .i64 (-1), .slice ax21 (dfL ds2 ms2).length cx21] (by kernel_rfl) (by kernel_rfl) 148 _ hAg23 (infoG5 _ _ _ _ _) (by kernel_rfl) (by kernel_rfl) ?_
                refine ⟨S24, ?_⟩
                have hAg24 := hAg23.set #[.int .i64 p, .slice ad2 ds2.length cap2, .slice am2 ms2.length capm2, .int .i64 (-1), .slice ax21 (dfL ds2 ms2).length cx21]
                have hAf24 := hAf23.off (by first | exact hne | exact hne.symm) #[.int .i64 p, .slice ad2 ds2.length cap2, .slice am2 ms2.length capm2, .int .i64 (-1), .slice ax21 (dfL ds2 ms2).length cx21]
                refine wpAnyH_done (by kernel_rfl) ?_ _
                simp only [Act.put, List.setIfInBounds_toArray, List.set_cons_zero, List.set_cons_succ]
                go_wp2
                go_meet
                refine ⟨W21.heap.size, W1.heap.size, (.slice ax1 (dfL ds ms).length cx1), (.slice ax21 (dfL ds2 ms2).length cx21), rfl, rfl, Lib.hid S24, Lib.hid ⟨hGf, hGg⟩, Lib.hid hAf24, Lib.hid hAg24, Lib.hid (fun V hV => ?_), Lib.hid (fun V hV => ?_)⟩
                · exact hl1 wd.heap.size V (Nat.le_refl _) (kp_two hchfx_22 _ _ hx1 hx2 hx3 hV)
                · exact hl21 W20.heap.size V (Nat.le_refl _) (kp_two hchfy_22 _ _ hy1 hy2 hy3 hV)
            · obtain ⟨W25, hW25⟩ : ∃ W', W' = W20.alloc (.cells #[.int .i64 0, .slice none 0 0, .slice none 0 0, .int .i64 0, .slice none 0 0] 148) := ⟨_, rfl⟩
              have hb25 : Below W20.heap.size W20 W25 := by rw [hW25]; exact below_alloc1 _ _
              have hAf25 : Rz W25 W20.heap.size 148 #[.int .i64 0, .slice none 0 0, .slice none 0 0, .int .i64 0, .slice none 0 0] := by rw [hW25]; exact Rz.new _ _ _
              have S25 : Below (wy.heap.size) wy W25 := S20.trans (hb25.mono (Nat.le_trans hB0 S20.size))
              have hGf : wy.heap.size ≤ W20.heap.size := Nat.le_trans hB0 S20.size
              have hne : W1.heap.size ≠ W20.heap.size := Nat.ne_of_lt hAg20.lt
              have hAg25 := hAg20.next hb25
              have hchfx_25 := hchfx_20.trans (hb25.mono hchfx_20.size)
              have hlt25 : W20.heap.size < W25.heap.size := by rw [hW25]; simp
              refine op_mem (i := 4) (v := .pointer (some ⟨W20.heap.size, 0, none⟩)) (w' := W25) (some 8) rfl rfl rfl (by rw [hW25]; go_simp) ?_
              refine ⟨S25, ?_⟩
              refine held_one (i := 3) (by kernel_rfl) ?_
              · refine op_enter (i := 3) (some 28) (f := 140) (args := #[.agg #[.int .i64 p, .slice ad2 ds2.length cap2, .slice am2 ms2.length capm2]]) rfl rfl rfl (by kernel_rfl) (HDY.out W25 S25) ?_ (fun c w' h => by obtain ⟨_, h, _⟩ := h; cases h) (fun w' h => by obtain ⟨_, h, _⟩ := h; cases h)
                rintro ee W26 ⟨u26, he, hb26, hl26⟩
                injection he with he
                subst he
                obtain ⟨ax26, cx26, hv⟩ := Sl.shape (hl26 _ _ (Nat.le_refl _) (Kp.refl _ _ _))
                subst hv
                have S26 : Below (wy.heap.size) wy W26 := S25.trans (hb26.mono (Nat.le_trans hB0 S25.size))
                have hAg26 := hAg25.next hb26
                have hAf26 := hAf25.next hb26
                have hchfx_26 := hchfx_25.trans (hb26.mono hchfx_25.size)
                have hlt26 := hb26.size
                have hchfy26 := Below.refl W26.heap.size W26
                refine ⟨S26, ?_⟩
                have hscx := hchfx_26.size
                have hscy := hchfy26.size
                have hsx := S0.size
                have hsy2 := S25.size
                have hx1 : (w1.heap.size ≤ W20.heap.size ∧ W20.heap.size < wd.heap.size) ∨ W1.heap.size ≤ W20.heap.size := by omega
                have hx2 : (w1.heap.size ≤ W1.heap.size ∧ W1.heap.size < wd.heap.size) ∨ W1.heap.size ≤ W1.heap.size := by omega
                have hx3 : w1.heap.size ≤ gm ∧ gm < wd.heap.size := by omega
                have hy1 : (w1.heap.size ≤ W20.heap.size ∧ W20.heap.size < W25.heap.size) ∨ W26.heap.size ≤ W20.heap.size := by omega
                have hy2 : (w1.heap.size ≤ W1.heap.size ∧ W1.heap.size < W25.heap.size) ∨ W26.heap.size ≤ W1.heap.size := by omega
                have hy3 : w1.heap.size ≤ gm ∧ gm < W25.heap.size := by omega
                have S27 : Below (wy.heap.size) wy (W26.setRow (W20.heap.size) #[.int .i64 p, .slice ad ds.length cap, .slice am ms.length capm, .int .i64 (-1), .slice ax1 (dfL ds ms).length cx1]) := below_setRow S26 hGf _
                refine held_one (i := 6) (by kernel_rfl) ?_
                refine op_row (i := 6) rfl rfl rfl 148 (.tmp 8) (.tmp 26) rfl (W20.heap.size) #[.int .i64 p, .slice ad ds.length cap, .slice am ms.length capm, .int .i64 (-1), .slice ax1 (dfL ds ms).length cx1] (by kernel_rfl) (by kernel_rfl) 148 _ hAf26 (infoG5 _ _ _ _ _) (by kernel_rfl) (by kernel_rfl) ?_
                refine ⟨S27, ?_⟩
                have hAg27 := hAg26.off (by first | exact hne | exact hne.symm) #[.int .i64 p, .slice ad ds.length cap, .slice am ms.length capm, .int .i64 (-1), .slice ax1 (dfL ds ms).length cx1]
                have hAf27 := hAf26.set #[.int .i64 p, .slice ad ds.length cap, .slice am ms.length capm, .int .i64 (-1), .slice ax1 (dfL ds ms).length cx1]
                have S28 : Below (wy.heap.size) wy ((W26.setRow (W20.heap.size) #[.int .i64 p, .slice ad ds.length cap, .slice am ms.length capm, .int .i64 (-1), .slice ax1 (dfL ds ms).length cx1]).setRow (W1.heap.size) #[.int .i64 p, .slice ad2 ds2.length cap2, .slice am2 ms2.length capm2, .int .i64 (-1), .slice ax26 (dfL ds2 ms2).length cx26]) := below_setRow S27 hGg _
                refine held_one (i := 7) (by kernel_rfl) ?_
                refine op_row (i := 7) rfl rfl rfl 148 (.tmp 9) (.tmp 28) rfl (W1.heap.size) #[.int .i64 p, .slice ad2 ds2.length cap2, .slice am2 ms2.length capm2, .int .i64 (-1), .slice ax26 (dfL ds2 ms2).length cx26] (by kernel_rfl) (by kernel_rfl) 148 _ hAg27 (infoG5 _ _ _ _ _) (by kernel_rfl) (by kernel_rfl) ?_
                refine ⟨S28, ?_⟩
                have hAg28 := hAg27.set #[.int .i64 p, .slice ad2 ds2.length cap2, .slice am2 ms2.length capm2, .int .i64 (-1), .slice ax26 (dfL ds2 ms2).length cx26]
                have hAf28 := hAf27.off (by first | exact hne | exact hne.symm) #[.int .i64 p, .slice ad2 ds2.length cap2, .slice am2 ms2.length capm2, .int .i64 (-1), .slice ax26 (dfL ds2 ms2).length cx26]
                refine wpAnyH_done (by kernel_rfl) ?_ _
                simp only [Act.put, List.setIfInBounds_toArray, List.set_cons_zero, List.set_cons_succ]
                go_wp2
                go_meet
                refine ⟨W20.heap.size, W1.heap.size, (.slice ax1 (dfL ds ms).length cx1), (.slice ax26 (dfL ds2 ms2).length cx26), rfl, rfl, Lib.hid S28, Lib.hid ⟨hGf, hGg⟩, Lib.hid hAf28, Lib.hid hAg28, Lib.hid (fun V hV => ?_), Lib.hid (fun V hV => ?_)⟩
                · exact hl1 wd.heap.size V (Nat.le_refl _) (kp_two hchfx_26 _ _ hx1 hx2 hx3 hV)
                · exact hl26 W25.heap.size V (Nat.le_refl _) (kp_two hchfy26 _ _ hy1 hy2 hy3 hV)
        · obtain ⟨W29, hW29⟩ : ∃ W', W' = wd.alloc (.cells #[.int .i64 0, .slice none 0 0, .slice none 0 0, .int .i64 0, .slice none 0 0] 148) := ⟨_, rfl⟩
          have hb29 : Below wd.heap.size wd W29 := by rw [hW29]; exact below_alloc1 _ _
          have hAf29 : Rz W29 wd.heap.size 148 #[.int .i64 0, .slice none 0 0, .slice none 0 0, .int .i64 0, .slice none 0 0] := by rw [hW29]; exact Rz.new _ _ _
          have S29 : Below (wy.heap.size) wy W29 := S0.trans (hb29.mono (Nat.le_trans hB0 S0.size))
          have hGf : wy.heap.size ≤ wd.heap.size := Nat.le_trans hB0 S0.size
          have hlt29 : wd.heap.size < W29.heap.size := by rw [hW29]; simp
          refine op_mem (i := 4) (v := .pointer (some ⟨wd.heap.size, 0, none⟩)) (w' := W29) (some 8) rfl rfl rfl (by rw [hW29]; go_simp) ?_
          refine ⟨S29, ?_⟩
          refine held_two (i := 1) (j := 5) (by kernel_rfl) ?_ ?_
          · refine op_enter (i := 1) (some 26) (f := 140) (args := #[.agg #[.int .i64 p, .slice ad ds.length cap, .slice am ms.length capm]]) rfl rfl rfl (by kernel_rfl) (HDX.out W29 S29) ?_ (fun c w' h => by obtain ⟨_, h, _⟩ := h; cases h) (fun w' h => by obtain ⟨_, h, _⟩ := h; cases h)
            rintro ee W30 ⟨u30, he, hb30, hl30⟩
            injection he with he
            subst he
            obtain ⟨ax30, cx30, hv⟩ := Sl.shape (hl30 _ _ (Nat.le_refl _) (Kp.refl _ _ _))
            subst hv
            have S30 : Below (wy.heap.size) wy W30 := S29.trans (hb30.mono (Nat.le_trans hB0 S29.size))
            have hAf30 := hAf29.next hb30
            have hlt30 := hb30.size
            have hchfx30 := Below.refl W30.heap.size W30
            refine ⟨S30, ?_⟩
            refine held_two (i := 3) (j := 5) (by kernel_rfl) ?_ ?_
            · refine op_enter (i := 3) (some 28) (f := 140) (args := #[.agg #[.int .i64 p, .slice ad2 ds2.length cap2, .slice am2 ms2.length capm2]]) rfl rfl rfl (by kernel_rfl) (HDY.out W30 S30) ?_ (fun c w' h => by obtain ⟨_, h, _⟩ := h; cases h) (fun w' h => by obtain ⟨_, h, _⟩ := h; cases h)
              rintro ee W31 ⟨u31, he, hb31, hl31⟩
              injection he with he
              subst he
              obtain ⟨ax31, cx31, hv⟩ := Sl.shape (hl31 _ _ (Nat.le_refl _) (Kp.refl _ _ _))
              subst hv
              have S31 : Below (wy.heap.size) wy W31 := S30.trans (hb31.mono (Nat.le_trans hB0 S30.size))
              have hAf31 := hAf30.next hb31
              have hchfx_31 := hchfx30.trans (hb31.mono hchfx30.size)
              have hlt31 := hb31.size
              have hchfy31 := Below.refl W31.heap.size W31
              refine ⟨S31, ?_⟩
              refine held_one (i := 5) (by kernel_rfl) ?_
              · obtain ⟨W32, hW32⟩ : ∃ W', W' = W31.alloc (.cells #[.int .i64 0, .slice none 0 0, .slice none 0 0, .int .i64 0, .slice none 0 0] 148) := ⟨_, rfl⟩
                have hb32 : Below W31.heap.size W31 W32 := by rw [hW32]; exact below_alloc1 _ _
                have hAg32 : Rz W32 W31.heap.size 148 #[.int .i64 0, .slice none 0 0, .slice none 0 0, .int .i64 0, .slice none 0 0] := by rw [hW32]; exact Rz.new _ _ _
                have S32 : Below (wy.heap.size) wy W32 := S31.trans (hb32.mono (Nat.le_trans hB0 S31.size))
                have hGg : wy.heap.size ≤ W31.heap.size := Nat.le_trans hB0 S31.size
                have hne : wd.heap.size ≠ W31.heap.size := Nat.ne_of_lt hAf31.lt
                have hAf32 := hAf31.next hb32
                have hchfx_32 := hchfx_31.trans (hb32.mono hchfx_31.size)
                have hchfy_32 := hchfy31.trans (hb32.mono hchfy31.size)
                have hlt32 : W31.heap.size < W32.heap.size := by rw [hW32]; simp
                refine op_mem (i := 5) (v := .pointer (some ⟨W31.heap.size, 0, none⟩)) (w' := W32) (some 9) rfl rfl rfl (by rw [hW32]; go_simp) ?_
                refine ⟨S32, ?_⟩
                have hscx := hchfx_32.size
                have hscy := hchfy_32.size
                have hsx := S29.size
                have hsy2 := S30.size
                have hx1 : (w1.heap.size ≤ wd.heap.size ∧ wd.heap.size < W29.heap.size) ∨ W30.heap.size ≤ wd.heap.size := by omega
                have hx2 : (w1.heap.size ≤ W31.heap.size ∧ W31.heap.size < W29.heap.size) ∨ W30.heap.size ≤ W31.heap.size := by omega
                have hx3 : w1.heap.size ≤ gm ∧ gm < W29.heap.size := by omega
                have hy1 : (w1.heap.size ≤ wd.heap.size ∧ wd.heap.size < W30.heap.size) ∨ W31.heap.size ≤ wd.heap.size := by omega
                have hy2 : (w1.heap.size ≤ W31.heap.size ∧ W31.heap.size < W30.heap.size) ∨ W31.heap.size ≤ W31.heap.size := by omega
                have hy3 : w1.heap.size ≤ gm ∧ gm < W30.heap.size := by omega
                have S33 : Below (wy.heap.size) wy (W32.setRow (wd.heap.size) #[.int .i64 p, .slice ad ds.length cap, .slice am ms.length capm, .int .i64 (-1), .slice ax30 (dfL ds ms).length cx30]) := below_setRow S32 hGf _
                refine held_one (i := 6) (by kernel_rfl) ?_
                refine op_row (i := 6) rfl rfl rfl 148 (.tmp 8) (.tmp 26) rfl (wd.heap.size) #[.int .i64 p, .slice ad ds.length cap, .slice am ms.length capm, .int .i64 (-1), .slice ax30 (dfL ds ms).length cx30] (by kernel_rfl) (by kernel_rfl) 148 _ hAf32 (infoG5 _ _ _ _ _) (by kernel_rfl) (by kernel_rfl) ?_
                refine ⟨S33, ?_⟩
                have hAf33 := hAf32.set #[.int .i64 p, .slice ad ds.length cap, .slice am ms.length capm, .int .i64 (-1), .slice ax30 (dfL ds ms).length cx30]
                have hAg33 := hAg32.off (by first | exact hne | exact hne.symm) #[.int .i64 p, .slice ad ds.length cap, .slice am ms.length capm, .int .i64 (-1), .slice ax30 (dfL ds ms).length cx30]
                have S34 : Below (wy.heap.size) wy ((W32.setRow (wd.heap.size) #[.int .i64 p, .slice ad ds.length cap, .slice am ms.length capm, .int .i64 (-1), .slice ax30 (dfL ds ms).length cx30]).setRow (W31.heap.size) #[.int .i64 p, .slice ad2 ds2.length cap2, .slice am2 ms2.length capm2, .int .i64 (-1), .slice ax31 (dfL ds2 ms2).length cx31]) := below_setRow S33 hGg _
                refine held_one (i := 7) (by kernel_rfl) ?_
                refine op_row (i := 7) rfl rfl rfl 148 (.tmp 9) (.tmp 28) rfl (W31.heap.size) #[.int .i64 p, .slice ad2 ds2.length cap2, .slice am2 ms2.length capm2, .int .i64 (-1), .slice ax31 (dfL ds2 ms2).length cx31] (by kernel_rfl) (by kernel_rfl) 148 _ hAg33 (infoG5 _ _ _ _ _) (by kernel_rfl) (by kernel_rfl) ?_
                refine ⟨S34, ?_⟩
                have hAf34 := hAf33.off (by first | exact hne | exact hne.symm) #[.int .i64 p, .slice ad2 ds2.length cap2, .slice am2 ms2.length capm2, .int .i64 (-1), .slice ax31 (dfL ds2 ms2).length cx31]
                have hAg34 := hAg33.set #[.int .i64 p, .slice ad2 ds2.length cap2, .slice am2 ms2.length capm2, .int .i64 (-1), .slice ax31 (dfL ds2 ms2).length cx31]
                refine wpAnyH_done (by kernel_rfl) ?_ _
                simp only [Act.put, List.setIfInBounds_toArray, List.set_cons_zero, List.set_cons_succ]
                go_wp2
                go_meet
                refine ⟨wd.heap.size, W31.heap.size, (.slice ax30 (dfL ds ms).length cx30), (.slice ax31 (dfL ds2 ms2).length cx31), rfl, rfl, Lib.hid S34, Lib.hid ⟨hGf, hGg⟩, Lib.hid hAf34, Lib.hid hAg34, Lib.hid (fun V hV => ?_), Lib.hid (fun V hV => ?_)⟩
                · exact hl30 W29.heap.size V (Nat.le_refl _) (kp_two hchfx_32 _ _ hx1 hx2 hx3 hV)
                · exact hl31 W30.heap.size V (Nat.le_refl _) (kp_two hchfy_32 _ _ hy1 hy2 hy3 hV)
            · obtain ⟨W35, hW35⟩ : ∃ W', W' = W30.alloc (.cells #[.int .i64 0, .slice none 0 0, .slice none 0 0, .int .i64 0, .slice none 0 0] 148) := ⟨_, rfl⟩
              have hb35 : Below W30.heap.size W30 W35 := by rw [hW35]; exact below_alloc1 _ _
              have hAg35 : Rz W35 W30.heap.size 148 #[.int .i64 0, .slice none 0 0, .slice none 0 0, .int .i64 0, .slice none 0 0] := by rw [hW35]; exact Rz.new _ _ _
              have S35 : Below (wy.heap.size) wy W35 := S30.trans (hb35.mono (Nat.le_trans hB0 S30.size))
              have hGg : wy.heap.size ≤ W30.heap.size := Nat.le_trans hB0 S30.size
              have hne : wd.heap.size ≠ W30.heap.size := Nat.ne_of_lt hAf30.lt
              have hAf35 := hAf30.next hb35
              have hchfx_35 := hchfx30.trans (hb35.mono hchfx30.size)
              have hlt35 : W30.heap.size < W35.heap.size := by rw [hW35]; simp
              refine op_mem (i := 5) (v := .pointer (some ⟨W30.heap.size, 0, none⟩)) (w' := W35) (some 9) rfl rfl rfl (by rw [hW35]; go_simp) ?_
              refine ⟨S35, ?_⟩
              refine held_one (i := 3) (by kernel_rfl) ?_
              · refine op_enter (i := 3) (some 28) (f := 140) (args := #[.agg #[.int .i64 p, .slice ad2 ds2.length cap2, .slice am2 ms2.length capm2]]) rfl rfl rfl (by kernel_rfl) (HDY.out W35 S35) ?_ (fun c w' h => by obtain ⟨_, h, _⟩ := h; cases h) (fun w' h => by obtain ⟨_, h, _⟩ := h; cases h)
                rintro ee W36 ⟨u36, he, hb36, hl36⟩
                injection he with he
                subst he
                obtain ⟨ax36, cx36, hv⟩ := Sl.shape (hl36 _ _ (Nat.le_refl _) (Kp.refl _ _ _))
                subst hv
                have S36 : Below (wy.heap.size) wy W36 := S35.trans (hb36.mono (Nat.le_trans hB0 S35.size))
                have hAf36 := hAf35.next hb36
                have hAg36 := hAg35.next hb36
                have hchfx_36 := hchfx_35.trans (hb36.mono hchfx_35.size)
                have hlt36 := hb36.size
                have hchfy36 := Below.refl W36.heap.size W36
                refine ⟨S36, ?_⟩
                have hscx := hchfx_36.size
                have hscy := hchfy36.size
                have hsx := S29.size
                have hsy2 := S35.size
                have hx1 : (w1.heap.size ≤ wd.heap.size ∧ wd.heap.size < W29.heap.size) ∨ W30.heap.size ≤ wd.heap.size := by omega
                have hx2 : (w1.heap.size ≤ W30.heap.size ∧ W30.heap.size < W29.heap.size) ∨ W30.heap.size ≤ W30.heap.size := by omega
                have hx3 : w1.heap.size ≤ gm ∧ gm < W29.heap.size := by omega
                have hy1 : (w1.heap.size ≤ wd.heap.size ∧ wd.heap.size < W35.heap.size) ∨ W36.heap.size ≤ wd.heap.size := by omega
                have hy2 : (w1.heap.size ≤ W30.heap.size ∧ W30.heap.size < W35.heap.size) ∨ W36.heap.size ≤ W30.heap.size := by omega
                have hy3 : w1.heap.size ≤ gm ∧ gm < W35.heap.size := by omega
                have S37 : Below (wy.heap.size) wy (W36.setRow (wd.heap.size) #[.int .i64 p, .slice ad ds.length cap, .slice am ms.length capm, .int .i64 (-1), .slice ax30 (dfL ds ms).length cx30]) := below_setRow S36 hGf _
                refine held_one (i := 6) (by kernel_rfl) ?_
                refine op_row (i := 6) rfl rfl rfl 148 (.tmp 8) (.tmp 26) rfl (wd.heap.size) #[.int .i64 p, .slice ad ds.length cap, .slice am ms.length capm, .int .i64 (-1), .slice ax30 (dfL ds ms).length cx30] (by kernel_rfl) (by kernel_rfl) 148 _ hAf36 (infoG5 _ _ _ _ _) (by kernel_rfl) (by kernel_rfl) ?_
                refine ⟨S37, ?_⟩
                have hAf37 := hAf36.set #[.int .i64 p, .slice ad ds.length cap, .slice am ms.length capm, .int .i64 (-1), .slice ax30 (dfL ds ms).length cx30]
                have hAg37 := hAg36.off (by first | exact hne | exact hne.symm) #[.int .i64 p, .slice ad ds.length cap, .slice am ms.length capm, .int .i64 (-1), .slice ax30 (dfL ds ms).length cx30]
                have S38 : Below (wy.heap.size) wy ((W36.setRow (wd.heap.size) #[.int .i64 p, .slice ad ds.length cap, .slice am ms.length capm, .int .i64 (-1), .slice ax30 (dfL ds ms).length cx30]).setRow (W30.heap.size) #[.int .i64 p, .slice ad2 ds2.length cap2, .slice am2 ms2.length capm2, .int .i64 (-1), .slice ax36 (dfL ds2 ms2).length cx36]) := below_setRow S37 hGg _
                refine held_one (i := 7) (by kernel_rfl) ?_
                refine op_row (i := 7) rfl rfl rfl 148 (.tmp 9) (.tmp 28) rfl (W30.heap.size) #[.int .i64 p, .slice ad2 ds2.length cap2, .slice am2 ms2.length capm2, .int .i64 (-1), .slice ax36 (dfL ds2 ms2).length cx36] (by kernel_rfl) (by kernel_rfl) 148 _ hAg37 (infoG5 _ _ _ _ _) (by kernel_rfl) (by kernel_rfl) ?_
                refine ⟨S38, ?_⟩
                have hAf38 := hAf37.off (by first | exact hne | exact hne.symm) #[.int .i64 p, .slice ad2 ds2.length cap2, .slice am2 ms2.length capm2, .int .i64 (-1), .slice ax36 (dfL ds2 ms2).length cx36]
                have hAg38 := hAg37.set #[.int .i64 p, .slice ad2 ds2.length cap2, .slice am2 ms2.length capm2, .int .i64 (-1), .slice ax36 (dfL ds2 ms2).length cx36]
                refine wpAnyH_done (by kernel_rfl) ?_ _
                simp only [Act.put, List.setIfInBounds_toArray, List.set_cons_zero, List.set_cons_succ]
                go_wp2
                go_meet
                refine ⟨wd.heap.size, W30.heap.size, (.slice ax30 (dfL ds ms).length cx30), (.slice ax36 (dfL ds2 ms2).length cx36), rfl, rfl, Lib.hid S38, Lib.hid ⟨hGf, hGg⟩, Lib.hid hAf38, Lib.hid hAg38, Lib.hid (fun V hV => ?_), Lib.hid (fun V hV => ?_)⟩
                · exact hl30 W29.heap.size V (Nat.le_refl _) (kp_two hchfx_36 _ _ hx1 hx2 hx3 hV)
                · exact hl36 W35.heap.size V (Nat.le_refl _) (kp_two hchfy36 _ _ hy1 hy2 hy3 hV)
          · obtain ⟨W39, hW39⟩ : ∃ W', W' = W29.alloc (.cells #[.int .i64 0, .slice none 0 0, .slice none 0 0, .int .i64 0, .slice none 0 0] 148) := ⟨_, rfl⟩
            have hb39 : Below W29.heap.size W29 W39 := by rw [hW39]; exact below_alloc1 _ _
            have hAg39 : Rz W39 W29.heap.size 148 #[.int .i64 0, .slice none 0 0, .slice none 0 0, .int .i64 0, .slice none 0 0] := by rw [hW39]; exact Rz.new _ _ _
            have S39 : Below (wy.heap.size) wy W39 := S29.trans (hb39.mono (Nat.le_trans hB0 S29.size))
            have hGg : wy.heap.size ≤ W29.heap.size := Nat.le_trans hB0 S29.size
            have hne : wd.heap.size ≠ W29.heap.size := Nat.ne_of_lt hAf29.lt
            have hAf39 := hAf29.next hb39
            have hlt39 : W29.heap.size < W39.heap.size := by rw [hW39]; simp
            refine op_mem (i := 5) (v := .pointer (some ⟨W29.heap.size, 0, none⟩)) (w' := W39) (some 9) rfl rfl rfl (by rw [hW39]; go_simp) ?_
            refine ⟨S39, ?_⟩
            refine held_one (i := 1) (by kernel_rfl) ?_
            · refine op_enter (i := 1) (some 26) (f := 140) (args := #[.agg #[.int .i64 p, .slice ad ds.length cap, .slice am ms.length capm]]) rfl rfl rfl (by kernel_rfl) (HDX.out W39 S39) ?_ (fun c w' h => by obtain ⟨_, h, _⟩ := h; cases h) (fun w' h => by obtain ⟨_, h, _⟩ := h; cases h)
              rintro ee W40 ⟨u40, he, hb40, hl40⟩
              injection he with he
              subst he
              obtain ⟨ax40, cx40, hv⟩ := Sl.shape (hl40 _ _ (Nat.le_refl _) (Kp.refl _ _ _))
              subst hv
              have S40 : Below (wy.heap.size) wy W40 := S39.trans (hb40.mono (Nat.le_trans hB0 S39.size))
              have hAf40 := hAf39.next hb40
              have hAg40 := hAg39.next hb40
              have hlt40 := hb40.size
              have hchfx40 := Below.refl W40.heap.size W40
              refine ⟨S40, ?_⟩
              refine held_one (i := 3) (by kernel_rfl) ?_
              · refine op_enter (i := 3) (some 28) (f := 140) (args := #[.agg #[.int .i64 p, .slice ad2 ds2.length cap2, .slice am2 ms2.length capm2]]) rfl rfl rfl (by kernel_rfl) (HDY.out W40 S40) ?_ (fun c w' h => by obtain ⟨_, h, _⟩ := h; cases h) (fun w' h => by obtain ⟨_, h, _⟩ := h; cases h)
                rintro ee W41 ⟨u41, he, hb41, hl41⟩
                injection he with he
                subst he
                obtain ⟨ax41, cx41, hv⟩ := Sl.shape (hl41 _ _ (Nat.le_refl _) (Kp.refl _ _ _))
                subst hv
                have S41 : Below (wy.heap.size) wy W41 := S40.trans (hb41.mono (Nat.le_trans hB0 S40.size))
                have hAf41 := hAf40.next hb41
                have hAg41 := hAg40.next hb41
                have hchfx_41 := hchfx40.trans (hb41.mono hchfx40.size)
                have hlt41 := hb41.size
                have hchfy41 := Below.refl W41.heap.size W41
                refine ⟨S41, ?_⟩
                have hscx := hchfx_41.size
                have hscy := hchfy41.size
                have hsx := S39.size
                have hsy2 := S40.size
                have hx1 : (w1.heap.size ≤ wd.heap.size ∧ wd.heap.size < W39.heap.size) ∨ W40.heap.size ≤ wd.heap.size := by omega
                have hx2 : (w1.heap.size ≤ W29.heap.size ∧ W29.heap.size < W39.heap.size) ∨ W40.heap.size ≤ W29.heap.size := by omega
                have hx3 : w1.heap.size ≤ gm ∧ gm < W39.heap.size := by omega
                have hy1 : (w1.heap.size ≤ wd.heap.size ∧ wd.heap.size < W40.heap.size) ∨ W41.heap.size ≤ wd.heap.size := by omega
                have hy2 : (w1.heap.size ≤ W29.heap.size ∧ W29.heap.size < W40.heap.size) ∨ W41.heap.size ≤ W29.heap.size := by omega
                have hy3 : w1.heap.size ≤ gm ∧ gm < W40.heap.size := by omega
                have S42 : Below (wy.heap.size) wy (W41.setRow (wd.heap.size) #[.int .i64 p, .slice ad ds.length cap, .slice am ms.length capm, .int .i64 (-1), .slice ax40 (dfL ds ms).length cx40]) := below_setRow S41 hGf _
                refine held_one (i := 6) (by kernel_rfl) ?_
                refine op_row (i := 6) rfl rfl rfl 148 (.tmp 8) (.tmp 26) rfl (wd.heap.size) #[.int .i64 p, .slice ad ds.length cap, .slice am ms.length capm, .int .i64 (-1), .slice ax40 (dfL ds ms).length cx40] (by kernel_rfl) (by kernel_rfl) 148 _ hAf41 (infoG5 _ _ _ _ _) (by kernel_rfl) (by kernel_rfl) ?_
                refine ⟨S42, ?_⟩
                have hAf42 := hAf41.set #[.int .i64 p, .slice ad ds.length cap, .slice am ms.length capm, .int .i64 (-1), .slice ax40 (dfL ds ms).length cx40]
                have hAg42 := hAg41.off (by first | exact hne | exact hne.symm) #[.int .i64 p, .slice ad ds.length cap, .slice am ms.length capm, .int .i64 (-1), .slice ax40 (dfL ds ms).length cx40]
                have S43 : Below (wy.heap.size) wy ((W41.setRow (wd.heap.size) #[.int .i64 p, .slice ad ds.length cap, .slice am ms.length capm, .int .i64 (-1), .slice ax40 (dfL ds ms).length cx40]).setRow (W29.heap.size) #[.int .i64 p, .slice ad2 ds2.length cap2, .slice am2 ms2.length capm2, .int .i64 (-1), .slice ax41 (dfL ds2 ms2).length cx41]) := below_setRow S42 hGg _
                refine held_one (i := 7) (by kernel_rfl) ?_
                refine op_row (i := 7) rfl rfl rfl 148 (.tmp 9) (.tmp 28) rfl (W29.heap.size) #[.int .i64 p, .slice ad2 ds2.length cap2, .slice am2 ms2.length capm2, .int .i64 (-1), .slice ax41 (dfL ds2 ms2).length cx41] (by kernel_rfl) (by kernel_rfl) 148 _ hAg42 (infoG5 _ _ _ _ _) (by kernel_rfl) (by kernel_rfl) ?_
                refine ⟨S43, ?_⟩
                have hAf43 := hAf42.off (by first | exact hne | exact hne.symm) #[.int .i64 p, .slice ad2 ds2.length cap2, .slice am2 ms2.length capm2, .int .i64 (-1), .slice ax41 (dfL ds2 ms2).length cx41]
                have hAg43 := hAg42.set #[.int .i64 p, .slice ad2 ds2.length cap2, .slice am2 ms2.length capm2, .int .i64 (-1), .slice ax41 (dfL ds2 ms2).length cx41]
                refine wpAnyH_done (by kernel_rfl) ?_ _
                simp only [Act.put, List.setIfInBounds_toArray, List.set_cons_zero, List.set_cons_succ]
                go_wp2
                go_meet
                refine ⟨wd.heap.size, W29.heap.size, (.slice ax40 (dfL ds ms).length cx40), (.slice ax41 (dfL ds2 ms2).length cx41), rfl, rfl, Lib.hid S43, Lib.hid ⟨hGf, hGg⟩, Lib.hid hAf43, Lib.hid hAg43, Lib.hid (fun V hV => ?_), Lib.hid (fun V hV => ?_)⟩
                · exact hl40 W39.heap.size V (Nat.le_refl _) (kp_two hchfx_41 _ _ hx1 hx2 hx3 hV)
                · exact hl41 W40.heap.size V (Nat.le_refl _) (kp_two hchfy41 _ _ hy1 hy2 hy3 hV)
        · obtain ⟨W44, hW44⟩ : ∃ W', W' = wd.alloc (.cells #[.int .i64 0, .slice none 0 0, .slice none 0 0, .int .i64 0, .slice none 0 0] 148) := ⟨_, rfl⟩
          have hb44 : Below wd.heap.size wd W44 := by rw [hW44]; exact below_alloc1 _ _
          have hAg44 : Rz W44 wd.heap.size 148 #[.int .i64 0, .slice none 0 0, .slice none 0 0, .int .i64 0, .slice none 0 0] := by rw [hW44]; exact Rz.new _ _ _
          have S44 : Below (wy.heap.size) wy W44 := S0.trans (hb44.mono (Nat.le_trans hB0 S0.size))
          have hGg : wy.heap.size ≤ wd.heap.size := Nat.le_trans hB0 S0.size
          have hlt44 : wd.heap.size < W44.heap.size := by rw [hW44]; simp
          refine op_mem (i := 5) (v := .pointer (some ⟨wd.heap.size, 0, none⟩)) (w' := W44) (some 9) rfl rfl rfl (by rw [hW44]; go_simp) ?_
          refine ⟨S44, ?_⟩
          refine held_two (i := 1) (j := 4) (by kernel_rfl) ?_ ?_
          · refine op_enter (i := 1) (some 26) (f := 140) (args := #[.agg #[.int .i64 p, .slice ad ds.length cap, .slice am ms.length capm]]) rfl rfl rfl (by kernel_rfl) (HDX.out W44 S44) ?_ (fun c w' h => by obtain ⟨_, h, _⟩ := h; cases h) (fun w' h => by obtain ⟨_, h, _⟩ := h; cases h)
            rintro ee W45 ⟨u45, he, hb45, hl45⟩
            injection he with he
            subst he
            obtain ⟨ax45, cx45, hv⟩ := Sl.shape (hl45 _ _ (Nat.le_refl _) (Kp.refl _ _ _))
            subst hv
            have S45 : Below (wy.heap.size) wy W45 := S44.trans (hb45.mono (Nat.le_trans hB0 S44.size))
            have hAg45 := hAg44.next hb45
            have hlt45 := hb45.size
            have hchfx45 := Below.refl W45.heap.size W45
            refine ⟨S45, ?_⟩
            refine held_two (i := 3) (j := 4) (by kernel_rfl) ?_ ?_
            · refine op_enter (i := 3) (some 28) (f := 140) (args := #[.agg #[.int .i64 p, .slice ad2 ds2.length cap2, .slice am2 ms2.length capm2]]) rfl rfl rfl (by kernel_rfl) (HDY.out W45 S45) ?_ (fun c w' h => by obtain ⟨_, h, _⟩ := h; cases h) (fun w' h => by obtain ⟨_, h, _⟩ := h; cases h)
              rintro ee W46 ⟨u46, he, hb46, hl46⟩
              injection he with he
              subst he
              obtain ⟨ax46, cx46, hv⟩ := Sl.shape (hl46 _ _ (Nat.le_refl _) (Kp.refl _ _ _))
              subst hv
              have S46 : Below (wy.heap.size) wy W46 := S45.trans (hb46.mono (Nat.le_trans hB0 S45.size))
              have hAg46 := hAg45.next hb46
              have hchfx_46 := hchfx45.trans (hb46.mono hchfx45.size)
              have hlt46 := hb46.size
              have hchfy46 := Below.refl W46.heap.size W46
              refine ⟨S46, ?_⟩
              refine held_one (i := 4) (by kernel_rfl) ?_
              · obtain ⟨W47, hW47⟩ : ∃ W', W' = W46.alloc (.cells #[.int .i64 0, .slice none 0 0, .slice none 0 0, .int .i64 0, .slice none 0 0] 148) := ⟨_, rfl⟩
                have hb47 : Below W46.heap.size W46 W47 := by rw [hW47]; exact below_alloc1 _ _
                have hAf47 : Rz W47 W46.heap.size 148 #[.int .i64 0, .slice none 0 0, .slice none 0 0, .int .i64 0, .slice none 0 0] := by rw [hW47]; exact Rz.new _ _ _
                have S47 : Below (wy.heap.size) wy W47 := S46.trans (hb47.mono (Nat.le_trans hB0 S46.size))
                have hGf : wy.heap.size ≤ W46.heap.size := Nat.le_trans hB0 S46.size
                have hne : wd.heap.size ≠ W46.heap.size := Nat.ne_of_lt hAg46.lt
                have hAg47 := hAg46.next hb47
                have hchfx_47 := hchfx_46.trans (hb47.mono hchfx_46.size)
                have hchfy_47 := hchfy46.trans (hb47.mono hchfy46.size)
                have hlt47 : W46.heap.size < W47.heap.size := by rw [hW47]; simp
                refine op_mem (i := 4) (v := .pointer (some ⟨W46.heap.size, 0, none⟩)) (w' := W47) (some 8) rfl rfl rfl (by rw [hW47]; go_simp) ?_
                refine ⟨S47, ?_⟩
                have hscx := hchfx_47.size
                have hscy := hchfy_47.size
                have hsx := S44.size
                have hsy2 := S45.size
                have hx1 : (w1.heap.size ≤ W46.heap.size ∧ W46.heap.size < W44.heap.size) ∨ W45.heap.size ≤ W46.heap.size := by omega
                have hx2 : (w1.heap.size ≤ wd.heap.size ∧ wd.heap.size < W44.heap.size) ∨ W45.heap.size ≤ wd.heap.size := by omega
                have hx3 : w1.heap.size ≤ gm ∧ gm < W44.heap.size := by omega
                have hy1 : (w1.heap.size ≤ W46.heap.size ∧ W46.heap.size < W45.heap.size) ∨ W46.heap.size ≤ W46.heap.size := by omega
                have hy2 : (w1.heap.size ≤ wd.heap.size ∧ wd.heap.size < W45.heap.size) ∨ W46.heap.size ≤ wd.heap.size := by omega
                have hy3 : w1.heap.size ≤ gm ∧ gm < W45.heap.size := by omega
                have S48 : Below (wy.heap.size) wy (W47.setRow (W46.heap.size) #[.int .i64 p, .slice ad ds.length cap, .slice am ms.length capm, .int .i64 (-1), .slice ax45 (dfL ds ms).length cx45]) := below_setRow S47 hGf _
                refine held_one (i := 6) (by kernel_rfl) ?_
                refine op_row (i := 6) rfl rfl rfl 148 (.tmp 8) (.tmp 26) rfl (W46.heap.size) #[.int .i64 p, .slice ad ds.length cap, .slice am ms.length capm, .int .i64 (-1), .slice ax45 (dfL ds ms).length cx45] (by kernel_rfl) (by kernel_rfl) 148 _ hAf47 (infoG5 _ _ _ _ _) (by kernel_rfl) (by kernel_rfl) ?_
                refine ⟨S48, ?_⟩
                have hAg48 := hAg47.off (by first | exact hne | exact hne.symm) #[.int .i64 p, .slice ad ds.length cap, .slice am ms.length capm, .int .i64 (-1), .slice ax45 (dfL ds ms).length cx45]
                have hAf48 := hAf47.set #[.int .i64 p, .slice ad ds.length cap, .slice am ms.length capm, .int .i64 (-1), .slice ax45 (dfL ds ms).length cx45]
                have S49 : Below (wy.heap.size) wy ((W47.setRow (W46.heap.size) #[.int .i64 p, .slice ad ds.length cap, .slice am ms.length capm, .int .i64 (-1), .slice ax45 (dfL ds ms).length cx45]).setRow (wd.heap.size) #[.int .i64 p, .slice ad2 ds2.length cap2, .slice am2 ms2.length capm2, .int .i64 (-1), .slice ax46 (dfL ds2 ms2).length cx46]) := below_setRow S48 hGg _
                refine held_one (i := 7) (by kernel_rfl) ?_
                refine op_row (i := 7) rfl rfl rfl 148 (.tmp 9) (.tmp 28) rfl (wd.heap.size) #[.int .i64 p, .slice ad2 ds2.length cap2, .slice am2 ms2.length capm2, .int .i64 (-1), .slice ax46 (dfL ds2 ms2).length cx46] (by kernel_rfl) (by kernel_rfl) 148 _ hAg48 (infoG5 _ _ _ _ _) (by kernel_rfl) (by kernel_rfl) ?_
                refine ⟨S49, ?_⟩
                have hAg49 := hAg48.set #[.int .i64 p, .slice ad2 ds2.length cap2, .slice am2 ms2.length capm2, .int .i64 (-1), .slice ax46 (dfL ds2 ms2).length cx46]
                have hAf49 := hAf48.off (by first | exact hne | exact hne.symm) #[.int .i64 p, .slice ad2 ds2.length cap2, .slice am2 ms2.length capm2, .int .i64 (-1), .slice ax46 (dfL ds2 ms2).length cx46]
                refine wpAnyH_done (by kernel_rfl) ?_ _
                simp only [Act.put, List.setIfInBounds_toArray, List.set_cons_zero, List.set_cons_succ]
                go_wp2
                go_meet
                refine ⟨W46.heap.size, wd.heap.size, (.slice ax45 (dfL ds ms).length cx45), (.slice ax46 (dfL ds2 ms2).length cx46), rfl, rfl, Lib.hid S49, Lib.hid ⟨hGf, hGg⟩, Lib.hid hAf49, Lib.hid hAg49, Lib.hid (fun V hV => ?_), Lib.hid (fun V hV => ?_)⟩
                · exact hl45 W44.heap.size V (Nat.le_refl _) (kp_two hchfx_47 _ _ hx1 hx2 hx3 hV)
                · exact hl46 W45.heap.size V (Nat.le_refl _) (kp_two hchfy_47 _ _ hy1 hy2 hy3 hV)
            · obtain ⟨W50, hW50⟩ : ∃ W', W' = W45.alloc (.cells #[.int .i64 0, .slice none 0 0, .slice none 0 0, .int .i64 0, .slice none 0 0] 148) := ⟨_, rfl⟩
              have hb50 : Below W45.heap.size W45 W50 := by rw [hW50]; exact below_alloc1 _ _
              have hAf50 : Rz W50 W45.heap.size 148 #[.int .i64 0, .slice none 0 0, .slice none 0 0, .int .i64 0, .slice none 0 0] := by rw [hW50]; exact Rz.new _ _ _
              have S50 : Below (wy.heap.size) wy W50 := S45.trans (hb50.mono (Nat.le_trans hB0 S45.size))
              have hGf : wy.heap.size ≤ W45.heap.size := Nat.le_trans hB0 S45.size
              have hne : wd.heap.size ≠ W45.heap.size := Nat.ne_of_lt hAg45.lt
              have hAg50 := hAg45.next hb50
              have hchfx_50 := hchfx45.trans (hb50.mono hchfx45.size)
              have hlt50 : W45.heap.size < W50.heap.size := by rw [hW50]; simp
              refine op_mem (i := 4) (v := .pointer (some ⟨W45.heap.size, 0, none⟩)) (w' := W50) (some 8) rfl rfl rfl (by rw [hW50]; go_simp) ?_
              refine ⟨S50, ?_⟩
              refine held_one (i := 3) (by kernel_rfl) ?_
              · refine op_enter (i := 3) (some 28) (f := 140) (args := #[.agg #[.int .i64 p, .slice ad2 ds2.length cap2, .slice am2 ms2.length capm2]]) rfl rfl rfl (by kernel_rfl) (HDY.out W50 S50) ?_ (fun c w' h => by obtain ⟨_, h, _⟩ := h; cases h) (fun w' h => by obtain ⟨_, h, _⟩ := h; cases h)
                rintro ee W51 ⟨u51, he, hb51, hl51⟩
                injection he with he
                subst he
                obtain ⟨ax51, cx51, hv⟩ := Sl.shape (hl51 _ _ (Nat.le_refl _) (Kp.refl _ _ _))
                subst hv
                have S51 : Below (wy.heap.size) wy W51 := S50.trans (hb51.mono (Nat.le_trans hB0 S50.size))
                have hAg51 := hAg50.next hb51
                have hAf51 := hAf50.next hb51
                have hchfx_51 := hchfx_50.trans (hb51.mono hchfx_50.size)
                have hlt51 := hb51.size
                have hchfy51 := Below.refl W51.heap.size W51
                refine ⟨S51, ?_⟩
                have hscx := hchfx_51.size
                have hscy := hchfy51.size
                have hsx := S44.size
                have hsy2 := S50.size
                have hx1 : (w1.heap.size ≤ W45.heap.size ∧ W45.heap.size < W44.heap.size) ∨ W45.heap.size ≤ W45.heap.size := by omega
                have hx2 : (w1.heap.size ≤ wd.heap.size ∧ wd.heap.size < W44.heap.size) ∨ W45.heap.size ≤ wd.heap.size := by omega
                have hx3 : w1.heap.size ≤ gm ∧ gm < W44.heap.size := by omega
                have hy1 : (w1.heap.size ≤ W45.heap.size ∧ W45.heap.size < W50.heap.size) ∨ W51.heap.size ≤ W45.heap.size := by omega
                have hy2 : (w1.heap.size ≤ wd.heap.size ∧ wd.heap.size < W50.heap.size) ∨ W51.heap.size ≤ wd.heap.size := by omega
                have hy3 : w1.heap.size ≤ gm ∧ gm < W50.heap.size := by omega
                have S52 : Below (wy.heap.size) wy (W51.setRow (W45.heap.size) #[.int .i64 p, .slice ad ds.length cap, .slice am ms.length capm, .int .i64 (-1), .slice ax45 (dfL ds ms).length cx45]) := below_setRow S51 hGf _
                refine held_one (i := 6) (by kernel_rfl) ?_
                refine op_row (i := 6) rfl rfl rfl 148 (.tmp 8) (.tmp 26) rfl (W45.heap.size) #[.int .i64 p, .slice ad ds.length cap, .slice am ms.length capm, .int .i64 (-1), .slice ax45 (dfL ds ms).length cx45] (by kernel_rfl) (by kernel_rfl) 148 _ hAf51 (infoG5 _ _ _ _ _) (by kernel_rfl) (by kernel_rfl) ?_
                refine ⟨S52, ?_⟩
                have hAg52 := hAg51.off (by first | exact hne | exact hne.symm) #[.int .i64 p, .slice ad ds.length cap, .slice am ms.length capm, .int .i64 (-1), .slice ax45 (dfL ds ms).length cx45]
                have hAf52 := hAf51.set #[.int .i64 p, .slice ad ds.length cap, .slice am ms.length capm, .int .i64 (-1), .slice ax45 (dfL ds ms).length cx45]
                have S53 : Below (wy.heap.size) wy ((W51.setRow (W45.heap.size) #[.int .i64 p, .slice ad ds.length cap, .slice am ms.length capm, .int .i64 (-1), .slice ax45 (dfL ds ms).length cx45]).setRow (wd.heap.size) #[.int .i64 p, .slice ad2 ds2.length cap2, .slice am2 ms2.length capm2, .int .i64 (-1), .slice ax51 (dfL ds2 ms2).length cx51]) := below_setRow S52 hGg _
                refine held_one (i := 7) (by kernel_rfl) ?_
                refine op_row (i := 7) rfl rfl rfl 148 (.tmp 9) (.tmp 28) rfl (wd.heap.size) #[.int .i64 p, .slice ad2 ds2.length cap2, .slice am2 ms2.length capm2, .int .i64 (-1), .slice ax51 (dfL ds2 ms2).length cx51] (by kernel_rfl) (by kernel_rfl) 148 _ hAg52 (infoG5 _ _ _ _ _) (by kernel_rfl) (by kernel_rfl) ?_
                refine ⟨S53, ?_⟩
                have hAg53 := hAg52.set #[.int .i64 p, .slice ad2 ds2.length cap2, .slice am2 ms2.length capm2, .int .i64 (-1), .slice ax51 (dfL ds2 ms2).length cx51]
                have hAf53 := hAf52.off (by first | exact hne | exact hne.symm) #[.int .i64 p, .slice ad2 ds2.length cap2, .slice am2 ms2.length capm2, .int .i64 (-1), .slice ax51 (dfL ds2 ms2).length cx51]
                refine wpAnyH_done (by kernel_rfl) ?_ _
                simp only [Act.put, List.setIfInBounds_toArray, List.set_cons_zero, List.set_cons_succ]
                go_wp2
                go_meet
                refine ⟨W45.heap.size, wd.heap.size, (.slice ax45 (dfL ds ms).length cx45), (.slice ax51 (dfL ds2 ms2).length cx51), rfl, rfl, Lib.hid S53, Lib.hid ⟨hGf, hGg⟩, Lib.hid hAf53, Lib.hid hAg53, Lib.hid (fun V hV => ?_), Lib.hid (fun V hV => ?_)⟩
                · exact hl45 W44.heap.size V (Nat.le_refl _) (kp_two hchfx_51 _ _ hx1 hx2 hx3 hV)
                · exact hl51 W50.heap.size V (Nat.le_refl _) (kp_two hchfy51 _ _ hy1 hy2 hy3 hV)
          · obtain ⟨W54, hW54⟩ : ∃ W', W' = W44.alloc (.cells #[.int .i64 0, .slice none 0 0, .slice none 0 0, .int .i64 0, .slice none 0 0] 148) := ⟨_, rfl⟩
            have hb54 : Below W44.heap.size W44 W54 := by rw [hW54]; exact below_alloc1 _ _
            have hAf54 : Rz W54 W44.heap.size 148 #[.int .i64 0, .slice none 0 0, .slice none 0 0, .int .i64 0, .slice none 0 0] := by rw [hW54]; exact Rz.new _ _ _
            have S54 : Below (wy.heap.size) wy W54 := S44.trans (hb54.mono (Nat.le_trans hB0 S44.size))
            have hGf : wy.heap.size ≤ W44.heap.size := Nat.le_trans hB0 S44.size
            have hne : wd.heap.size ≠ W44.heap.size := Nat.ne_of_lt hAg44.lt
            have hAg54 := hAg44.next hb54
            have hlt54 : W44.heap.size < W54.heap.size := by rw [hW54]; simp
            refine op_mem (i := 4) (v := .pointer (some ⟨W44.heap.size, 0, none⟩)) (w' := W54) (some 8) rfl rfl rfl (by rw [hW54]; go_simp) ?_
            refine ⟨S54, ?_⟩
            refine held_one (i := 1) (by kernel_rfl) ?_
            · refine op_enter (i := 1) (some 26) (f := 140) (args := #[.agg #[.int .i64 p, .slice ad ds.length cap, .slice am ms.length capm]]) rfl rfl rfl (by kernel_rfl) (HDX.out W54 S54) ?_ (fun c w' h => by obtain ⟨_, h, _⟩ := h; cases h) (fun w' h => by obtain ⟨_, h, _⟩ := h; cases h)
              rintro ee W55 ⟨u55, he, hb55, hl55⟩
              injection he with he
              subst he
              obtain ⟨ax55, cx55, hv⟩ := Sl.shape (hl55 _ _ (Nat.le_refl _) (Kp.refl _ _ _))
              subst hv
              have S55 : Below (wy.heap.size) wy W55 := S54.trans (hb55.mono (Nat.le_trans hB0 S54.size))
              have hAg55 := hAg54.next hb55
              have hAf55 := hAf54.next hb55
              have hlt55 := hb55.size
              have hchfx55 := Below.refl W55.heap.size W55
              refine ⟨S55, ?_⟩
              refine held_one (i := 3) (by kernel_rfl) ?_
              · refine op_enter (i := 3) (some 28) (f := 140) (args := #[.agg #[.int .i64 p, .slice ad2 ds2.length cap2, .slice am2 ms2.length capm2]]) rfl rfl rfl (by kernel_rfl) (HDY.out W55 S55) ?_ (fun c w' h => by obtain ⟨_, h, _⟩ := h; cases h) (fun w' h => by obtain ⟨_, h, _⟩ := h; cases h)
                rintro ee W56 ⟨u56, he, hb56, hl56⟩
                injection he with he
                subst he
                obtain ⟨ax56, cx56, hv⟩ := Sl.shape (hl56 _ _ (Nat.le_refl _) (Kp.refl _ _ _))
                subst hv
                have S56 : Below (wy.heap.size) wy W56 := S55.trans (hb56.mono (Nat.le_trans hB0 S55.size))
                have hAg56 := hAg55.next hb56
                have hAf56 := hAf55.next hb56
                have hchfx_56 := hchfx55.trans (hb56.mono hchfx55.size)
                have hlt56 := hb56.size
                have hchfy56 := Below.refl W56.heap.size W56
                refine ⟨S56, ?_⟩
                have hscx := hchfx_56.size
                have hscy := hchfy56.size
                have hsx := S54.size
                have hsy2 := S55.size
                have hx1 : (w1.heap.size ≤ W44.heap.size ∧ W44.heap.size < W54.heap.size) ∨ W55.heap.size ≤ W44.heap.size := by omega
                have hx2 : (w1.heap.size ≤ wd.heap.size ∧ wd.heap.size < W54.heap.size) ∨ W55.heap.size ≤ wd.heap.size := by omega
                have hx3 : w1.heap.size ≤ gm ∧ gm < W54.heap.size := by omega
                have hy1 : (w1.heap.size ≤ W44.heap.size ∧ W44.heap.size < W55.heap.size) ∨ W56.heap.size ≤ W44.heap.size := by omega
                have hy2 : (w1.heap.size ≤ wd.heap.size ∧ wd.heap.size < W55.heap.size) ∨ W56.heap.size ≤ wd.heap.size := by omega
                have hy3 : w1.heap.size ≤ gm ∧ gm < W55.heap.size := by omega
                have S57 : Below (wy.heap.size) wy (W56.setRow (W44.heap.size) #[.int .i64 p, .slice ad ds.length cap, .slice am ms.length capm, .int .i64 (-1), .slice ax55 (dfL ds ms).length cx55]) := below_setRow S56 hGf _
                refine held_one (i := 6) (by kernel_rfl) ?_
                refine op_row (i := 6) rfl rfl rfl 148 (.tmp 8) (.tmp 26) rfl (W44.heap.size) #[.int .i64 p, .slice ad ds.length cap, .slice am ms.length capm, .int .i64 (-1), .slice ax55 (dfL ds ms).length cx55] (by kernel_rfl) (by kernel_rfl) 148 _ hAf56 (infoG5 _ _ _ _ _) (by kernel_rfl) (by kernel_rfl) ?_
                refine ⟨S57, ?_⟩
                have hAg57 := hAg56.off (by first | exact hne | exact hne.symm) #[.int .i64 p, .slice ad ds.length cap, .slice am ms.length capm, .int .i64 (-1), .slice ax55 (dfL ds ms).length cx55]
                have hAf57 := hAf56.set #[.int .i64 p, .slice ad ds.length cap, .slice am ms.length capm, .int .i64 (-1), .slice ax55 (dfL ds ms).length cx55]
                have S58 : Below (wy.heap.size) wy ((W56.setRow (W44.heap.size) #[.int .i64 p, .slice ad ds.length cap, .slice am ms.length capm, .int .i64 (-1), .slice ax55 (dfL ds ms).length cx55]).setRow (wd.heap.size) #[.int .i64 p, .slice ad2 ds2.length cap2, .slice am2 ms2.length capm2, .int .i64 (-1), .slice ax56 (dfL ds2 ms2).length cx56]) := below_setRow S57 hGg _
                refine held_one (i := 7) (by kernel_rfl) ?_
                refine op_row (i := 7) rfl rfl rfl 148 (.tmp 9) (.tmp 28) rfl (wd.heap.size) #[.int .i64 p, .slice ad2 ds2.length cap2, .slice am2 ms2.length capm2, .int .i64 (-1), .slice ax56 (dfL ds2 ms2).length cx56] (by kernel_rfl) (by kernel_rfl) 148 _ hAg57 (infoG5 _ _ _ _ _) (by kernel_rfl) (by kernel_rfl) ?_
                refine ⟨S58, ?_⟩
                have hAg58 := hAg57.set #[.int .i64 p, .slice ad2 ds2.length cap2, .slice am2 ms2.length capm2, .int .i64 (-1), .slice ax56 (dfL ds2 ms2).length cx56]
                have hAf58 := hAf57.off (by first | exact hne | exact hne.symm) #[.int .i64 p, .slice ad2 ds2.length cap2, .slice am2 ms2.length capm2, .int .i64 (-1), .slice ax56 (dfL ds2 ms2).length cx56]
                refine wpAnyH_done (by kernel_rfl) ?_ _
                simp only [Act.put, List.setIfInBounds_toArray, List.set_cons_zero, List.set_cons_succ]
                go_wp2
                go_meet
                refine ⟨W44.heap.size, wd.heap.size, (.slice ax55 (dfL ds ms).length cx55), (.slice ax56 (dfL ds2 ms2).length cx56), rfl, rfl, Lib.hid S58, Lib.hid ⟨hGf, hGg⟩, Lib.hid hAf58, Lib.hid hAg58, Lib.hid (fun V hV => ?_), Lib.hid (fun V hV => ?_)⟩
                · exact hl55 W54.heap.size V (Nat.le_refl _) (kp_two hchfx_56 _ _ hx1 hx2 hx3 hV)
                · exact hl56 W55.heap.size V (Nat.le_refl _) (kp_two hchfy56 _ _ hy1 hy2 hy3 hV)
      case rest =>
        obtain ⟨bf, bg, fx, fy, rfl, rfl, HBv, HGV, HRF, HRG, HFX, HFY⟩ := hcut
        obtain ⟨wv, hwv⟩ : ∃ wv : World, wv = wc := ⟨_, rfl⟩
        subst hwv
        have hsv := HBv.out.size
        have hgv := HGV.out
        have HALL : Hid (∀ W, But gm wv W → TcW p (.slice ad ds.length cap) (.slice am ms.length capm) (.slice ad2 ds2.length cap2) (.slice am2 ms2.length capm2) fx fy ds ms ds2 ms2 G N mb nm bt bf w.heap.size bg W ∧ Prs W base G N f (tsA (bsL ds ds.length) (bsL ds2 ds2.length) (bsL ds ds.length).length) ∧ Rw1 w1.heap.size wz.heap.size W (.slice au nL cu) (tdD ds ds2) ∧ Rz W bc 30 #[.int .i64 p, .slice au nL cu, .slice (some ⟨gm, 0, none⟩) t t] ∧ Rz W (w.heap.size + 2) 30 #[.int .i64 0, .slice none 0 0, .slice none 0 0] ∧ Below w.heap.size w W) := Lib.hid (fun W hW => by
          have b1 : Below wz.heap.size wv W := hW.below (by omega) (by omega)
          have bz : Below wz.heap.size wz W := (HBy.out.trans (HBv.out.mono hsy)).trans b1
          obtain ⟨z1, z2, z3, z4, z5, z6⟩ := HZ1.out W bz
          have bw : Below w1.heap.size w1 W := HBz.out.trans (bz.mono hsz)
          have hz := HR0.out.next bw
          exact ⟨⟨z1, (hW.block bf HRF.out.lt (by omega)).trans HRF.out, (hW.block bg HRG.out.lt (by omega)).trans HRG.out, z5.c0, z3, z5.cx, z6.cx, HFX.out W hW, HFY.out W hW⟩, z2, z4, (hW.block bc (HRC.out.next HBv.out).lt (by omega)).trans (HRC.out.next HBv.out), hz, z5.below⟩)
        have HFI : Hid (Fill3 wv gm t 0 (fun _ => .slice none 0 0) (fun _ => gm + 1) (tcM p ds ms ds2 ms2)) := Lib.hid (Fill3.start (HGM.out.of_block (HBv.out.block _ hgmy)) (by omega) _)
        have hbtz : bt < wz.heap.size := (HZ1.out wz (Below.refl _ _)).1.lt
        have hbfv := HRF.out.lt
        have hbgv := HRG.out.lt
        have hw1s := HS1.out
        have HNUM : Hid (t + 1 = nL ∧ nL = tdL ds ds2 ∧ N = nL ∧ (tcM p ds ms ds2 ms2).length = t) := Lib.hid ⟨HT.out, HLN.out, HNL.out, by rw [tcM_length, ← HLN.out]; have := HT.out; omega⟩
        have HLT : Hid (bt < wz.heap.size ∧ bf < wv.heap.size ∧ bg < wv.heap.size ∧ w1.heap.size = w.heap.size + 3 ∧ w1.heap.size ≤ wz.heap.size ∧ wz.heap.size ≤ wy.heap.size ∧ wy.heap.size ≤ wv.heap.size ∧ wz.heap.size ≤ gm ∧ gm < wy.heap.size) := Lib.hid ⟨hbtz, hbfv, hbgv, hw1s, hsz, hsy, hsv, hgb.2.1, hgmy⟩
        clear HFX HFY HRF HRG HGV HRC HGM HGB HDX HDY hgv hgb hbcy hgmy hsv hsy hsz hbtz hbfv hbgv hw1s
        have e2 : wv.cell? ⟨bc, 2, none⟩ = some (.slice (some ⟨gm, 0, none⟩) t t) := (HALL.out wv (But.refl _ _)).2.2.2.1.cell rfl
        go_wp2
        clear e2
        go_loopw [10, 32] (fun _ i wr => ∃ (k : Nat) (fv : Nat → Value) (bv : Nat → Nat), k ≤ t ∧ i = .int .i64 k ∧ Hid (But gm wv wr) ∧ Hid (Fill3 wr gm t k fv bv (tcM p ds ms ds2 ms2))) (fun _ i _ => t - (intOf i).toNat)
        case atStart => exact ⟨0, _, _, Nat.zero_le _, rfl, Lib.hid (But.refl _ _), HFI⟩
        case round =>
          clear HFI
          obtain ⟨k, fv, bv, hk, rfl, HB, HF⟩ := hrel
          obtain ⟨wx, hwx⟩ : ∃ wx : World, wx = wr := ⟨_, rfl⟩
          subst hwx
          by_cases hlt : k < t
          · have hlk : (k : Int) < (t : Int) := by omega
            have HKLT := Lib.hid hlt
            obtain ⟨wd, hwd⟩ : ∃ wd, wd = wx.drew := ⟨_, rfl⟩
            have HBD : Hid (But gm wv wd) := Lib.hid (by rw [hwd]; exact HB.out.drew)
            have HFD : Hid (Fill3 wd gm t k fv bv (tcM p ds ms ds2 ms2)) := Lib.hid (by rw [hwd]; exact HF.out.below (Below.refl _ _).drew)
            have hklen : k < (tdD ds ds2).length := by rw [tdD_length]; have := HNUM.out; omega
            have hL1 := (HALL.out wd HBD.out).2.2.1.l
            have hnL : (tdD ds ds2).length = nL := by rw [tdD_length]; have := HNUM.out; omega
            rw [← hnL] at hL1
            obtain ⟨bd, od, hau, hdum⟩ := l1_at hL1 hklen
            clear hdum hL1 hnL
            subst hau
            have hatk : (tdD ds ds2)[k] = tdN ds ds2 k := by simp [tdD]
            obtain ⟨c, hc⟩ : ∃ c : Nat, tdN ds ds2 k = (c : Int) := ⟨_, td_n HCX.out HCY.out k⟩
            have hc8 : c ≤ 1048576 := by have h1 := td_n HCX.out HCY.out k; have h2 := plS_bd HCX.out HCY.out (k : Int) ds.length; have h3 := HCX.out.1.len1; omega
            have HCC : Hid (c = (tdN ds ds2 (k + 1 - 1)).toNat) := Lib.hid (by rw [Nat.add_sub_cancel, hc]; omega)
            have HDK : Hid (∀ W, But gm wv W → W.cell? ⟨bd, od + k, none⟩ = some (.int .i64 (c : Int))) := Lib.hid (fun W hW => by
              have h1 := (HALL.out W hW).2.2.1.l
              refine Sl.cases h1 (fun _ _ hx _ => absurd hklen (by simp [hx])) (fun b2 o2 c2 hv _ _ hcl => ?_)
              injection hv with q1
              injection q1 with q1
              injection q1 with q1 q2
              subst q1 q2
              obtain ⟨uu, hu, hr⟩ := hcl k hklen
              rw [hu, hr, hatk, hc])
            have hkn : k < nL := by have := HNUM.out; omega
            have HKN := Lib.hid hkn
            have hwk1 : IntKind.i64.wrap ((k : Int) + 1) = ((k + 1 : Nat) : Int) := by rw [show (k : Int) + 1 = ((k + 1 : Nat) : Int) by omega]; exact IntWalk.i64_in _ (by omega)
            have HIMG := Lib.hid (tableByC_any p p (k + 1) c (plS ds ds2 ((k + 1 : Nat) : Int) ds.length) G N base mb (.slice ad ds.length cap) (.slice am ms.length capm) (.slice ad2 ds2.length cap2) (.slice am2 ms2.length capm2) (.pointer (some ⟨bt, 0, none⟩)) (.pointer (some ⟨bf, 0, none⟩)) (.pointer (some ⟨w.heap.size, 0, none⟩)) (.pointer (some ⟨bg, 0, none⟩)) ds ds2 f (tcZ p ds ms ds2 ms2 (k + 1)) wd (HALL.out wd HBD.out).1.cx.dims (HALL.out wd HBD.out).1.cy.dims (fun n => dimZ_b HCX.out n) (fun n => dimZ_b HCY.out n) (HALL.out wd HBD.out).2.1 (by have := HNUM.out; omega) (by rw [pv_n]) (by have h2 := plS_bd HCX.out HCY.out ((k + 1 : Nat) : Int) ds.length; have h3 := HCX.out.1.len1; omega) hc8 (by
              intro W q i a j b ri rj gi gj g hW hq1 hq hi hj hri hrj ha hb hui huj hrow hg hgi hgj
              have hlt := HLT.out
              have hsd := HBD.out.size
              exact tcImgAt HCX.out HCY.out (fun W2 h2 => (HALL.out W2 ((HBD.out.trans (But.of_below hW)).after h2 (by omega))).1) (by omega) (by omega) (by omega) (by omega) (by omega) HCC.out hq hi hj hri hrj ha hb hui huj hrow hgi hgj))
            clear hklen hatk hc
            go_wp2
            refine wp_region_last (fun W => Hid (But gm wv W)) 13 (by kernel_rfl) rfl (by kernel_rfl) ?_
            rw [← hwd]
            clear hwd
            refine held_take (i := 0) (v := .pointer (some ⟨bc, 2, none⟩)) (some 35) rfl rfl (by kernel_rfl) (by kernel_rfl) (by kernel_rfl) (fun _ _ _ h => h) (yieldsIf_run (by kernel_rfl) (fun W _ => by kernel_rfl)) HBD ?_
            refine held_take (i := 1) (v := .slice (some ⟨gm, 0, none⟩) t t) (some 36) rfl rfl (by kernel_rfl) (by kernel_rfl) (by kernel_rfl) (fun _ _ _ h => h) (yieldsIf_cell (by kernel_rfl) rfl (by kernel_rfl) (fun W h => hloadM W ((HALL.out W h.out).2.2.2.1.cell (i := 2) rfl))) HBD ?_
            refine held_take (i := 2) (v := .int .i64 (k : Int)) (some 37) rfl rfl (by kernel_rfl) (by kernel_rfl) (by kernel_rfl) (fun _ _ _ h => h) (yieldsIf_move (by kernel_rfl) rfl (by kernel_rfl)) HBD ?_
            refine held_take (i := 3) (v := .agg #[.int .i64 p, .slice ad ds.length cap, .slice am ms.length capm, .int .i64 p, .slice ad2 ds2.length cap2, .slice am2 ms2.length capm2, .slice (some ⟨G, 0, none⟩) N N, .map (some mb)]) (some 38) rfl rfl (by kernel_rfl) (by kernel_rfl) (by kernel_rfl) (fun _ _ _ h => h) (yieldsIf_cell (by kernel_rfl) rfl (by kernel_rfl) (fun W h => hload8T W (HALL.out W h.out).1.ts)) HBD ?_
            refine held_take (i := 4) (v := .int .i64 (k : Int)) (some 39) rfl rfl (by kernel_rfl) (by kernel_rfl) (by kernel_rfl) (fun _ _ _ h => h) (yieldsIf_move (by kernel_rfl) rfl (by kernel_rfl)) HBD ?_
            refine held_take (i := 5) (v := .int .i64 ((k + 1 : Nat) : Int)) (some 40) rfl rfl (by kernel_rfl) (by kernel_rfl) (by kernel_rfl) (fun _ _ _ h => h) (yieldsIf_bin (by kernel_rfl) rfl (by kernel_rfl) (by kernel_rfl) (fun _ => rfl) (haddA hwk1)) HBD ?_
            refine held_take (i := 6) (v := .slice (some ⟨bd, od, none⟩) nL cu) (some 41) rfl rfl (by kernel_rfl) (by kernel_rfl) (by kernel_rfl) (fun _ _ _ h => h) (yieldsIf_move (by kernel_rfl) rfl (by kernel_rfl)) HBD ?_
            refine held_take (i := 7) (v := .int .i64 (k : Int)) (some 42) rfl rfl (by kernel_rfl) (by kernel_rfl) (by kernel_rfl) (fun _ _ _ h => h) (yieldsIf_move (by kernel_rfl) rfl (by kernel_rfl)) HBD ?_
            refine held_take (i := 8) (v := .pointer (some ⟨bd, od + k, none⟩)) (some 43) rfl rfl (by kernel_rfl) (by kernel_rfl) (by kernel_rfl) (fun _ _ _ h => h) (yieldsIf_index (by kernel_rfl) rfl (by kernel_rfl) (by kernel_rfl) (hidxI bd od cu HKN.out)) HBD ?_
            refine held_take (i := 9) (v := .int .i64 (c : Int)) (some 44) rfl rfl (by kernel_rfl) (by kernel_rfl) (by kernel_rfl) (fun _ _ _ h => h) (yieldsIf_cell (by kernel_rfl) rfl (by kernel_rfl) (fun W h => hload W (HDK.out W h.out))) HBD ?_
            refine held_take (i := 10) (v := .func (.func 142) #[] #[.pointer (some ⟨bt, 0, none⟩), .pointer (some ⟨bf, 0, none⟩), .pointer (some ⟨w.heap.size, 0, none⟩), .pointer (some ⟨bg, 0, none⟩)]) (some 45) rfl rfl (by kernel_rfl) (by kernel_rfl) (by kernel_rfl) (fun _ _ _ h => h) (yieldsIf_run (by kernel_rfl) (fun W _ => by kernel_rfl)) HBD ?_
            refine held_enter (i := 11) (some 46) (f := 141) (args := #[.agg #[.int .i64 p, .slice ad ds.length cap, .slice am ms.length capm, .int .i64 p, .slice ad2 ds2.length cap2, .slice am2 ms2.length capm2, .slice (some ⟨G, 0, none⟩) N N, .map (some mb)], .int .i64 ((k + 1 : Nat) : Int), .int .i64 (c : Int), .func (.func 142) #[] #[.pointer (some ⟨bt, 0, none⟩), .pointer (some ⟨bf, 0, none⟩), .pointer (some ⟨w.heap.size, 0, none⟩), .pointer (some ⟨bg, 0, none⟩)]]) (by kernel_rfl) rfl rfl rfl (by kernel_rfl) (HIMG.out) ?_ (fun c w' h => by obtain ⟨_, h, _⟩ := h; cases h) (fun w' h => by obtain ⟨_, h, _⟩ := h; cases h)
            rintro ee w5 ⟨g5, he, hg5, htb, hb5⟩
            injection he with he
            subst he
            have HB5 : Hid (But gm wv w5) := Lib.hid (HBD.out.trans (But.of_below hb5))
            refine ⟨HB5, ?_⟩
            refine held_take (i := 12) (v := .pointer (some ⟨gm, 0 + k, none⟩)) (some 47) rfl rfl (by kernel_rfl) (by kernel_rfl) (by kernel_rfl) (fun _ _ _ h => h) (yieldsIf_index (by kernel_rfl) rfl (by kernel_rfl) (by kernel_rfl) (hidxU gm 0 t HKLT.out)) HB5 ?_
            have HF5 := Lib.hid (HFD.out.below hb5)
            have HKT : Hid (k < (tcM p ds ms ds2 ms2).length) := Lib.hid (by have := HNUM.out; omega)
            have HAT : Hid ((tcM p ds ms ds2 ms2)[k]'HKT.out = tableOf (plS ds ds2 ((k + 1 : Nat) : Int) ds.length) c (tcZ p ds ms ds2 ms2 (k + 1))) := Lib.hid (by simp only [tcM, List.getElem_map, List.getElem_range, tcT]; rw [HCC.out, Nat.add_sub_cancel])
            have HFN := Lib.hid (HFD.out.step hb5 HKT.out (by rw [HAT.out]; exact htb.rw2 hg5 (by have h2 := plS_bd HCX.out HCY.out ((k + 1 : Nat) : Int) ds.length; have h3 := HCX.out.1.len1; omega) hc8))
            have z1 := HF5.out.row.cell hlt
            have z2 := HF5.out.row.frozen k
            have HBN : Hid (But gm wv (w5.setCell ⟨gm, k, none⟩ (.slice (some ⟨g5, 0, none⟩) (plS ds ds2 ((k + 1 : Nat) : Int) ds.length) (plS ds ds2 ((k + 1 : Nat) : Int) ds.length)))) := Lib.hid (HB5.out.trans (But.set _ _ _))
            refine held_none (i := 13) (v := .bool false) rfl rfl (by kernel_rfl) (by kernel_rfl) (by kernel_rfl) (fun _ _ _ h => h) (yieldsIf_move (by kernel_rfl) rfl (by kernel_rfl)) HB5 ?_
            refine wpAnyH_done (by kernel_rfl) (lastQ_of rfl (by kernel_rfl) ?_) _
            simp only [Act.put, List.setIfInBounds_toArray, List.set_cons_zero, List.set_cons_succ]
            clear htb hb5 HF5 HIMG hg5
            go_simp
            go_wp2
            go_roundw
            case rel => exact ⟨k + 1, _, _, by omega, by go_num, HBN, HFN⟩
            case measure => simp [intOf]; omega
          · have hlk : ¬ (k : Int) < (t : Int) := by omega
            have hkt : k = t := by omega
            subst hkt
            have hall := HALL.out wx HB.out
            have hlt2 := HLT.out
            have hsx := HB.out.size
            have e0 : wx.cell? ⟨bc, 0, none⟩ = some (.int .i64 p) := hall.2.2.2.1.cell rfl
            have e1 : wx.cell? ⟨bc, 1, none⟩ = some (.slice au nL cu) := hall.2.2.2.1.cell rfl
            have e2 : wx.cell? ⟨bc, 2, none⟩ = some (.slice (some ⟨gm, 0, none⟩) k k) := hall.2.2.2.1.cell rfl
            have HPT := Lib.hid (HF.out.parts (by have := HNUM.out; omega) (by omega))
            have HB0 : Hid (gm < bv 0) := Lib.hid HF.out.lo
            have HDF := Lib.hid hall.2.2.1
            have HRZ := Lib.hid hall.2.2.2.2.1
            have HBW := Lib.hid hall.2.2.2.2.2
            clear hall
            have HR1 : ∃ x0 x1 x2, wx.heap[w.heap.size + 2]? = some (.cells #[x0, x1, x2] 30) := ⟨_, _, _, HRZ.out⟩
            obtain ⟨x0, x1, x2, hr⟩ := HR1
            have r0 : wx.rowIs (w.heap.size + 2) 30 3 (sel3 x0 x1 x2) := rowIs3 hr
            have q0 : wx.cell? ⟨w.heap.size + 2, 0, none⟩ = some x0 := r0.cell (i := 0) (by omega)
            have z0 : wx.frozen? ⟨w.heap.size + 2, 0, none⟩ = false := r0.frozen 0
            have r1 := r0.set 0 (.int .i64 p)
            have q1 : (wx.setCell ⟨w.heap.size + 2, 0, none⟩ (.int .i64 p)).cell? ⟨w.heap.size + 2, 1, none⟩ = some x1 := r1.cell (i := 1) (by omega)
            have z1 : (wx.setCell ⟨w.heap.size + 2, 0, none⟩ (.int .i64 p)).frozen? ⟨w.heap.size + 2, 1, none⟩ = false := r1.frozen 1
            have r2 := r1.set 1 (.slice au nL cu)
            have q2 : ((wx.setCell ⟨w.heap.size + 2, 0, none⟩ (.int .i64 p)).setCell ⟨w.heap.size + 2, 1, none⟩ (.slice au nL cu)).cell? ⟨w.heap.size + 2, 2, none⟩ = some x2 := r2.cell (i := 2) (by omega)
            have z2 : ((wx.setCell ⟨w.heap.size + 2, 0, none⟩ (.int .i64 p)).setCell ⟨w.heap.size + 2, 1, none⟩ (.slice au nL cu)).frozen? ⟨w.heap.size + 2, 2, none⟩ = false := r2.frozen 2
            have r3 := r2.set 2 (.slice (some ⟨gm, 0, none⟩) k k)
            obtain ⟨WF, hWF⟩ : ∃ W : World, W = (((wx.setCell ⟨w.heap.size + 2, 0, none⟩ (.int .i64 p)).setCell ⟨w.heap.size + 2, 1, none⟩ (.slice au nL cu)).setCell ⟨w.heap.size + 2, 2, none⟩ (.slice (some ⟨gm, 0, none⟩) k k)) := ⟨_, rfl⟩
            have hbWF : ∀ B (w0 : World), B ≤ w.heap.size + 2 → Below B w0 wx → Below B w0 WF := fun B w0 hl hb => by rw [hWF]; exact (((hb.setCell (by show B ≤ w.heap.size + 2; exact hl) _).setCell (by show B ≤ w.heap.size + 2; exact hl) _).setCell (by show B ≤ w.heap.size + 2; exact hl) _)
            have hsWF : ∀ lo hi, w.heap.size + 2 < lo ∨ hi ≤ w.heap.size + 2 → Same lo hi wx WF := fun lo hi hl => by rw [hWF]; exact (((Same.set _ hl).trans (Same.set _ hl)).trans (Same.set _ hl))
            have hzWF : WF.heap.size = wx.heap.size := by rw [hWF]; simp
            rw [← hWF] at r3
            have f0 : WF.cell? ⟨w.heap.size + 2, 0, none⟩ = some (.int .i64 p) := r3.cell (i := 0) (by omega)
            have f1 : WF.cell? ⟨w.heap.size + 2, 1, none⟩ = some (.slice au nL cu) := r3.cell (i := 1) (by omega)
            have f2 : WF.cell? ⟨w.heap.size + 2, 2, none⟩ = some (.slice (some ⟨gm, 0, none⟩) k k) := r3.cell (i := 2) (by omega)
            have HWWF := Lib.hid hWF
            clear hr r0 r1 r2 r3 hWF
            have HBF := Lib.hid (hbWF w.heap.size w (by omega) HBW.out)
            have HDW := Lib.hid (HDF.out.same (hsWF _ _ (Or.inl (by omega))))
            have HMW : Hid (W3 gm WF.heap.size WF (.slice (some ⟨gm, 0, none⟩) k k) (tcM p ds ms ds2 ms2) ∧ ∃ J, S3 gm WF.heap.size WF (.slice (some ⟨gm, 0, none⟩) k k) J ∧ Nums (bv 0) WF.heap.size WF J ∧ Disj J ∧ ivSize J ≤ 1152921504606846976) := Lib.hid (by
              obtain ⟨q3, J, s3, n3, d3, z3⟩ := HPT.out
              rw [hzWF]
              have hb0 := HB0.out
              exact ⟨q3.same (hsWF _ _ (Or.inl (by omega))), J, s3.same (hsWF _ _ (Or.inl (by omega))), n3.same (hsWF _ _ (Or.inl (by omega))), d3, z3⟩)
            have hzF := hzWF
            clear hbWF hsWF hzWF
            go_wp2
            rw [← HWWF.out]
            refine bodyPost_ret (v := .agg #[.int .i64 p, .slice au nL cu, .slice (some ⟨gm, 0, none⟩) k k]) ?_ rfl ?_
            · simp only [results, HRES.out]
              go_simp
            · have hb0 := HB0.out
              exact ⟨_, rfl, rwC_two HDW.out HMW.out (by omega) (by omega) (by omega) (by omega) (by omega), HBF.out⟩

end Go.Proofs.Ythfcadgbipnemaa


namespace Go.Proofs.Ythfcadgbipnemaa
open Go.RowKit

def ApB (p : Int) (c : Nat) (v : List Int) (t : List (List Int)) (w : World) (e : Ending) (w' : World) : Prop := ∃ u, e = .returned u ∧ Gb w.heap.size w' u (apT p c v t) ∧ Below w.heap.size w w'
theorem Ap.doneB {w wr : World} {p : Int} {c : Nat} {v : List Int} {t : List (List Int)} (hc : c ≤ 1048576) (ok : ApOk p c v t) (h : Ap w wr 2 p c v t v.length 0) : Gb w.heap.size wr (.slice (some ⟨w.heap.size, 0, none⟩) c c) (apT p c v t) := by
  have hl := apTo_length ok (Nat.le_refl _)
  have h1 : wr.rowIs w.heap.size 2 c (fun i => .int .i64 ((apT p c v t).getD i 0)) := h.row.congr (fun j _ => by simp [apCell, apT])
  have hlen : (apT p c v t).length = c := hl
  exact gb_row h1 hlen (fun i hi => by rw [getD_of_lt _ hi]) (by unfold maxLen; omega) (Nat.le_refl _)
set_option maxHeartbeats 3200000 in
theorem l01ApplyB_any (p : Int) (c : Nat) (va vt : Value) (v : List Int) (t : List (List Int)) (w : World) (ok : ApOk p c v t) (ha : L1 0 w va v) (ht : L2 0 w vt t) (hv : v.length ≤ 1048576) (hc : c ≤ 1048576) :
    Calls Try.prog 131 #[.int .i64 p, vt, va, .int .i64 c] w (ApB p c v t w) := by
  have hmk := run_make_row' (P := Try.prog) 22 2 (.int .i64 0) 8 Try.underlying22 Try.infoI rfl .i64 .i64 c (by omega) (by omega)
  have hp0 := ok.prime.lo
  have hp1 := ok.prime.hi
  have OK := Lib.hid ok
  clear ok
  refine Sl.cases ha (fun ad cap hx hv' => ?_) (fun b o cap hv' _ hpos hcl => ?_)
  · subst hx hv'
    clear ha ht
    go_enter Try.func131, Try.ntmps131
    go_wp2
    refine wp_loop_rounds 1 ?_
    rw [rounds_succ]
    go_wp2
    go_ret
    exact ⟨_, rfl, Ap.doneB (by omega) OK.out (Ap.start _ _ _ _ _ _), (Below.refl _ _).alloc (Nat.le_refl _) _⟩
  · refine Sl.cases ht (fun ad2 cap2 hx2 hv2 => absurd OK.out.len (by subst hx2; simp only [List.length_nil]; omega)) (fun b2 o2 cap2 hv2 _ hpos2 hcl2 => ?_)
    subst hv' hv2
    clear ha ht
    have hlen := OK.out.len
    have HC := Lib.hid hcl
    have HC2 := Lib.hid hcl2
    clear hcl hcl2
    go_enter Try.func131, Try.ntmps131
    go_wp2
    clear hmk
    go_loopw [10, 11] (fun i _ wr => ∃ (k : Nat), k ≤ v.length ∧ i = .int .i64 k ∧ Ap w wr 2 p c v t k 0) (fun i _ _ => v.length - (intOf i).toNat)
    case atStart => exact ⟨0, Nat.zero_le _, rfl, Ap.start _ _ _ _ _ _⟩
    case round =>
      obtain ⟨k, hk, rfl, HA⟩ := hrel
      by_cases hlt2 : k < v.length
      · have hlt3 : k < t.length := by omega
        obtain ⟨u, hu, hr⟩ := HC.out k hlt2
        obtain ⟨u2, hu2, hr2⟩ := HC2.out k hlt3
        have hnum := OK.out.num hlt2
        have hrow := OK.out.row hlt2
        rw [getD_of_lt _ hlt2] at hnum
        rw [getD_of_lt _ hlt3] at hrow
        obtain ⟨f, hf⟩ : ∃ f, f = v[k] := ⟨_, rfl⟩
        obtain ⟨ys, hy⟩ : ∃ ys, ys = t[k] := ⟨_, rfl⟩
        rw [← hf] at hnum
        rw [← hy] at hrow hr2
        obtain ⟨hf0, hf1⟩ := hnum
        have HU : Hid (w.cell? ⟨b, o + k, none⟩ = some (.int .i64 f)) := Lib.hid (by rw [hu, hr, hf])
        have HU2 := Lib.hid hu2
        have HF := Lib.hid hf
        have HY := Lib.hid hy
        have HROW := Lib.hid hrow
        have HR2 := Lib.hid hr2
        have HA' := Lib.hid HA
        clear hf hy hrow HA hu hr hu2 hr2
        obtain ⟨wo, hwo⟩ : ∃ wo : World, wo = wr := ⟨_, rfl⟩
        have HWO := Lib.hid hwo
        clear hwo
        go_wp2
        go_loopw [11] (fun i wr => ∃ (q : Nat), q ≤ c ∧ i = .int .i64 q ∧ Ap w wr 2 p c v t k q) (fun i _ => c - (intOf i).toNat)
        case atStart => exact ⟨0, Nat.zero_le _, rfl, HA'.out⟩
        case round =>
          obtain ⟨q, hq, rfl, HB⟩ := hrel
          by_cases hlt4 : q < c
          · have hl5 : q < ys.length := by have := HROW.out.1; omega
            refine Sl.cases HR2.out (fun ad3 cap3 hx3 hv3 => absurd hl5 (by subst hx3; simp)) (fun b3 o3 cap3 hv3 _ hpos3 hcl3 => ?_)
            obtain ⟨u3, hu3, hr3⟩ := hcl3 q hl5
            have hx := HROW.out.2 _ (List.getElem_mem hl5)
            obtain ⟨x, hxx⟩ : ∃ x, x = ys[q] := ⟨_, rfl⟩
            obtain ⟨a, haa⟩ : ∃ a, a = (apTo p c v t k).getD q 0 := ⟨_, rfl⟩
            have hab := apTo_mod OK.out (Nat.le_of_lt hlt2) q
            have hac := HB.cell hlt4
            have hfz := HB.row.frozen q
            rw [← haa] at hab hac
            rw [← hxx] at hx
            obtain ⟨hx0, hx1⟩ := hx
            obtain ⟨ha0, ha1⟩ := hab
            have hu' : wr.cell? ⟨b, o + k, none⟩ = some (.int .i64 f) := by rw [HB.below.cell (p := ⟨b, o + k, none⟩) (cell_lt HU.out)]; exact HU.out
            have hu2' : wr.cell? ⟨b2, o2 + k, none⟩ = some (.slice (some ⟨b3, o3, none⟩) ys.length cap3) := by rw [HB.below.cell (p := ⟨b2, o2 + k, none⟩) (cell_lt HU2.out)]; rw [HU2.out, hv3]
            have hu3' : wr.cell? ⟨b3, o3 + q, none⟩ = some (.int .i64 x) := by rw [HB.below.cell (p := ⟨b3, o3 + q, none⟩) (cell_lt hu3), hu3, hr3, hxx]
            have m0 : 0 ≤ f * x := Int.mul_nonneg hf0 hx0
            have m1 : f * x ≤ 36 := Int.le_trans (Int.mul_le_mul (show f ≤ 6 by omega) (show x ≤ 6 by omega) hx0 (by omega)) (by omega)
            have HS := Lib.hid (HB.step OK.out hlt2 hlt4 (x := (a + f * x) % p) (by rw [haa, HF.out, hxx, getD_of_lt _ hlt2, getD_of_lt _ hlt3, ← HY.out, getD_of_lt _ hl5]))
            clear HB hu3 hr3 haa hxx hv3 hcl3
            go_wp2
            go_region
            all_goals go_wp2
            all_goals go_roundw
            case rel => exact ⟨q + 1, by omega, by go_num, HS.out.drew⟩
            case measure => simp [intOf]; omega
          · have HB' := Lib.hid HB
            have hqc : Hid (q = c) := Lib.hid (by omega)
            clear HB
            go_wp2
            go_roundw
            case rel => exact ⟨k + 1, by omega, by go_num, Ap.next (by have := HB'.out; rwa [hqc.out] at this)⟩
            case measure => simp [intOf]; omega
      · have hkk : k = v.length := by omega
        subst hkk
        have HA' := Lib.hid HA
        clear HA
        go_wp2
        go_ret
        exact ⟨_, rfl, Ap.doneB (by omega) OK.out HA'.out, HA'.out.below⟩


set_option maxHeartbeats 1600000 in
set_option maxRecDepth 100000 in
theorem l04D_any (p : Int) (i c : Nat) (dv mv va : Value) (ds : List Int) (ms : List (List (List Int))) (vs : List Int) (w : World) (h : Cx 0 w dv mv ds ms) (hcx : IsCx p ds ms) (hi : i < ds.length) (hc : dimZ ds ((i : Int) + (-1)) = (c : Int)) (ha : L1 0 w va vs) (ok : ApOk p c vs (cycT ds ms i)) (hvl : vs.length ≤ 1048576) :
    Calls Try.prog 183 #[.agg #[.int .i64 p, dv, mv], .int .i64 (i : Int), va] w (GbR (apT p c vs (cycT ds ms i)) w) := by
  obtain ⟨ad, cap, rfl⟩ := Sl.shape h.dims
  obtain ⟨am, capm, rfl⟩ := Sl.shape h.maps
  obtain ⟨av, cv, rfl⟩ := Sl.shape ha
  have HX0 := Lib.hid (Bx.start (p := p) 30 h)
  have HCX := Lib.hid hcx
  have HOK := Lib.hid ok
  have hl6 := hcx.1.len1
  have hz := dimZ_b hcx ((i : Int) + (-1))
  have hc8 : c ≤ 8 := by omega
  obtain ⟨w1, hw1⟩ : ∃ w1 : World, w1 = w.alloc (.cells #[.int .i64 p, .slice ad ds.length cap, .slice am ms.length capm] 30) := ⟨_, rfl⟩
  rw [← hw1] at HX0
  have HA1 := Lib.hid (ha.below HX0.out.below)
  have HN1 : Hid (∀ W, Below w1.heap.size w1 W → Bx w W w.heap.size p (.slice ad ds.length cap) (.slice am ms.length capm) ds ms ∧ L1 0 W (.slice av vs.length cv) vs) := Lib.hid (fun W hb => ⟨HX0.out.next hb, HA1.out.below hb⟩)
  have hs1 := HX0.out.below.size
  have HDC := Lib.hid hc
  clear h hcx ha ok hz hc
  go_enter Try.func183, Try.ntmps183
  go_upto_region 1 with fail
  rw [← hw1]
  clear hw1
  by_cases h0 : i = 0
  · have hq : ((i : Int) == 0) = true := by simp [h0]
    have HE : Hid (apT p c vs (cycT ds ms i) = []) := Lib.hid (List.eq_nil_of_length_eq_zero (by have h1 := apT_length' HOK.out; have h2 := HDC.out; rw [dimZ_neg (by omega)] at h2; omega))
    clear h0
    go_wp2
    go_ret
    refine ⟨_, rfl, ?_, HX0.out.below.trans ((below_alloc1 _ _).mono hs1)⟩
    rw [HE.out]
    exact (Gb.new w1 (Nat.le_refl _)).mono hs1
  · have hq : ((i : Int) == 0) = false := by simp [h0]
    have hwk : IntKind.i64.wrap ((i : Int) - 1) = (i : Int) + (-1) := by rw [show (i : Int) - 1 = (i : Int) + (-1) by omega]; exact IntWalk.i64_in _ (by omega)
    clear h0
    go_wp2
    refine wp_region_held (S := fun W => Below w1.heap.size w1 W) (by kernel_rfl) ?_
    have S0 : Below w1.heap.size w1 w1.drew := (Below.refl _ _).drew
    refine held_take (i := 0) (v := .pointer (some ⟨w.heap.size, 0, none⟩)) (some 10) rfl rfl (by kernel_rfl) (by kernel_rfl) (by kernel_rfl) (fun _ _ _ h => h) (yieldsIf_run (by kernel_rfl) (fun W _ => by kernel_rfl)) S0 ?_
    refine held_take (i := 1) (v := .int .i64 p) (some 11) rfl rfl (by kernel_rfl) (by kernel_rfl) (by kernel_rfl) (fun _ _ _ h => h) (yieldsIf_cell (by kernel_rfl) rfl (by kernel_rfl) (fun W h => hload W ((HN1.out W h).1.c0))) S0 ?_
    refine held_take (i := 2) (v := .agg #[.int .i64 p, .slice ad ds.length cap, .slice am ms.length capm]) (some 12) rfl rfl (by kernel_rfl) (by kernel_rfl) (by kernel_rfl) (fun _ _ _ h => h) (yieldsIf_cell (by kernel_rfl) rfl (by kernel_rfl) (fun W h => hload3x (HN1.out W h).1)) S0 ?_
    refine held_take (i := 3) (v := .int .i64 (i : Int)) (some 13) rfl rfl (by kernel_rfl) (by kernel_rfl) (by kernel_rfl) (fun _ _ _ h => h) (yieldsIf_move (by kernel_rfl) rfl (by kernel_rfl)) S0 ?_
    refine held_take (i := 5) (v := .slice av vs.length cv) (some 15) rfl rfl (by kernel_rfl) (by kernel_rfl) (by kernel_rfl) (fun _ _ _ h => h) (yieldsIf_move (by kernel_rfl) rfl (by kernel_rfl)) S0 ?_
    refine held_take (i := 6) (v := .agg #[.int .i64 p, .slice ad ds.length cap, .slice am ms.length capm]) (some 16) rfl rfl (by kernel_rfl) (by kernel_rfl) (by kernel_rfl) (fun _ _ _ h => h) (yieldsIf_cell (by kernel_rfl) rfl (by kernel_rfl) (fun W h => hload3x (HN1.out W h).1)) S0 ?_
    refine held_take (i := 7) (v := .int .i64 (i : Int)) (some 17) rfl rfl (by kernel_rfl) (by kernel_rfl) (by kernel_rfl) (fun _ _ _ h => h) (yieldsIf_move (by kernel_rfl) rfl (by kernel_rfl)) S0 ?_
    refine held_take (i := 8) (v := .int .i64 ((i : Int) + (-1))) (some 18) rfl rfl (by kernel_rfl) (by kernel_rfl) (by kernel_rfl) (fun _ _ _ h => h) (yieldsIf_bin (by kernel_rfl) rfl (by kernel_rfl) (by kernel_rfl) (fun _ => rfl) (hsubA hwk)) S0 ?_
    refine held_enter (i := 4) (some 14) (f := 106) (args := #[.agg #[.int .i64 p, .slice ad ds.length cap, .slice am ms.length capm], .int .i64 (i : Int)]) (by kernel_rfl) rfl rfl rfl (by kernel_rfl) (l01Map_any p (i : Int) _ _ ds ms _ (HN1.out _ S0).1.cx HCX.out) ?_ (fun c w' h => by obtain ⟨_, h, _⟩ := h; cases h) (fun w' h => by obtain ⟨_, h, _⟩ := h; cases h)
    rintro ee w2 ⟨vt, he, hvt, hb2⟩
    injection he with he
    subst he
    have S1 : Below w1.heap.size w1 w2 := S0.trans (hb2.mono S0.size)
    obtain ⟨at', ct, hv⟩ := Sl.shape hvt
    subst hv
    refine ⟨S1, ?_⟩
    refine held_enter (i := 9) (some 19) (f := 135) (args := #[.agg #[.int .i64 p, .slice ad ds.length cap, .slice am ms.length capm], .int .i64 ((i : Int) + (-1))]) (by kernel_rfl) rfl rfl rfl (by kernel_rfl) (l01Dim_any p ((i : Int) + (-1)) _ _ ds ms _ (HN1.out _ S1).1.cx (by omega)) ?_ (fun c w' h => by cases h.1) (fun w' h => by cases h.1)
    rintro ee w3 ⟨he, hb3⟩
    injection he with he
    subst he
    have S2 : Below w1.heap.size w1 w3 := S1.trans (hb3.mono S1.size)
    refine ⟨S2, ?_⟩
    have hvt3 := hvt.below hb3
    have hmz : mapZ ds ms (i : Int) = cycT ds ms i := rfl
    rw [HDC.out]
    refine held_enter (i := 10) (some 20) (f := 131) (args := #[.int .i64 p, .slice at' (mapZ ds ms (i : Int)).length ct, .slice av vs.length cv, .int .i64 (c : Int)]) (by kernel_rfl) rfl rfl rfl (by kernel_rfl) (l01ApplyB_any p c _ _ vs (cycT ds ms i) _ HOK.out (HN1.out _ S2).2 hvt3 hvl (by omega)) ?_ (fun c w' h => by obtain ⟨_, h, _⟩ := h; cases h) (fun w' h => by obtain ⟨_, h, _⟩ := h; cases h)
    rintro ee w4 ⟨u4, he, hu, hb4⟩
    injection he with he
    subst he
    obtain ⟨a4, c4, hv⟩ := Sl.shape hu.l1
    subst hv
    have S3 : Below w1.heap.size w1 w4 := S2.trans (hb4.mono S2.size)
    have HU := Lib.hid (hu.mono (Nat.le_trans hs1 S2.size))
    have HBW := Lib.hid (HN1.out _ S3).1.below
    refine ⟨S3, ?_⟩
    refine held_take (i := 11) (v := .slice a4 (apT p c vs (cycT ds ms i)).length c4) (some 6) rfl rfl (by kernel_rfl) (by kernel_rfl) (by kernel_rfl) (fun _ _ _ h => h) (yieldsIf_assign (by kernel_rfl) rfl (by kernel_rfl)) S3 ?_
    refine wpAnyH_done (by kernel_rfl) ?_ _
    simp only [Act.put, List.setIfInBounds_toArray, List.set_cons_zero, List.set_cons_succ]
    clear S0 S1 S2 S3 hb2 hb3 hb4 hu hvt hvt3
    go_wp2
    go_ret
    exact ⟨_, rfl, HU.out, HBW.out⟩

/-- After k numbers of the first differential. -/
theorem ad_first {p : Int} {Sa E b k : Nat} {xs : List Int} (hb : b < E) (hk : k < xs.length) (hx : ∀ x ∈ xs, 0 ≤ x ∧ x ≤ p - 1) (c : Nat) : adpZ p 1 Sa xs (unL E b) (fun _ => 0) (k + 1) 0 c = if c = Sa + (k * E + b) then xs.getD k 0 else adpZ p 1 Sa xs (unL E b) (fun _ => 0) k 0 c := by
  have hle : (k + 1) * E = k * E + E := Nat.succ_mul k E
  have hbx : 0 ≤ xs.getD k 0 ∧ xs.getD k 0 ≤ p - 1 := by rw [getD_of_lt _ hk]; exact hx _ (List.getElem_mem hk)
  unfold adpZ
  rw [unL_length]
  by_cases h : Sa ≤ c ∧ c < Sa + (k + 1) * E + 0
  · rw [if_pos h]
    obtain ⟨d, rfl⟩ := Nat.exists_eq_add_of_le h.1
    have hd : d < (k + 1) * E := by omega
    rw [show Sa + d - Sa = d by omega]
    have h1 : d / E < k + 1 := Nat.div_lt_of_lt_mul (by rwa [Nat.mul_comm] at hd)
    have h2 : d % E < E := Nat.mod_lt _ (by omega)
    have h3 : d = E * (d / E) + d % E := (Nat.div_add_mod d E).symm
    rw [unL_getD h2]
    by_cases e : d = k * E + b
    · have e1 : d / E = k := by rw [e, Nat.add_comm, Nat.add_mul_div_right _ _ (by omega), Nat.div_eq_of_lt hb, Nat.zero_add]
      have e2 : d % E = b := by rw [e, Nat.add_comm, Nat.add_mul_mod_self_right, Nat.mod_eq_of_lt hb]
      rw [if_pos e2, if_pos (by omega), e1, Int.one_mul, Int.mul_one, Int.zero_add]
      exact Int.emod_eq_of_lt hbx.1 (by omega)
    · rw [if_neg (show ¬ Sa + d = Sa + (k * E + b) by omega)]
      by_cases hlt : d < k * E
      · rw [if_pos (show Sa ≤ Sa + d ∧ Sa + d < Sa + k * E + 0 by omega)]
      · rw [if_neg (show ¬ (Sa ≤ Sa + d ∧ Sa + d < Sa + k * E + 0) by omega)]
        have e1 : d / E = k := by
          have h4 : k ≤ d / E := (Nat.le_div_iff_mul_le (by omega)).2 (by omega)
          omega
        have e2 : ¬ d % E = b := fun e2 => e (by rw [e1, e2, Nat.mul_comm] at h3; exact h3)
        rw [if_neg e2]
        simp
  · rw [if_neg h, if_neg (show ¬ c = Sa + (k * E + b) by omega), if_neg (by omega)]
theorem ad_first0 (p : Int) (Sa : Nat) (xs vs : List Int) (c : Nat) : adpZ p 1 Sa xs vs (fun _ => 0) 0 0 c = 0 := adpZ_zero _ _ _ _ _ _ _
/-- Numbers past the first differential's block are 0. -/
theorem ad_past {p : Int} {Sa a c : Nat} {xs vs : List Int} (h : Sa + a * vs.length ≤ c) : adpZ p 1 Sa xs vs (fun _ => 0) a 0 c = 0 := by
  unfold adpZ
  rw [if_neg (by omega)]
/-- The second differential beside the first one. -/
def tcSec (p f : Int) (S0 : Nat) (ys : List Int) (Z : Nat → Int) (k c : Nat) : Int := if S0 ≤ c ∧ c < S0 + k then f * ys.getD (c - S0) 0 % p else Z c
theorem tcSec_zero (p f : Int) (S0 : Nat) (ys : List Int) (Z : Nat → Int) (c : Nat) : tcSec p f S0 ys Z 0 c = Z c := by
  unfold tcSec
  rw [if_neg (by omega)]
theorem tcSec_put (p f : Int) (S0 : Nat) (ys : List Int) (Z : Nat → Int) (k c : Nat) : tcSec p f S0 ys Z (k + 1) c = if c = S0 + k then f * ys.getD k 0 % p else tcSec p f S0 ys Z k c := by
  unfold tcSec
  by_cases e : c = S0 + k
  · rw [if_pos e, if_pos (by omega), show c - S0 = k by omega]
  · rw [if_neg e]
    by_cases h : S0 ≤ c ∧ c < S0 + k
    · rw [if_pos h, if_pos (by omega)]
    · rw [if_neg h, if_neg (by omega)]
theorem tcSec_skip {p f : Int} {S0 : Nat} {ys : List Int} {Z : Nat → Int} {k : Nat} (hz : ∀ c, S0 ≤ c → Z c = 0) (h0 : ys.getD k 0 = 0) (c : Nat) : tcSec p f S0 ys Z (k + 1) c = tcSec p f S0 ys Z k c := by
  rw [tcSec_put]
  by_cases e : c = S0 + k
  · rw [if_pos e, h0, Int.mul_zero, Int.zero_emod]
    unfold tcSec
    rw [if_neg (by omega), hz c (by omega)]
  · rw [if_neg e]
theorem tcSec_fin {p f : Int} {Sb D a : Nat} {ys : List Int} {Z : Nat → Int} (ha : a < D) (hz : ∀ c, Sb ≤ c → Z c = 0) (c : Nat) : adpZ p f Sb (unL D a) ys Z (unL D a).length 0 c = tcSec p f (Sb + a * ys.length) ys Z ys.length c := by
  obtain ⟨n, hn⟩ : ∃ n, n = ys.length := ⟨_, rfl⟩
  unfold adpZ tcSec
  rw [unL_length, ← hn]
  have hle : (a + 1) * n ≤ D * n := Nat.mul_le_mul_right n ha
  rw [Nat.succ_mul] at hle
  by_cases h : Sb ≤ c ∧ c < Sb + D * n + 0
  · rw [if_pos h, hz c h.1]
    obtain ⟨d, rfl⟩ := Nat.exists_eq_add_of_le h.1
    have hd : d < D * n := by omega
    have hn0 : 0 < n := Nat.pos_of_ne_zero (fun e => by rw [e] at hd; simp at hd)
    rw [show Sb + d - Sb = d by omega]
    have h1 : d / n < D := Nat.div_lt_of_lt_mul (by rwa [Nat.mul_comm] at hd)
    have h2 : d % n < n := Nat.mod_lt _ hn0
    have h3 : d = n * (d / n) + d % n := (Nat.div_add_mod d n).symm
    rw [unL_getD h1]
    by_cases e : d / n = a
    · rw [e, Nat.mul_comm] at h3
      rw [if_pos e, if_pos (show Sb + a * n ≤ Sb + d ∧ Sb + d < Sb + a * n + n by omega), show Sb + d - (Sb + a * n) = d % n by omega, Int.mul_one, Int.zero_add]
    · rw [if_neg e, Int.mul_zero, Int.zero_mul, Int.add_zero, Int.zero_emod]
      have hne : ¬ (Sb + a * n ≤ Sb + d ∧ Sb + d < Sb + a * n + n) := fun hh => e (by
        refine Nat.div_eq_of_lt_le ?_ ?_
        · omega
        · rw [Nat.succ_mul]; omega)
      rw [if_neg hne]
  · rw [if_neg h, if_neg (by omega)]
end Go.Proofs.Ythfcadgbipnemaa

