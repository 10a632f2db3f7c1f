/-
  AddCouples of the model.
-/
import Derived.Test.YtaaficdlckcgkaaAcw
import Derived.Test.YtaaficdlckcgkaaBlk
namespace Go.Proofs.Ytaaficdlckcgkaa
open Go.RowKit
theorem haddI {a b s : Int} (h : IntKind.i64.wrap (a + b) = s) (w : World) : (binOp .add 2 (.int .i64 a) (.int .i64 b)).run Try.prog w = .ok (.int .i64 s) w := by go_simp
theorem Try.infoC6 (a b c d e f : Value) : (Try.prog.info? 40).map (·.size) = some (#[a, b, c, d, e, f] : Array Value).size := by kernel_rfl

theorem owns_offRow {w : World} {base n g : Nat} {e t : TypeId} {u : Value} {xs : List Value} {cs : Array Value} {fr : Nat × Nat} (ho : w.ownsRow base e 1 u n xs) (hg : w.heap[g]? = some (.cells cs t fr)) (h : t ≠ e) (x : Array Value) : (w.setRow g x).ownsRow base e 1 u n xs := by
  refine ⟨ho.1, ?_⟩
  rcases ho.2 with h2 | ⟨g2, cap, cur, hu, hb, hh, r⟩
  · exact Or.inl h2
  · refine Or.inr ⟨g2, cap, cur, hu, hb, ?_, r⟩
    rw [setRow_other w g g2 x (fun e2 => by
      subst e2
      rw [hg] at hh
      simp at hh
      exact h hh.2.1)]
    exact hh
theorem Gs.offRow {base g : Nat} {w : World} {u : Value} {xs : List (List Int)} {t : TypeId} {cs : Array Value} (h : Gs base w u xs) (hg : Rz w g t cs) (ht : t ≠ 2 ∧ t ≠ 22) (x : Array Value) : Gs base (w.setRow g x) u xs := by
  obtain ⟨vs, ho, h1⟩ := h
  exact ⟨vs, owns_offRow ho hg ht.2 x, fun k a b => owns_offRow (h1 k a b) hg ht.1 x⟩

set_option maxHeartbeats 12800000 in
set_option maxRecDepth 100000 in
theorem spAddCouples_any (p d e p2 d2 e2 : Int) (iv jv kv iv2 jv2 kv2 : Value) (il jl kl il2 jl2 kl2 : List (List Int)) (w : World) (h : Cp 0 w iv jv kv il jl kl) (h2 : Cp 0 w iv2 jv2 kv2 il2 jl2 kl2) (hm : CpB 1048576 il jl kl) (hm2 : CpB 1048576 il2 jl2 kl2) :
    Calls Try.prog 39 #[.agg #[.int .i64 p, .int .i64 d, .int .i64 e, iv, jv, kv], .agg #[.int .i64 p2, .int .i64 d2, .int .i64 e2, iv2, jv2, kv2]] w (AnsS (GwCp 0) (fun o => o = adOut p d e il jl kl p2 d2 e2 il2 jl2 kl2) (0, 0, 0, [], [], []) (adCode p d e il jl kl p2 d2 e2 il2 jl2 kl2) w) := by
  have hres : Try.f39.results = #[.cell 4 40, .tmp 5] := by kernel_rfl
  have HRES := Lib.hid hres
  have HM := Lib.hid hm
  have HM2 := Lib.hid hm2
  obtain ⟨wa, hwa⟩ : ∃ wa, wa = (w.alloc (.cells #[.int .i64 p, .int .i64 d, .int .i64 e, iv, jv, kv] 40)).alloc (.cells #[.int .i64 p2, .int .i64 d2, .int .i64 e2, iv2, jv2, kv2] 40) := ⟨_, rfl⟩
  obtain ⟨w1, hw1⟩ : ∃ w1, w1 = wa.alloc (.cells #[.int .i64 0, .int .i64 0, .int .i64 0, .slice none 0 0, .slice none 0 0, .slice none 0 0] 40) := ⟨_, rfl⟩
  have hsa : wa.heap.size = w.heap.size + 2 := by rw [hwa]; simp
  have hs1 : w.heap.size + 3 ≤ w1.heap.size := by rw [hw1]; simp [hsa]
  have hlt0 : w.heap.size < w1.heap.size := by omega
  have hlt1 : w.heap.size + 1 < w1.heap.size := by omega
  have hlt2 : w.heap.size + 2 < w1.heap.size := by omega
  have HX : Hid (BxCp w w1 w.heap.size p d e iv jv kv il jl kl) := Lib.hid (by rw [hw1]; exact (show BxCp w wa w.heap.size p d e iv jv kv il jl kl by rw [hwa]; exact (bxCp_two 40 h h2).1).next (below_alloc1 _ _))
  have HY : Hid (BxCp w w1 (w.heap.size + 1) p2 d2 e2 iv2 jv2 kv2 il2 jl2 kl2) := Lib.hid (by rw [hw1]; exact (show BxCp w wa (w.heap.size + 1) p2 d2 e2 iv2 jv2 kv2 il2 jl2 kl2 by rw [hwa]; exact (bxCp_two 40 h h2).2).next (below_alloc1 _ _))
  have HR0 : Hid (Rz w1 (w.heap.size + 2) 40 #[.int .i64 0, .int .i64 0, .int .i64 0, .slice none 0 0, .slice none 0 0, .slice none 0 0]) := Lib.hid (by rw [hw1, ← hsa]; exact Rz.new _ _ _)
  obtain ⟨⟨ai, ci, rfl⟩, ⟨aj, cj, rfl⟩, ⟨ak, ck, rfl⟩⟩ := HX.out.cx.shapes
  obtain ⟨⟨ai2, ci2, rfl⟩, ⟨aj2, cj2, rfl⟩, ⟨ak2, ck2, rfl⟩⟩ := HY.out.cx.shapes
  have HNX : Hid (∀ W, Below w1.heap.size w1 W → BxCp w W w.heap.size p d e (.slice ai il.length ci) (.slice aj jl.length cj) (.slice ak kl.length ck) il jl kl ∧ BxCp w W (w.heap.size + 1) p2 d2 e2 (.slice ai2 il2.length ci2) (.slice aj2 jl2.length cj2) (.slice ak2 kl2.length ck2) il2 jl2 kl2 ∧ Rz W (w.heap.size + 2) 40 #[.int .i64 0, .int .i64 0, .int .i64 0, .slice none 0 0, .slice none 0 0, .slice none 0 0]) := Lib.hid (fun W hb => ⟨HX.out.next hb, HY.out.next hb, HR0.out.next hb⟩)
  have HB0 : Hid (Below w1.heap.size w1 w1) := Lib.hid (Below.refl _ _)
  have HBW : Hid (Below w.heap.size w w1) := Lib.hid (HNX.out _ HB0.out).1.below
  have HCX := Lib.hid (And.intro h h2)
  clear h h2 hm hm2 hres
  have c0 := HX.out.c0
  have c1 := HX.out.c1
  have c2 := HX.out.c2
  have c3 := HX.out.c3
  have c4 := HX.out.c4
  have c5 := HX.out.c5
  have yc0 := HY.out.c0
  have yc1 := HY.out.c1
  have yc2 := HY.out.c2
  have yc3 := HY.out.c3
  have yc4 := HY.out.c4
  have yc5 := HY.out.c5
  clear HX HY HR0
  go_enter Try.func39, Try.ntmps39
  go_upto_region 1 with fail
  rw [← hwa, ← hw1]
  clear hwa hw1 hsa
  by_cases hc : ¬ IsCp p d e il jl kl
  · have HC := Lib.hid hc
    have HCODE : Hid (adCode p d e il jl kl p2 d2 e2 il2 jl2 kl2 = 1) := Lib.hid (by unfold adCode; rw [if_pos (fun k => hc k.1)])
    clear hc
    go_wp2_with fail
    refine (l05Is_any p d e _ _ _ il jl kl _ (HNX.out _ HB0.out).1.cx HM.out).mono ?_
    rintro ee wA ⟨b, rfl, hb, hbb⟩
    obtain rfl : b = false := bb_no hbb HC.out
    clear hbb
    have HBA := Lib.hid (HB0.out.trans (hb.mono HB0.out.size))
    clear c0 c1 c2 c3 c4 c5 yc0 yc1 yc2 yc3 yc4 yc5
    clear hb
    have c0 := (HNX.out _ HBA.out).1.c0
    have c1 := (HNX.out _ HBA.out).1.c1
    have c2 := (HNX.out _ HBA.out).1.c2
    have c3 := (HNX.out _ HBA.out).1.c3
    have c4 := (HNX.out _ HBA.out).1.c4
    have c5 := (HNX.out _ HBA.out).1.c5
    have yc0 := (HNX.out _ HBA.out).2.1.c0
    have yc1 := (HNX.out _ HBA.out).2.1.c1
    have yc2 := (HNX.out _ HBA.out).2.1.c2
    have yc3 := (HNX.out _ HBA.out).2.1.c3
    have yc4 := (HNX.out _ HBA.out).2.1.c4
    have yc5 := (HNX.out _ HBA.out).2.1.c5
    have HR1 : ∃ x0 x1 x2 x3 x4 x5, wA.heap[w.heap.size + 2]? = some (.cells #[x0, x1, x2, x3, x4, x5] 40) := ⟨_, _, _, _, _, _, (HNX.out _ HBA.out).2.2⟩
    obtain ⟨x0, x1, x2, x3, x4, x5, hr⟩ := HR1
    have r0 : wA.rowIs (w.heap.size + 2) 40 6 (sel6 x0 x1 x2 x3 x4 x5) := rowIs6 hr
    have q0 : wA.cell? ⟨w.heap.size + 2, 0, none⟩ = some x0 := r0.cell (i := 0) (by omega)
    have z0 : wA.frozen? ⟨w.heap.size + 2, 0, none⟩ = false := r0.frozen 0
    have r1 := r0.set 0 (.int .i64 0)
    have q1 : (wA.setCell ⟨w.heap.size + 2, 0, none⟩ (.int .i64 0)).cell? ⟨w.heap.size + 2, 1, none⟩ = some x1 := r1.cell (i := 1) (by omega)
    have z1 : (wA.setCell ⟨w.heap.size + 2, 0, none⟩ (.int .i64 0)).frozen? ⟨w.heap.size + 2, 1, none⟩ = false := r1.frozen 1
    have r2 := r1.set 1 (.int .i64 0)
    have q2 : ((wA.setCell ⟨w.heap.size + 2, 0, none⟩ (.int .i64 0)).setCell ⟨w.heap.size + 2, 1, none⟩ (.int .i64 0)).cell? ⟨w.heap.size + 2, 2, none⟩ = some x2 := r2.cell (i := 2) (by omega)
    have z2 : ((wA.setCell ⟨w.heap.size + 2, 0, none⟩ (.int .i64 0)).setCell ⟨w.heap.size + 2, 1, none⟩ (.int .i64 0)).frozen? ⟨w.heap.size + 2, 2, none⟩ = false := r2.frozen 2
    have r3 := r2.set 2 (.int .i64 0)
    have q3 : (((wA.setCell ⟨w.heap.size + 2, 0, none⟩ (.int .i64 0)).setCell ⟨w.heap.size + 2, 1, none⟩ (.int .i64 0)).setCell ⟨w.heap.size + 2, 2, none⟩ (.int .i64 0)).cell? ⟨w.heap.size + 2, 3, none⟩ = some x3 := r3.cell (i := 3) (by omega)
    have z3 : (((wA.setCell ⟨w.heap.size + 2, 0, none⟩ (.int .i64 0)).setCell ⟨w.heap.size + 2, 1, none⟩ (.int .i64 0)).setCell ⟨w.heap.size + 2, 2, none⟩ (.int .i64 0)).frozen? ⟨w.heap.size + 2, 3, none⟩ = false := r3.frozen 3
    have r4 := r3.set 3 (.slice none 0 0)
    have q4 : ((((wA.setCell ⟨w.heap.size + 2, 0, none⟩ (.int .i64 0)).setCell ⟨w.heap.size + 2, 1, none⟩ (.int .i64 0)).setCell ⟨w.heap.size + 2, 2, none⟩ (.int .i64 0)).setCell ⟨w.heap.size + 2, 3, none⟩ (.slice none 0 0)).cell? ⟨w.heap.size + 2, 4, none⟩ = some x4 := r4.cell (i := 4) (by omega)
    have z4 : ((((wA.setCell ⟨w.heap.size + 2, 0, none⟩ (.int .i64 0)).setCell ⟨w.heap.size + 2, 1, none⟩ (.int .i64 0)).setCell ⟨w.heap.size + 2, 2, none⟩ (.int .i64 0)).setCell ⟨w.heap.size + 2, 3, none⟩ (.slice none 0 0)).frozen? ⟨w.heap.size + 2, 4, none⟩ = false := r4.frozen 4
    have r5 := r4.set 4 (.slice none 0 0)
    have q5 : (((((wA.setCell ⟨w.heap.size + 2, 0, none⟩ (.int .i64 0)).setCell ⟨w.heap.size + 2, 1, none⟩ (.int .i64 0)).setCell ⟨w.heap.size + 2, 2, none⟩ (.int .i64 0)).setCell ⟨w.heap.size + 2, 3, none⟩ (.slice none 0 0)).setCell ⟨w.heap.size + 2, 4, none⟩ (.slice none 0 0)).cell? ⟨w.heap.size + 2, 5, none⟩ = some x5 := r5.cell (i := 5) (by omega)
    have z5 : (((((wA.setCell ⟨w.heap.size + 2, 0, none⟩ (.int .i64 0)).setCell ⟨w.heap.size + 2, 1, none⟩ (.int .i64 0)).setCell ⟨w.heap.size + 2, 2, none⟩ (.int .i64 0)).setCell ⟨w.heap.size + 2, 3, none⟩ (.slice none 0 0)).setCell ⟨w.heap.size + 2, 4, none⟩ (.slice none 0 0)).frozen? ⟨w.heap.size + 2, 5, none⟩ = false := r5.frozen 5
    have r6 := r5.set 5 (.slice none 0 0)
    obtain ⟨WF, hWF⟩ : ∃ W : World, W = ((((((wA.setCell ⟨w.heap.size + 2, 0, none⟩ (.int .i64 0)).setCell ⟨w.heap.size + 2, 1, none⟩ (.int .i64 0)).setCell ⟨w.heap.size + 2, 2, none⟩ (.int .i64 0)).setCell ⟨w.heap.size + 2, 3, none⟩ (.slice none 0 0)).setCell ⟨w.heap.size + 2, 4, none⟩ (.slice none 0 0)).setCell ⟨w.heap.size + 2, 5, none⟩ (.slice none 0 0)) := ⟨_, rfl⟩
    have hbWF : ∀ B (w0 : World), B ≤ w.heap.size + 2 → Below B w0 wA → Below B w0 WF := fun B w0 hl hb => by rw [hWF]; exact ((((((hb.setCell (by show B ≤ w.heap.size + 2; exact hl) _).setCell (by show B ≤ w.heap.size + 2; exact hl) _).setCell (by show B ≤ w.heap.size + 2; exact hl) _).setCell (by show B ≤ w.heap.size + 2; exact hl) _).setCell (by show B ≤ w.heap.size + 2; exact hl) _).setCell (by show B ≤ w.heap.size + 2; exact hl) _)
    have hsWF : ∀ lo hi, w.heap.size + 2 < lo ∨ hi ≤ w.heap.size + 2 → Same lo hi wA WF := fun lo hi hl => by rw [hWF]; exact ((((((Same.set _ hl).trans (Same.set _ hl)).trans (Same.set _ hl)).trans (Same.set _ hl)).trans (Same.set _ hl)).trans (Same.set _ hl))
    have hzWF : WF.heap.size = wA.heap.size := by rw [hWF]; simp
    rw [← hWF] at r6
    have f0 : WF.cell? ⟨w.heap.size + 2, 0, none⟩ = some (.int .i64 0) := r6.cell (i := 0) (by omega)
    have f1 : WF.cell? ⟨w.heap.size + 2, 1, none⟩ = some (.int .i64 0) := r6.cell (i := 1) (by omega)
    have f2 : WF.cell? ⟨w.heap.size + 2, 2, none⟩ = some (.int .i64 0) := r6.cell (i := 2) (by omega)
    have f3 : WF.cell? ⟨w.heap.size + 2, 3, none⟩ = some (.slice none 0 0) := r6.cell (i := 3) (by omega)
    have f4 : WF.cell? ⟨w.heap.size + 2, 4, none⟩ = some (.slice none 0 0) := r6.cell (i := 4) (by omega)
    have f5 : WF.cell? ⟨w.heap.size + 2, 5, none⟩ = some (.slice none 0 0) := r6.cell (i := 5) (by omega)
    have HWWF := Lib.hid hWF
    clear hr r0 r1 r2 r3 r4 r5 r6 hWF
    have HBF := Lib.hid (hbWF w.heap.size w (by omega) (HNX.out _ HBA.out).1.below)
    clear hsWF hbWF hzWF
    go_wp2
    rw [← HWWF.out]
    refine bodyPost_ret (v := .tuple #[.agg #[.int .i64 0, .int .i64 0, .int .i64 0, .slice none 0 0, .slice none 0 0, .slice none 0 0], .int .i64 1]) ?_ rfl ?_
    · simp only [results, HRES.out]
      go_simp
    · exact ⟨_, (0, 0, 0, [], [], []), 1, rfl, GwCp.nil _ _, HBF.out, by rw [HCODE.out]; exact RsOut.of_no (by decide)⟩
  have HC := Lib.hid (Classical.not_not.1 hc)
  clear hc
  go_wp2_with fail
  refine (l05Is_any p d e _ _ _ il jl kl _ (HNX.out _ HB0.out).1.cx HM.out).mono ?_
  rintro ee wA ⟨b, rfl, hb, hbb⟩
  obtain rfl : b = true := hbb.2 HC.out
  clear hbb
  have HBA := Lib.hid (HB0.out.trans (hb.mono HB0.out.size))
  clear c0 c1 c2 c3 c4 c5 yc0 yc1 yc2 yc3 yc4 yc5
  clear hb
  have c0 := (HNX.out _ HBA.out).1.c0
  have c1 := (HNX.out _ HBA.out).1.c1
  have c2 := (HNX.out _ HBA.out).1.c2
  have c3 := (HNX.out _ HBA.out).1.c3
  have c4 := (HNX.out _ HBA.out).1.c4
  have c5 := (HNX.out _ HBA.out).1.c5
  have yc0 := (HNX.out _ HBA.out).2.1.c0
  have yc1 := (HNX.out _ HBA.out).2.1.c1
  have yc2 := (HNX.out _ HBA.out).2.1.c2
  have yc3 := (HNX.out _ HBA.out).2.1.c3
  have yc4 := (HNX.out _ HBA.out).2.1.c4
  have yc5 := (HNX.out _ HBA.out).2.1.c5
  by_cases hc : ¬ IsCp p2 d2 e2 il2 jl2 kl2
  · have HC2 := Lib.hid hc
    have HCODE : Hid (adCode p d e il jl kl p2 d2 e2 il2 jl2 kl2 = 1) := Lib.hid (by unfold adCode; rw [if_pos (fun k => hc k.2)])
    clear hc
    go_wp2_with fail
    refine (l05Is_any p2 d2 e2 _ _ _ il2 jl2 kl2 _ (HNX.out _ HBA.out).2.1.cx HM2.out).mono ?_
    rintro ee wB ⟨b, rfl, hb, hbb⟩
    obtain rfl : b = false := bb_no hbb HC2.out
    clear hbb
    have HBB := Lib.hid (HBA.out.trans (hb.mono HBA.out.size))
    clear c0 c1 c2 c3 c4 c5 yc0 yc1 yc2 yc3 yc4 yc5
    clear hb
    have c0 := (HNX.out _ HBB.out).1.c0
    have c1 := (HNX.out _ HBB.out).1.c1
    have c2 := (HNX.out _ HBB.out).1.c2
    have c3 := (HNX.out _ HBB.out).1.c3
    have c4 := (HNX.out _ HBB.out).1.c4
    have c5 := (HNX.out _ HBB.out).1.c5
    have yc0 := (HNX.out _ HBB.out).2.1.c0
    have yc1 := (HNX.out _ HBB.out).2.1.c1
    have yc2 := (HNX.out _ HBB.out).2.1.c2
    have yc3 := (HNX.out _ HBB.out).2.1.c3
    have yc4 := (HNX.out _ HBB.out).2.1.c4
    have yc5 := (HNX.out _ HBB.out).2.1.c5
    have HR1 : ∃ x0 x1 x2 x3 x4 x5, wB.heap[w.heap.size + 2]? = some (.cells #[x0, x1, x2, x3, x4, x5] 40) := ⟨_, _, _, _, _, _, (HNX.out _ HBB.out).2.2⟩
    obtain ⟨x0, x1, x2, x3, x4, x5, hr⟩ := HR1
    have r0 : wB.rowIs (w.heap.size + 2) 40 6 (sel6 x0 x1 x2 x3 x4 x5) := rowIs6 hr
    have q0 : wB.cell? ⟨w.heap.size + 2, 0, none⟩ = some x0 := r0.cell (i := 0) (by omega)
    have z0 : wB.frozen? ⟨w.heap.size + 2, 0, none⟩ = false := r0.frozen 0
    have r1 := r0.set 0 (.int .i64 0)
    have q1 : (wB.setCell ⟨w.heap.size + 2, 0, none⟩ (.int .i64 0)).cell? ⟨w.heap.size + 2, 1, none⟩ = some x1 := r1.cell (i := 1) (by omega)
    have z1 : (wB.setCell ⟨w.heap.size + 2, 0, none⟩ (.int .i64 0)).frozen? ⟨w.heap.size + 2, 1, none⟩ = false := r1.frozen 1
    have r2 := r1.set 1 (.int .i64 0)
    have q2 : ((wB.setCell ⟨w.heap.size + 2, 0, none⟩ (.int .i64 0)).setCell ⟨w.heap.size + 2, 1, none⟩ (.int .i64 0)).cell? ⟨w.heap.size + 2, 2, none⟩ = some x2 := r2.cell (i := 2) (by omega)
    have z2 : ((wB.setCell ⟨w.heap.size + 2, 0, none⟩ (.int .i64 0)).setCell ⟨w.heap.size + 2, 1, none⟩ (.int .i64 0)).frozen? ⟨w.heap.size + 2, 2, none⟩ = false := r2.frozen 2
    have r3 := r2.set 2 (.int .i64 0)
    have q3 : (((wB.setCell ⟨w.heap.size + 2, 0, none⟩ (.int .i64 0)).setCell ⟨w.heap.size + 2, 1, none⟩ (.int .i64 0)).setCell ⟨w.heap.size + 2, 2, none⟩ (.int .i64 0)).cell? ⟨w.heap.size + 2, 3, none⟩ = some x3 := r3.cell (i := 3) (by omega)
    have z3 : (((wB.setCell ⟨w.heap.size + 2, 0, none⟩ (.int .i64 0)).setCell ⟨w.heap.size + 2, 1, none⟩ (.int .i64 0)).setCell ⟨w.heap.size + 2, 2, none⟩ (.int .i64 0)).frozen? ⟨w.heap.size + 2, 3, none⟩ = false := r3.frozen 3
    have r4 := r3.set 3 (.slice none 0 0)
    have q4 : ((((wB.setCell ⟨w.heap.size + 2, 0, none⟩ (.int .i64 0)).setCell ⟨w.heap.size + 2, 1, none⟩ (.int .i64 0)).setCell ⟨w.heap.size + 2, 2, none⟩ (.int .i64 0)).setCell ⟨w.heap.size + 2, 3, none⟩ (.slice none 0 0)).cell? ⟨w.heap.size + 2, 4, none⟩ = some x4 := r4.cell (i := 4) (by omega)
    have z4 : ((((wB.setCell ⟨w.heap.size + 2, 0, none⟩ (.int .i64 0)).setCell ⟨w.heap.size + 2, 1, none⟩ (.int .i64 0)).setCell ⟨w.heap.size + 2, 2, none⟩ (.int .i64 0)).setCell ⟨w.heap.size + 2, 3, none⟩ (.slice none 0 0)).frozen? ⟨w.heap.size + 2, 4, none⟩ = false := r4.frozen 4
    have r5 := r4.set 4 (.slice none 0 0)
    have q5 : (((((wB.setCell ⟨w.heap.size + 2, 0, none⟩ (.int .i64 0)).setCell ⟨w.heap.size + 2, 1, none⟩ (.int .i64 0)).setCell ⟨w.heap.size + 2, 2, none⟩ (.int .i64 0)).setCell ⟨w.heap.size + 2, 3, none⟩ (.slice none 0 0)).setCell ⟨w.heap.size + 2, 4, none⟩ (.slice none 0 0)).cell? ⟨w.heap.size + 2, 5, none⟩ = some x5 := r5.cell (i := 5) (by omega)
    have z5 : (((((wB.setCell ⟨w.heap.size + 2, 0, none⟩ (.int .i64 0)).setCell ⟨w.heap.size + 2, 1, none⟩ (.int .i64 0)).setCell ⟨w.heap.size + 2, 2, none⟩ (.int .i64 0)).setCell ⟨w.heap.size + 2, 3, none⟩ (.slice none 0 0)).setCell ⟨w.heap.size + 2, 4, none⟩ (.slice none 0 0)).frozen? ⟨w.heap.size + 2, 5, none⟩ = false := r5.frozen 5
    have r6 := r5.set 5 (.slice none 0 0)
    obtain ⟨WF, hWF⟩ : ∃ W : World, W = ((((((wB.setCell ⟨w.heap.size + 2, 0, none⟩ (.int .i64 0)).setCell ⟨w.heap.size + 2, 1, none⟩ (.int .i64 0)).setCell ⟨w.heap.size + 2, 2, none⟩ (.int .i64 0)).setCell ⟨w.heap.size + 2, 3, none⟩ (.slice none 0 0)).setCell ⟨w.heap.size + 2, 4, none⟩ (.slice none 0 0)).setCell ⟨w.heap.size + 2, 5, none⟩ (.slice none 0 0)) := ⟨_, rfl⟩
    have hbWF : ∀ B (w0 : World), B ≤ w.heap.size + 2 → Below B w0 wB → Below B w0 WF := fun B w0 hl hb => by rw [hWF]; exact ((((((hb.setCell (by show B ≤ w.heap.size + 2; exact hl) _).setCell (by show B ≤ w.heap.size + 2; exact hl) _).setCell (by show B ≤ w.heap.size + 2; exact hl) _).setCell (by show B ≤ w.heap.size + 2; exact hl) _).setCell (by show B ≤ w.heap.size + 2; exact hl) _).setCell (by show B ≤ w.heap.size + 2; exact hl) _)
    have hsWF : ∀ lo hi, w.heap.size + 2 < lo ∨ hi ≤ w.heap.size + 2 → Same lo hi wB WF := fun lo hi hl => by rw [hWF]; exact ((((((Same.set _ hl).trans (Same.set _ hl)).trans (Same.set _ hl)).trans (Same.set _ hl)).trans (Same.set _ hl)).trans (Same.set _ hl))
    have hzWF : WF.heap.size = wB.heap.size := by rw [hWF]; simp
    rw [← hWF] at r6
    have f0 : WF.cell? ⟨w.heap.size + 2, 0, none⟩ = some (.int .i64 0) := r6.cell (i := 0) (by omega)
    have f1 : WF.cell? ⟨w.heap.size + 2, 1, none⟩ = some (.int .i64 0) := r6.cell (i := 1) (by omega)
    have f2 : WF.cell? ⟨w.heap.size + 2, 2, none⟩ = some (.int .i64 0) := r6.cell (i := 2) (by omega)
    have f3 : WF.cell? ⟨w.heap.size + 2, 3, none⟩ = some (.slice none 0 0) := r6.cell (i := 3) (by omega)
    have f4 : WF.cell? ⟨w.heap.size + 2, 4, none⟩ = some (.slice none 0 0) := r6.cell (i := 4) (by omega)
    have f5 : WF.cell? ⟨w.heap.size + 2, 5, none⟩ = some (.slice none 0 0) := r6.cell (i := 5) (by omega)
    have HWWF := Lib.hid hWF
    clear hr r0 r1 r2 r3 r4 r5 r6 hWF
    have HBF := Lib.hid (hbWF w.heap.size w (by omega) (HNX.out _ HBB.out).1.below)
    clear hsWF hbWF hzWF
    go_wp2
    rw [← HWWF.out]
    refine bodyPost_ret (v := .tuple #[.agg #[.int .i64 0, .int .i64 0, .int .i64 0, .slice none 0 0, .slice none 0 0, .slice none 0 0], .int .i64 1]) ?_ rfl ?_
    · simp only [results, HRES.out]
      go_simp
    · exact ⟨_, (0, 0, 0, [], [], []), 1, rfl, GwCp.nil _ _, HBF.out, by rw [HCODE.out]; exact RsOut.of_no (by decide)⟩
  have HC2 := Lib.hid (Classical.not_not.1 hc)
  clear hc
  go_wp2_with fail
  refine (l05Is_any p2 d2 e2 _ _ _ il2 jl2 kl2 _ (HNX.out _ HBA.out).2.1.cx HM2.out).mono ?_
  rintro ee wB ⟨b, rfl, hb, hbb⟩
  obtain rfl : b = true := hbb.2 HC2.out
  clear hbb
  have HBB := Lib.hid (HBA.out.trans (hb.mono HBA.out.size))
  clear c0 c1 c2 c3 c4 c5 yc0 yc1 yc2 yc3 yc4 yc5
  clear hb
  have c0 := (HNX.out _ HBB.out).1.c0
  have c1 := (HNX.out _ HBB.out).1.c1
  have c2 := (HNX.out _ HBB.out).1.c2
  have c3 := (HNX.out _ HBB.out).1.c3
  have c4 := (HNX.out _ HBB.out).1.c4
  have c5 := (HNX.out _ HBB.out).1.c5
  have yc0 := (HNX.out _ HBB.out).2.1.c0
  have yc1 := (HNX.out _ HBB.out).2.1.c1
  have yc2 := (HNX.out _ HBB.out).2.1.c2
  have yc3 := (HNX.out _ HBB.out).2.1.c3
  have yc4 := (HNX.out _ HBB.out).2.1.c4
  have yc5 := (HNX.out _ HBB.out).2.1.c5
  by_cases hpp : ¬ p = p2
  · have hne1 : (p != p2) = true := by simp [hpp]
    have hne2 : (p == p2) = false := by simp [hpp]
    have HCODE : Hid (adCode p d e il jl kl p2 d2 e2 il2 jl2 kl2 = 2) := Lib.hid (by unfold adCode; rw [if_neg (fun k => k ⟨HC.out, HC2.out⟩), if_pos hpp])
    have HR1 : ∃ x0 x1 x2 x3 x4 x5, wB.heap[w.heap.size + 2]? = some (.cells #[x0, x1, x2, x3, x4, x5] 40) := ⟨_, _, _, _, _, _, (HNX.out _ HBB.out).2.2⟩
    obtain ⟨x0, x1, x2, x3, x4, x5, hr⟩ := HR1
    have r0 : wB.rowIs (w.heap.size + 2) 40 6 (sel6 x0 x1 x2 x3 x4 x5) := rowIs6 hr
    have q0 : wB.cell? ⟨w.heap.size + 2, 0, none⟩ = some x0 := r0.cell (i := 0) (by omega)
    have z0 : wB.frozen? ⟨w.heap.size + 2, 0, none⟩ = false := r0.frozen 0
    have r1 := r0.set 0 (.int .i64 0)
    have q1 : (wB.setCell ⟨w.heap.size + 2, 0, none⟩ (.int .i64 0)).cell? ⟨w.heap.size + 2, 1, none⟩ = some x1 := r1.cell (i := 1) (by omega)
    have z1 : (wB.setCell ⟨w.heap.size + 2, 0, none⟩ (.int .i64 0)).frozen? ⟨w.heap.size + 2, 1, none⟩ = false := r1.frozen 1
    have r2 := r1.set 1 (.int .i64 0)
    have q2 : ((wB.setCell ⟨w.heap.size + 2, 0, none⟩ (.int .i64 0)).setCell ⟨w.heap.size + 2, 1, none⟩ (.int .i64 0)).cell? ⟨w.heap.size + 2, 2, none⟩ = some x2 := r2.cell (i := 2) (by omega)
    have z2 : ((wB.setCell ⟨w.heap.size + 2, 0, none⟩ (.int .i64 0)).setCell ⟨w.heap.size + 2, 1, none⟩ (.int .i64 0)).frozen? ⟨w.heap.size + 2, 2, none⟩ = false := r2.frozen 2
    have r3 := r2.set 2 (.int .i64 0)
    have q3 : (((wB.setCell ⟨w.heap.size + 2, 0, none⟩ (.int .i64 0)).setCell ⟨w.heap.size + 2, 1, none⟩ (.int .i64 0)).setCell ⟨w.heap.size + 2, 2, none⟩ (.int .i64 0)).cell? ⟨w.heap.size + 2, 3, none⟩ = some x3 := r3.cell (i := 3) (by omega)
    have z3 : (((wB.setCell ⟨w.heap.size + 2, 0, none⟩ (.int .i64 0)).setCell ⟨w.heap.size + 2, 1, none⟩ (.int .i64 0)).setCell ⟨w.heap.size + 2, 2, none⟩ (.int .i64 0)).frozen? ⟨w.heap.size + 2, 3, none⟩ = false := r3.frozen 3
    have r4 := r3.set 3 (.slice none 0 0)
    have q4 : ((((wB.setCell ⟨w.heap.size + 2, 0, none⟩ (.int .i64 0)).setCell ⟨w.heap.size + 2, 1, none⟩ (.int .i64 0)).setCell ⟨w.heap.size + 2, 2, none⟩ (.int .i64 0)).setCell ⟨w.heap.size + 2, 3, none⟩ (.slice none 0 0)).cell? ⟨w.heap.size + 2, 4, none⟩ = some x4 := r4.cell (i := 4) (by omega)
    have z4 : ((((wB.setCell ⟨w.heap.size + 2, 0, none⟩ (.int .i64 0)).setCell ⟨w.heap.size + 2, 1, none⟩ (.int .i64 0)).setCell ⟨w.heap.size + 2, 2, none⟩ (.int .i64 0)).setCell ⟨w.heap.size + 2, 3, none⟩ (.slice none 0 0)).frozen? ⟨w.heap.size + 2, 4, none⟩ = false := r4.frozen 4
    have r5 := r4.set 4 (.slice none 0 0)
    have q5 : (((((wB.setCell ⟨w.heap.size + 2, 0, none⟩ (.int .i64 0)).setCell ⟨w.heap.size + 2, 1, none⟩ (.int .i64 0)).setCell ⟨w.heap.size + 2, 2, none⟩ (.int .i64 0)).setCell ⟨w.heap.size + 2, 3, none⟩ (.slice none 0 0)).setCell ⟨w.heap.size + 2, 4, none⟩ (.slice none 0 0)).cell? ⟨w.heap.size + 2, 5, none⟩ = some x5 := r5.cell (i := 5) (by omega)
    have z5 : (((((wB.setCell ⟨w.heap.size + 2, 0, none⟩ (.int .i64 0)).setCell ⟨w.heap.size + 2, 1, none⟩ (.int .i64 0)).setCell ⟨w.heap.size + 2, 2, none⟩ (.int .i64 0)).setCell ⟨w.heap.size + 2, 3, none⟩ (.slice none 0 0)).setCell ⟨w.heap.size + 2, 4, none⟩ (.slice none 0 0)).frozen? ⟨w.heap.size + 2, 5, none⟩ = false := r5.frozen 5
    have r6 := r5.set 5 (.slice none 0 0)
    obtain ⟨WF, hWF⟩ : ∃ W : World, W = ((((((wB.setCell ⟨w.heap.size + 2, 0, none⟩ (.int .i64 0)).setCell ⟨w.heap.size + 2, 1, none⟩ (.int .i64 0)).setCell ⟨w.heap.size + 2, 2, none⟩ (.int .i64 0)).setCell ⟨w.heap.size + 2, 3, none⟩ (.slice none 0 0)).setCell ⟨w.heap.size + 2, 4, none⟩ (.slice none 0 0)).setCell ⟨w.heap.size + 2, 5, none⟩ (.slice none 0 0)) := ⟨_, rfl⟩
    have hbWF : ∀ B (w0 : World), B ≤ w.heap.size + 2 → Below B w0 wB → Below B w0 WF := fun B w0 hl hb => by rw [hWF]; exact ((((((hb.setCell (by show B ≤ w.heap.size + 2; exact hl) _).setCell (by show B ≤ w.heap.size + 2; exact hl) _).setCell (by show B ≤ w.heap.size + 2; exact hl) _).setCell (by show B ≤ w.heap.size + 2; exact hl) _).setCell (by show B ≤ w.heap.size + 2; exact hl) _).setCell (by show B ≤ w.heap.size + 2; exact hl) _)
    have hsWF : ∀ lo hi, w.heap.size + 2 < lo ∨ hi ≤ w.heap.size + 2 → Same lo hi wB WF := fun lo hi hl => by rw [hWF]; exact ((((((Same.set _ hl).trans (Same.set _ hl)).trans (Same.set _ hl)).trans (Same.set _ hl)).trans (Same.set _ hl)).trans (Same.set _ hl))
    have hzWF : WF.heap.size = wB.heap.size := by rw [hWF]; simp
    rw [← hWF] at r6
    have f0 : WF.cell? ⟨w.heap.size + 2, 0, none⟩ = some (.int .i64 0) := r6.cell (i := 0) (by omega)
    have f1 : WF.cell? ⟨w.heap.size + 2, 1, none⟩ = some (.int .i64 0) := r6.cell (i := 1) (by omega)
    have f2 : WF.cell? ⟨w.heap.size + 2, 2, none⟩ = some (.int .i64 0) := r6.cell (i := 2) (by omega)
    have f3 : WF.cell? ⟨w.heap.size + 2, 3, none⟩ = some (.slice none 0 0) := r6.cell (i := 3) (by omega)
    have f4 : WF.cell? ⟨w.heap.size + 2, 4, none⟩ = some (.slice none 0 0) := r6.cell (i := 4) (by omega)
    have f5 : WF.cell? ⟨w.heap.size + 2, 5, none⟩ = some (.slice none 0 0) := r6.cell (i := 5) (by omega)
    have HWWF := Lib.hid hWF
    clear hr r0 r1 r2 r3 r4 r5 r6 hWF
    have HBF := Lib.hid (hbWF w.heap.size w (by omega) (HNX.out _ HBB.out).1.below)
    clear hsWF hbWF hzWF
    go_wp2
    rw [← HWWF.out]
    refine bodyPost_ret (v := .tuple #[.agg #[.int .i64 0, .int .i64 0, .int .i64 0, .slice none 0 0, .slice none 0 0, .slice none 0 0], .int .i64 2]) ?_ rfl ?_
    · simp only [results, HRES.out]
      go_simp
    · exact ⟨_, (0, 0, 0, [], [], []), 2, rfl, GwCp.nil _ _, HBF.out, by rw [HCODE.out]; exact RsOut.of_no (by decide)⟩
  have hpp2 := Classical.not_not.1 hpp
  clear hpp
  subst hpp2
  have hne1 : (p != p) = false := by simp
  have hne2 : (p == p) = true := by simp
  have hdd := HC.out.2.1
  have hee := HC.out.2.2.1
  have hdd2 := HC2.out.2.1
  have hee2 := HC2.out.2.2.1
  have hw1 : IntKind.i64.wrap (d + d2) = d + d2 := IntWalk.i64_in _ (by omega)
  have hw2 : IntKind.i64.wrap (e + e2) = e + e2 := IntWalk.i64_in _ (by omega)
  by_cases hovd : 24 < d + d2
  · have HCODE : Hid (adCode p d e il jl kl p d2 e2 il2 jl2 kl2 = 3) := Lib.hid (by unfold adCode; rw [if_neg (fun k => k ⟨HC.out, HC2.out⟩), if_neg (fun k => k rfl), if_pos (Or.inl hovd)])
    have HR1 : ∃ x0 x1 x2 x3 x4 x5, wB.heap[w.heap.size + 2]? = some (.cells #[x0, x1, x2, x3, x4, x5] 40) := ⟨_, _, _, _, _, _, (HNX.out _ HBB.out).2.2⟩
    obtain ⟨x0, x1, x2, x3, x4, x5, hr⟩ := HR1
    have r0 : wB.rowIs (w.heap.size + 2) 40 6 (sel6 x0 x1 x2 x3 x4 x5) := rowIs6 hr
    have q0 : wB.cell? ⟨w.heap.size + 2, 0, none⟩ = some x0 := r0.cell (i := 0) (by omega)
    have z0 : wB.frozen? ⟨w.heap.size + 2, 0, none⟩ = false := r0.frozen 0
    have r1 := r0.set 0 (.int .i64 0)
    have q1 : (wB.setCell ⟨w.heap.size + 2, 0, none⟩ (.int .i64 0)).cell? ⟨w.heap.size + 2, 1, none⟩ = some x1 := r1.cell (i := 1) (by omega)
    have z1 : (wB.setCell ⟨w.heap.size + 2, 0, none⟩ (.int .i64 0)).frozen? ⟨w.heap.size + 2, 1, none⟩ = false := r1.frozen 1
    have r2 := r1.set 1 (.int .i64 0)
    have q2 : ((wB.setCell ⟨w.heap.size + 2, 0, none⟩ (.int .i64 0)).setCell ⟨w.heap.size + 2, 1, none⟩ (.int .i64 0)).cell? ⟨w.heap.size + 2, 2, none⟩ = some x2 := r2.cell (i := 2) (by omega)
    have z2 : ((wB.setCell ⟨w.heap.size + 2, 0, none⟩ (.int .i64 0)).setCell ⟨w.heap.size + 2, 1, none⟩ (.int .i64 0)).frozen? ⟨w.heap.size + 2, 2, none⟩ = false := r2.frozen 2
    have r3 := r2.set 2 (.int .i64 0)
    have q3 : (((wB.setCell ⟨w.heap.size + 2, 0, none⟩ (.int .i64 0)).setCell ⟨w.heap.size + 2, 1, none⟩ (.int .i64 0)).setCell ⟨w.heap.size + 2, 2, none⟩ (.int .i64 0)).cell? ⟨w.heap.size + 2, 3, none⟩ = some x3 := r3.cell (i := 3) (by omega)
    have z3 : (((wB.setCell ⟨w.heap.size + 2, 0, none⟩ (.int .i64 0)).setCell ⟨w.heap.size + 2, 1, none⟩ (.int .i64 0)).setCell ⟨w.heap.size + 2, 2, none⟩ (.int .i64 0)).frozen? ⟨w.heap.size + 2, 3, none⟩ = false := r3.frozen 3
    have r4 := r3.set 3 (.slice none 0 0)
    have q4 : ((((wB.setCell ⟨w.heap.size + 2, 0, none⟩ (.int .i64 0)).setCell ⟨w.heap.size + 2, 1, none⟩ (.int .i64 0)).setCell ⟨w.heap.size + 2, 2, none⟩ (.int .i64 0)).setCell ⟨w.heap.size + 2, 3, none⟩ (.slice none 0 0)).cell? ⟨w.heap.size + 2, 4, none⟩ = some x4 := r4.cell (i := 4) (by omega)
    have z4 : ((((wB.setCell ⟨w.heap.size + 2, 0, none⟩ (.int .i64 0)).setCell ⟨w.heap.size + 2, 1, none⟩ (.int .i64 0)).setCell ⟨w.heap.size + 2, 2, none⟩ (.int .i64 0)).setCell ⟨w.heap.size + 2, 3, none⟩ (.slice none 0 0)).frozen? ⟨w.heap.size + 2, 4, none⟩ = false := r4.frozen 4
    have r5 := r4.set 4 (.slice none 0 0)
    have q5 : (((((wB.setCell ⟨w.heap.size + 2, 0, none⟩ (.int .i64 0)).setCell ⟨w.heap.size + 2, 1, none⟩ (.int .i64 0)).setCell ⟨w.heap.size + 2, 2, none⟩ (.int .i64 0)).setCell ⟨w.heap.size + 2, 3, none⟩ (.slice none 0 0)).setCell ⟨w.heap.size + 2, 4, none⟩ (.slice none 0 0)).cell? ⟨w.heap.size + 2, 5, none⟩ = some x5 := r5.cell (i := 5) (by omega)
    have z5 : (((((wB.setCell ⟨w.heap.size + 2, 0, none⟩ (.int .i64 0)).setCell ⟨w.heap.size + 2, 1, none⟩ (.int .i64 0)).setCell ⟨w.heap.size + 2, 2, none⟩ (.int .i64 0)).setCell ⟨w.heap.size + 2, 3, none⟩ (.slice none 0 0)).setCell ⟨w.heap.size + 2, 4, none⟩ (.slice none 0 0)).frozen? ⟨w.heap.size + 2, 5, none⟩ = false := r5.frozen 5
    have r6 := r5.set 5 (.slice none 0 0)
    obtain ⟨WF, hWF⟩ : ∃ W : World, W = ((((((wB.setCell ⟨w.heap.size + 2, 0, none⟩ (.int .i64 0)).setCell ⟨w.heap.size + 2, 1, none⟩ (.int .i64 0)).setCell ⟨w.heap.size + 2, 2, none⟩ (.int .i64 0)).setCell ⟨w.heap.size + 2, 3, none⟩ (.slice none 0 0)).setCell ⟨w.heap.size + 2, 4, none⟩ (.slice none 0 0)).setCell ⟨w.heap.size + 2, 5, none⟩ (.slice none 0 0)) := ⟨_, rfl⟩
    have hbWF : ∀ B (w0 : World), B ≤ w.heap.size + 2 → Below B w0 wB → Below B w0 WF := fun B w0 hl hb => by rw [hWF]; exact ((((((hb.setCell (by show B ≤ w.heap.size + 2; exact hl) _).setCell (by show B ≤ w.heap.size + 2; exact hl) _).setCell (by show B ≤ w.heap.size + 2; exact hl) _).setCell (by show B ≤ w.heap.size + 2; exact hl) _).setCell (by show B ≤ w.heap.size + 2; exact hl) _).setCell (by show B ≤ w.heap.size + 2; exact hl) _)
    have hsWF : ∀ lo hi, w.heap.size + 2 < lo ∨ hi ≤ w.heap.size + 2 → Same lo hi wB WF := fun lo hi hl => by rw [hWF]; exact ((((((Same.set _ hl).trans (Same.set _ hl)).trans (Same.set _ hl)).trans (Same.set _ hl)).trans (Same.set _ hl)).trans (Same.set _ hl))
    have hzWF : WF.heap.size = wB.heap.size := by rw [hWF]; simp
    rw [← hWF] at r6
    have f0 : WF.cell? ⟨w.heap.size + 2, 0, none⟩ = some (.int .i64 0) := r6.cell (i := 0) (by omega)
    have f1 : WF.cell? ⟨w.heap.size + 2, 1, none⟩ = some (.int .i64 0) := r6.cell (i := 1) (by omega)
    have f2 : WF.cell? ⟨w.heap.size + 2, 2, none⟩ = some (.int .i64 0) := r6.cell (i := 2) (by omega)
    have f3 : WF.cell? ⟨w.heap.size + 2, 3, none⟩ = some (.slice none 0 0) := r6.cell (i := 3) (by omega)
    have f4 : WF.cell? ⟨w.heap.size + 2, 4, none⟩ = some (.slice none 0 0) := r6.cell (i := 4) (by omega)
    have f5 : WF.cell? ⟨w.heap.size + 2, 5, none⟩ = some (.slice none 0 0) := r6.cell (i := 5) (by omega)
    have HWWF := Lib.hid hWF
    clear hr r0 r1 r2 r3 r4 r5 r6 hWF
    have HBF := Lib.hid (hbWF w.heap.size w (by omega) (HNX.out _ HBB.out).1.below)
    clear hsWF hbWF hzWF
    go_wp2
    rw [← HWWF.out]
    refine bodyPost_ret (v := .tuple #[.agg #[.int .i64 0, .int .i64 0, .int .i64 0, .slice none 0 0, .slice none 0 0, .slice none 0 0], .int .i64 3]) ?_ rfl ?_
    · simp only [results, HRES.out]
      go_simp
    · exact ⟨_, (0, 0, 0, [], [], []), 3, rfl, GwCp.nil _ _, HBF.out, by rw [HCODE.out]; exact RsOut.of_no (by decide)⟩
  by_cases hove : 24 < e + e2
  · have HCODE : Hid (adCode p d e il jl kl p d2 e2 il2 jl2 kl2 = 3) := Lib.hid (by unfold adCode; rw [if_neg (fun k => k ⟨HC.out, HC2.out⟩), if_neg (fun k => k rfl), if_pos (Or.inr hove)])
    have HR1 : ∃ x0 x1 x2 x3 x4 x5, wB.heap[w.heap.size + 2]? = some (.cells #[x0, x1, x2, x3, x4, x5] 40) := ⟨_, _, _, _, _, _, (HNX.out _ HBB.out).2.2⟩
    obtain ⟨x0, x1, x2, x3, x4, x5, hr⟩ := HR1
    have r0 : wB.rowIs (w.heap.size + 2) 40 6 (sel6 x0 x1 x2 x3 x4 x5) := rowIs6 hr
    have q0 : wB.cell? ⟨w.heap.size + 2, 0, none⟩ = some x0 := r0.cell (i := 0) (by omega)
    have z0 : wB.frozen? ⟨w.heap.size + 2, 0, none⟩ = false := r0.frozen 0
    have r1 := r0.set 0 (.int .i64 0)
    have q1 : (wB.setCell ⟨w.heap.size + 2, 0, none⟩ (.int .i64 0)).cell? ⟨w.heap.size + 2, 1, none⟩ = some x1 := r1.cell (i := 1) (by omega)
    have z1 : (wB.setCell ⟨w.heap.size + 2, 0, none⟩ (.int .i64 0)).frozen? ⟨w.heap.size + 2, 1, none⟩ = false := r1.frozen 1
    have r2 := r1.set 1 (.int .i64 0)
    have q2 : ((wB.setCell ⟨w.heap.size + 2, 0, none⟩ (.int .i64 0)).setCell ⟨w.heap.size + 2, 1, none⟩ (.int .i64 0)).cell? ⟨w.heap.size + 2, 2, none⟩ = some x2 := r2.cell (i := 2) (by omega)
    have z2 : ((wB.setCell ⟨w.heap.size + 2, 0, none⟩ (.int .i64 0)).setCell ⟨w.heap.size + 2, 1, none⟩ (.int .i64 0)).frozen? ⟨w.heap.size + 2, 2, none⟩ = false := r2.frozen 2
    have r3 := r2.set 2 (.int .i64 0)
    have q3 : (((wB.setCell ⟨w.heap.size + 2, 0, none⟩ (.int .i64 0)).setCell ⟨w.heap.size + 2, 1, none⟩ (.int .i64 0)).setCell ⟨w.heap.size + 2, 2, none⟩ (.int .i64 0)).cell? ⟨w.heap.size + 2, 3, none⟩ = some x3 := r3.cell (i := 3) (by omega)
    have z3 : (((wB.setCell ⟨w.heap.size + 2, 0, none⟩ (.int .i64 0)).setCell ⟨w.heap.size + 2, 1, none⟩ (.int .i64 0)).setCell ⟨w.heap.size + 2, 2, none⟩ (.int .i64 0)).frozen? ⟨w.heap.size + 2, 3, none⟩ = false := r3.frozen 3
    have r4 := r3.set 3 (.slice none 0 0)
    have q4 : ((((wB.setCell ⟨w.heap.size + 2, 0, none⟩ (.int .i64 0)).setCell ⟨w.heap.size + 2, 1, none⟩ (.int .i64 0)).setCell ⟨w.heap.size + 2, 2, none⟩ (.int .i64 0)).setCell ⟨w.heap.size + 2, 3, none⟩ (.slice none 0 0)).cell? ⟨w.heap.size + 2, 4, none⟩ = some x4 := r4.cell (i := 4) (by omega)
    have z4 : ((((wB.setCell ⟨w.heap.size + 2, 0, none⟩ (.int .i64 0)).setCell ⟨w.heap.size + 2, 1, none⟩ (.int .i64 0)).setCell ⟨w.heap.size + 2, 2, none⟩ (.int .i64 0)).setCell ⟨w.heap.size + 2, 3, none⟩ (.slice none 0 0)).frozen? ⟨w.heap.size + 2, 4, none⟩ = false := r4.frozen 4
    have r5 := r4.set 4 (.slice none 0 0)
    have q5 : (((((wB.setCell ⟨w.heap.size + 2, 0, none⟩ (.int .i64 0)).setCell ⟨w.heap.size + 2, 1, none⟩ (.int .i64 0)).setCell ⟨w.heap.size + 2, 2, none⟩ (.int .i64 0)).setCell ⟨w.heap.size + 2, 3, none⟩ (.slice none 0 0)).setCell ⟨w.heap.size + 2, 4, none⟩ (.slice none 0 0)).cell? ⟨w.heap.size + 2, 5, none⟩ = some x5 := r5.cell (i := 5) (by omega)
    have z5 : (((((wB.setCell ⟨w.heap.size + 2, 0, none⟩ (.int .i64 0)).setCell ⟨w.heap.size + 2, 1, none⟩ (.int .i64 0)).setCell ⟨w.heap.size + 2, 2, none⟩ (.int .i64 0)).setCell ⟨w.heap.size + 2, 3, none⟩ (.slice none 0 0)).setCell ⟨w.heap.size + 2, 4, none⟩ (.slice none 0 0)).frozen? ⟨w.heap.size + 2, 5, none⟩ = false := r5.frozen 5
    have r6 := r5.set 5 (.slice none 0 0)
    obtain ⟨WF, hWF⟩ : ∃ W : World, W = ((((((wB.setCell ⟨w.heap.size + 2, 0, none⟩ (.int .i64 0)).setCell ⟨w.heap.size + 2, 1, none⟩ (.int .i64 0)).setCell ⟨w.heap.size + 2, 2, none⟩ (.int .i64 0)).setCell ⟨w.heap.size + 2, 3, none⟩ (.slice none 0 0)).setCell ⟨w.heap.size + 2, 4, none⟩ (.slice none 0 0)).setCell ⟨w.heap.size + 2, 5, none⟩ (.slice none 0 0)) := ⟨_, rfl⟩
    have hbWF : ∀ B (w0 : World), B ≤ w.heap.size + 2 → Below B w0 wB → Below B w0 WF := fun B w0 hl hb => by rw [hWF]; exact ((((((hb.setCell (by show B ≤ w.heap.size + 2; exact hl) _).setCell (by show B ≤ w.heap.size + 2; exact hl) _).setCell (by show B ≤ w.heap.size + 2; exact hl) _).setCell (by show B ≤ w.heap.size + 2; exact hl) _).setCell (by show B ≤ w.heap.size + 2; exact hl) _).setCell (by show B ≤ w.heap.size + 2; exact hl) _)
    have hsWF : ∀ lo hi, w.heap.size + 2 < lo ∨ hi ≤ w.heap.size + 2 → Same lo hi wB WF := fun lo hi hl => by rw [hWF]; exact ((((((Same.set _ hl).trans (Same.set _ hl)).trans (Same.set _ hl)).trans (Same.set _ hl)).trans (Same.set _ hl)).trans (Same.set _ hl))
    have hzWF : WF.heap.size = wB.heap.size := by rw [hWF]; simp
    rw [← hWF] at r6
    have f0 : WF.cell? ⟨w.heap.size + 2, 0, none⟩ = some (.int .i64 0) := r6.cell (i := 0) (by omega)
    have f1 : WF.cell? ⟨w.heap.size + 2, 1, none⟩ = some (.int .i64 0) := r6.cell (i := 1) (by omega)
    have f2 : WF.cell? ⟨w.heap.size + 2, 2, none⟩ = some (.int .i64 0) := r6.cell (i := 2) (by omega)
    have f3 : WF.cell? ⟨w.heap.size + 2, 3, none⟩ = some (.slice none 0 0) := r6.cell (i := 3) (by omega)
    have f4 : WF.cell? ⟨w.heap.size + 2, 4, none⟩ = some (.slice none 0 0) := r6.cell (i := 4) (by omega)
    have f5 : WF.cell? ⟨w.heap.size + 2, 5, none⟩ = some (.slice none 0 0) := r6.cell (i := 5) (by omega)
    have HWWF := Lib.hid hWF
    clear hr r0 r1 r2 r3 r4 r5 r6 hWF
    have HBF := Lib.hid (hbWF w.heap.size w (by omega) (HNX.out _ HBB.out).1.below)
    clear hsWF hbWF hzWF
    go_wp2
    rw [← HWWF.out]
    refine bodyPost_ret (v := .tuple #[.agg #[.int .i64 0, .int .i64 0, .int .i64 0, .slice none 0 0, .slice none 0 0, .slice none 0 0], .int .i64 3]) ?_ rfl ?_
    · simp only [results, HRES.out]
      go_simp
    · exact ⟨_, (0, 0, 0, [], [], []), 3, rfl, GwCp.nil _ _, HBF.out, by rw [HCODE.out]; exact RsOut.of_no (by decide)⟩
  have HOK : Hid (AdOk p d e il jl kl p d2 e2 il2 jl2 kl2) := Lib.hid ⟨HC.out, HC2.out, rfl, by omega⟩
  obtain ⟨dn, hdn⟩ := Int.eq_ofNat_of_zero_le hdd.1
  obtain ⟨en, hen⟩ := Int.eq_ofNat_of_zero_le hee.1
  obtain ⟨dn2, hdn2⟩ := Int.eq_ofNat_of_zero_le hdd2.1
  obtain ⟨en2, hen2⟩ := Int.eq_ofNat_of_zero_le hee2.1
  have hdn : d = (dn : Int) := hdn
  have hen : e = (en : Int) := hen
  have hdn2 : d2 = (dn2 : Int) := hdn2
  have hen2 : e2 = (en2 : Int) := hen2
  subst hdn hen hdn2 hen2
  have HNS : Hid (∀ W, Below (w.heap.size + 2) w1 W → BxCp w W w.heap.size p (dn : Int) (en : Int) (.slice ai il.length ci) (.slice aj jl.length cj) (.slice ak kl.length ck) il jl kl ∧ BxCp w W (w.heap.size + 1) p (dn2 : Int) (en2 : Int) (.slice ai2 il2.length ci2) (.slice aj2 jl2.length cj2) (.slice ak2 kl2.length ck2) il2 jl2 kl2) := Lib.hid (fun W hb => by
    obtain ⟨h1, h2, _⟩ := HNX.out _ (Below.refl _ _)
    have hbw : Below w.heap.size w W := h1.below.trans (hb.mono (by omega))
    have hlw := hb.size
    have e1 : ∀ o, W.cell? ⟨w.heap.size, o, none⟩ = w1.cell? ⟨w.heap.size, o, none⟩ := fun o => hb.cell (p := ⟨w.heap.size, o, none⟩) (by show w.heap.size < w.heap.size + 2; omega)
    have e2 : ∀ o, W.cell? ⟨w.heap.size + 1, o, none⟩ = w1.cell? ⟨w.heap.size + 1, o, none⟩ := fun o => hb.cell (p := ⟨w.heap.size + 1, o, none⟩) (by show w.heap.size + 1 < w.heap.size + 2; omega)
    exact ⟨⟨hbw, (e1 0).trans h1.c0, (e1 1).trans h1.c1, (e1 2).trans h1.c2, (e1 3).trans h1.c3, (e1 4).trans h1.c4, (e1 5).trans h1.c5, by omega, HCX.out.1.below hbw⟩, ⟨hbw, (e2 0).trans h2.c0, (e2 1).trans h2.c1, (e2 2).trans h2.c2, (e2 3).trans h2.c3, (e2 4).trans h2.c4, (e2 5).trans h2.c5, by omega, HCX.out.2.below hbw⟩⟩)
  have HK0 : Hid (∀ W, Below (w.heap.size + 2) w1 W → Calls Try.prog 89 #[.slice ai il.length ci, .int .i64 (dn : Int), .slice ai2 il2.length ci2, .int .i64 (dn2 : Int)] W (GsR (sumT il dn il2 dn2) W)) := Lib.hid (fun W hW => l05Blocks_any _ _ il il2 dn dn2 W (HNS.out _ hW).1.cx.fi (HNS.out _ hW).2.cx.fi (by have := tab_len HC.out.2.2.2.1 (by omega); omega) (by have := tab_len HC2.out.2.2.2.1 (by omega); omega) (by omega) (by omega) (tab_row HC.out.2.2.2.1 (by omega)) (tab_row HC2.out.2.2.2.1 (by omega)))
  obtain ⟨m0, hm0⟩ : ∃ m, m = (sumT il dn il2 dn2).length := ⟨_, rfl⟩
  have HML0 := Lib.hid hm0
  clear hm0
  have HK1 : Hid (∀ W, Below (w.heap.size + 2) w1 W → Calls Try.prog 89 #[.slice aj jl.length cj, .int .i64 (en : Int), .slice aj2 jl2.length cj2, .int .i64 (en2 : Int)] W (GsR (sumT jl en jl2 en2) W)) := Lib.hid (fun W hW => l05Blocks_any _ _ jl jl2 en en2 W (HNS.out _ hW).1.cx.fj (HNS.out _ hW).2.cx.fj (by have := tab_len HC.out.2.2.2.2.1 (by omega); omega) (by have := tab_len HC2.out.2.2.2.2.1 (by omega); omega) (by omega) (by omega) (tab_row HC.out.2.2.2.2.1 (by omega)) (tab_row HC2.out.2.2.2.2.1 (by omega)))
  obtain ⟨m1, hm1⟩ : ∃ m, m = (sumT jl en jl2 en2).length := ⟨_, rfl⟩
  have HML1 := Lib.hid hm1
  clear hm1
  have HK2 : Hid (∀ W, Below (w.heap.size + 2) w1 W → Calls Try.prog 89 #[.slice ak kl.length ck, .int .i64 (dn : Int), .slice ak2 kl2.length ck2, .int .i64 (dn2 : Int)] W (GsR (sumT kl dn kl2 dn2) W)) := Lib.hid (fun W hW => l05Blocks_any _ _ kl kl2 dn dn2 W (HNS.out _ hW).1.cx.fk (HNS.out _ hW).2.cx.fk (by have := tab_len HC.out.2.2.2.2.2 (by omega); omega) (by have := tab_len HC2.out.2.2.2.2.2 (by omega); omega) (by omega) (by omega) (tab_row HC.out.2.2.2.2.2 (by omega)) (tab_row HC2.out.2.2.2.2.2 (by omega)))
  obtain ⟨m2, hm2⟩ : ∃ m, m = (sumT kl dn kl2 dn2).length := ⟨_, rfl⟩
  have HML2 := Lib.hid hm2
  clear hm2
  have HRZ := Lib.hid (HNX.out _ HBB.out).2.2
  have hsB : w1.heap.size ≤ wB.heap.size := HBB.out.size
  have HW1 := Lib.hid hw1
  have HW2 := Lib.hid hw2
  have hd1 : ¬ 24 < ((dn : Int) + (dn2 : Int)) := hovd
  have he1 : ¬ 24 < ((en : Int) + (en2 : Int)) := hove
  go_upto_region 7 with fail
  clear c0 c1 c2 c3 c4 c5 yc0 yc1 yc2 yc3 yc4 yc5
  go_wp2
  refine wp_region_held (S := fun W => Below (w.heap.size + 2) w1 W) (by kernel_rfl) ?_
  have S0 : Below (w.heap.size + 2) w1 wB.drew := (HBB.out.mono (by omega)).drew
  have hB0 : w.heap.size + 2 ≤ w1.heap.size := by omega
  have hsd : wB.heap.size ≤ wB.drew.heap.size := Nat.le_refl _
  have hbd : Below wB.heap.size wB wB.drew := (Below.refl _ _).drew
  change wpAnyH _ _ _ _ _ _ _ _ wB.drew
  obtain ⟨wd, hwd⟩ : ∃ wd, wd = wB.drew := ⟨_, rfl⟩
  rw [← hwd] at S0 hsd hbd ⊢
  clear hwd
  have hAR0 := HRZ.out.next hbd
  refine held_take (i := 0) (v := .pointer (some ⟨w.heap.size, 0, none⟩)) (some 39) rfl rfl (by kernel_rfl) (by kernel_rfl) (by kernel_rfl) (fun _ _ _ h => h) (yieldsIf_run (by kernel_rfl) (fun W _ => by kernel_rfl)) S0 ?_
  refine held_take (i := 1) (v := .int .i64 p) (some 40) rfl rfl (by kernel_rfl) (by kernel_rfl) (by kernel_rfl) (fun _ _ _ h => h) (yieldsIf_cell (by kernel_rfl) rfl (by kernel_rfl) (fun W h => hload W (HNS.out W h).1.c0)) S0 ?_
  refine held_take (i := 2) (v := .pointer (some ⟨w.heap.size, 1, none⟩)) (some 41) rfl rfl (by kernel_rfl) (by kernel_rfl) (by kernel_rfl) (fun _ _ _ h => h) (yieldsIf_run (by kernel_rfl) (fun W _ => by kernel_rfl)) S0 ?_
  refine held_take (i := 3) (v := .int .i64 (dn : Int)) (some 42) rfl rfl (by kernel_rfl) (by kernel_rfl) (by kernel_rfl) (fun _ _ _ h => h) (yieldsIf_cell (by kernel_rfl) rfl (by kernel_rfl) (fun W h => hload W (HNS.out W h).1.c1)) S0 ?_
  refine held_take (i := 4) (v := .pointer (some ⟨w.heap.size + 1, 1, none⟩)) (some 43) rfl rfl (by kernel_rfl) (by kernel_rfl) (by kernel_rfl) (fun _ _ _ h => h) (yieldsIf_run (by kernel_rfl) (fun W _ => by kernel_rfl)) S0 ?_
  refine held_take (i := 5) (v := .int .i64 (dn2 : Int)) (some 44) rfl rfl (by kernel_rfl) (by kernel_rfl) (by kernel_rfl) (fun _ _ _ h => h) (yieldsIf_cell (by kernel_rfl) rfl (by kernel_rfl) (fun W h => hload W (HNS.out W h).2.c1)) S0 ?_
  refine held_take (i := 6) (v := .int .i64 ((dn : Int) + (dn2 : Int))) (some 45) rfl rfl (by kernel_rfl) (by kernel_rfl) (by kernel_rfl) (fun _ _ _ h => h) (yieldsIf_bin (by kernel_rfl) rfl (by kernel_rfl) (by kernel_rfl) (fun _ => rfl) (haddI HW1.out)) S0 ?_
  refine held_take (i := 7) (v := .pointer (some ⟨w.heap.size, 2, none⟩)) (some 46) rfl rfl (by kernel_rfl) (by kernel_rfl) (by kernel_rfl) (fun _ _ _ h => h) (yieldsIf_run (by kernel_rfl) (fun W _ => by kernel_rfl)) S0 ?_
  refine held_take (i := 8) (v := .int .i64 (en : Int)) (some 47) rfl rfl (by kernel_rfl) (by kernel_rfl) (by kernel_rfl) (fun _ _ _ h => h) (yieldsIf_cell (by kernel_rfl) rfl (by kernel_rfl) (fun W h => hload W (HNS.out W h).1.c2)) S0 ?_
  refine held_take (i := 9) (v := .pointer (some ⟨w.heap.size + 1, 2, none⟩)) (some 48) rfl rfl (by kernel_rfl) (by kernel_rfl) (by kernel_rfl) (fun _ _ _ h => h) (yieldsIf_run (by kernel_rfl) (fun W _ => by kernel_rfl)) S0 ?_
  refine held_take (i := 10) (v := .int .i64 (en2 : Int)) (some 49) rfl rfl (by kernel_rfl) (by kernel_rfl) (by kernel_rfl) (fun _ _ _ h => h) (yieldsIf_cell (by kernel_rfl) rfl (by kernel_rfl) (fun W h => hload W (HNS.out W h).2.c2)) S0 ?_
  refine held_take (i := 11) (v := .int .i64 ((en : Int) + (en2 : Int))) (some 50) rfl rfl (by kernel_rfl) (by kernel_rfl) (by kernel_rfl) (fun _ _ _ h => h) (yieldsIf_bin (by kernel_rfl) rfl (by kernel_rfl) (by kernel_rfl) (fun _ => rfl) (haddI HW2.out)) S0 ?_
  refine held_take (i := 12) (v := .pointer (some ⟨w.heap.size, 3, none⟩)) (some 51) rfl rfl (by kernel_rfl) (by kernel_rfl) (by kernel_rfl) (fun _ _ _ h => h) (yieldsIf_run (by kernel_rfl) (fun W _ => by kernel_rfl)) S0 ?_
  refine held_take (i := 13) (v := .slice ai il.length ci) (some 52) rfl rfl (by kernel_rfl) (by kernel_rfl) (by kernel_rfl) (fun _ _ _ h => h) (yieldsIf_cell (by kernel_rfl) rfl (by kernel_rfl) (fun W h => hloadSSc W (HNS.out W h).1.c3)) S0 ?_
  refine held_take (i := 14) (v := .pointer (some ⟨w.heap.size, 1, none⟩)) (some 53) rfl rfl (by kernel_rfl) (by kernel_rfl) (by kernel_rfl) (fun _ _ _ h => h) (yieldsIf_run (by kernel_rfl) (fun W _ => by kernel_rfl)) S0 ?_
  refine held_take (i := 15) (v := .int .i64 (dn : Int)) (some 54) rfl rfl (by kernel_rfl) (by kernel_rfl) (by kernel_rfl) (fun _ _ _ h => h) (yieldsIf_cell (by kernel_rfl) rfl (by kernel_rfl) (fun W h => hload W (HNS.out W h).1.c1)) S0 ?_
  refine held_take (i := 16) (v := .pointer (some ⟨w.heap.size + 1, 3, none⟩)) (some 55) rfl rfl (by kernel_rfl) (by kernel_rfl) (by kernel_rfl) (fun _ _ _ h => h) (yieldsIf_run (by kernel_rfl) (fun W _ => by kernel_rfl)) S0 ?_
  refine held_take (i := 17) (v := .slice ai2 il2.length ci2) (some 56) rfl rfl (by kernel_rfl) (by kernel_rfl) (by kernel_rfl) (fun _ _ _ h => h) (yieldsIf_cell (by kernel_rfl) rfl (by kernel_rfl) (fun W h => hloadSSc W (HNS.out W h).2.c3)) S0 ?_
  refine held_take (i := 18) (v := .pointer (some ⟨w.heap.size + 1, 1, none⟩)) (some 57) rfl rfl (by kernel_rfl) (by kernel_rfl) (by kernel_rfl) (fun _ _ _ h => h) (yieldsIf_run (by kernel_rfl) (fun W _ => by kernel_rfl)) S0 ?_
  refine held_take (i := 19) (v := .int .i64 (dn2 : Int)) (some 58) rfl rfl (by kernel_rfl) (by kernel_rfl) (by kernel_rfl) (fun _ _ _ h => h) (yieldsIf_cell (by kernel_rfl) rfl (by kernel_rfl) (fun W h => hload W (HNS.out W h).2.c1)) S0 ?_
  refine held_take (i := 21) (v := .pointer (some ⟨w.heap.size, 4, none⟩)) (some 60) rfl rfl (by kernel_rfl) (by kernel_rfl) (by kernel_rfl) (fun _ _ _ h => h) (yieldsIf_run (by kernel_rfl) (fun W _ => by kernel_rfl)) S0 ?_
  refine held_take (i := 22) (v := .slice aj jl.length cj) (some 61) rfl rfl (by kernel_rfl) (by kernel_rfl) (by kernel_rfl) (fun _ _ _ h => h) (yieldsIf_cell (by kernel_rfl) rfl (by kernel_rfl) (fun W h => hloadSSc W (HNS.out W h).1.c4)) S0 ?_
  refine held_take (i := 23) (v := .pointer (some ⟨w.heap.size, 2, none⟩)) (some 62) rfl rfl (by kernel_rfl) (by kernel_rfl) (by kernel_rfl) (fun _ _ _ h => h) (yieldsIf_run (by kernel_rfl) (fun W _ => by kernel_rfl)) S0 ?_
  refine held_take (i := 24) (v := .int .i64 (en : Int)) (some 63) rfl rfl (by kernel_rfl) (by kernel_rfl) (by kernel_rfl) (fun _ _ _ h => h) (yieldsIf_cell (by kernel_rfl) rfl (by kernel_rfl) (fun W h => hload W (HNS.out W h).1.c2)) S0 ?_
  refine held_take (i := 25) (v := .pointer (some ⟨w.heap.size + 1, 4, none⟩)) (some 64) rfl rfl (by kernel_rfl) (by kernel_rfl) (by kernel_rfl) (fun _ _ _ h => h) (yieldsIf_run (by kernel_rfl) (fun W _ => by kernel_rfl)) S0 ?_
  refine held_take (i := 26) (v := .slice aj2 jl2.length cj2) (some 65) rfl rfl (by kernel_rfl) (by kernel_rfl) (by kernel_rfl) (fun _ _ _ h => h) (yieldsIf_cell (by kernel_rfl) rfl (by kernel_rfl) (fun W h => hloadSSc W (HNS.out W h).2.c4)) S0 ?_
  refine held_take (i := 27) (v := .pointer (some ⟨w.heap.size + 1, 2, none⟩)) (some 66) rfl rfl (by kernel_rfl) (by kernel_rfl) (by kernel_rfl) (fun _ _ _ h => h) (yieldsIf_run (by kernel_rfl) (fun W _ => by kernel_rfl)) S0 ?_
  refine held_take (i := 28) (v := .int .i64 (en2 : Int)) (some 67) rfl rfl (by kernel_rfl) (by kernel_rfl) (by kernel_rfl) (fun _ _ _ h => h) (yieldsIf_cell (by kernel_rfl) rfl (by kernel_rfl) (fun W h => hload W (HNS.out W h).2.c2)) S0 ?_
  refine held_take (i := 30) (v := .pointer (some ⟨w.heap.size, 5, none⟩)) (some 69) rfl rfl (by kernel_rfl) (by kernel_rfl) (by kernel_rfl) (fun _ _ _ h => h) (yieldsIf_run (by kernel_rfl) (fun W _ => by kernel_rfl)) S0 ?_
  refine held_take (i := 31) (v := .slice ak kl.length ck) (some 70) rfl rfl (by kernel_rfl) (by kernel_rfl) (by kernel_rfl) (fun _ _ _ h => h) (yieldsIf_cell (by kernel_rfl) rfl (by kernel_rfl) (fun W h => hloadSSc W (HNS.out W h).1.c5)) S0 ?_
  refine held_take (i := 32) (v := .pointer (some ⟨w.heap.size, 1, none⟩)) (some 71) rfl rfl (by kernel_rfl) (by kernel_rfl) (by kernel_rfl) (fun _ _ _ h => h) (yieldsIf_run (by kernel_rfl) (fun W _ => by kernel_rfl)) S0 ?_
  refine held_take (i := 33) (v := .int .i64 (dn : Int)) (some 72) rfl rfl (by kernel_rfl) (by kernel_rfl) (by kernel_rfl) (fun _ _ _ h => h) (yieldsIf_cell (by kernel_rfl) rfl (by kernel_rfl) (fun W h => hload W (HNS.out W h).1.c1)) S0 ?_
  refine held_take (i := 34) (v := .pointer (some ⟨w.heap.size + 1, 5, none⟩)) (some 73) rfl rfl (by kernel_rfl) (by kernel_rfl) (by kernel_rfl) (fun _ _ _ h => h) (yieldsIf_run (by kernel_rfl) (fun W _ => by kernel_rfl)) S0 ?_
  refine held_take (i := 35) (v := .slice ak2 kl2.length ck2) (some 74) rfl rfl (by kernel_rfl) (by kernel_rfl) (by kernel_rfl) (fun _ _ _ h => h) (yieldsIf_cell (by kernel_rfl) rfl (by kernel_rfl) (fun W h => hloadSSc W (HNS.out W h).2.c5)) S0 ?_
  refine held_take (i := 36) (v := .pointer (some ⟨w.heap.size + 1, 1, none⟩)) (some 75) rfl rfl (by kernel_rfl) (by kernel_rfl) (by kernel_rfl) (fun _ _ _ h => h) (yieldsIf_run (by kernel_rfl) (fun W _ => by kernel_rfl)) S0 ?_
  refine held_take (i := 37) (v := .int .i64 (dn2 : Int)) (some 76) rfl rfl (by kernel_rfl) (by kernel_rfl) (by kernel_rfl) (fun _ _ _ h => h) (yieldsIf_cell (by kernel_rfl) rfl (by kernel_rfl) (fun W h => hload W (HNS.out W h).2.c1)) S0 ?_
  refine held_one (i := 20) (by kernel_rfl) ?_
  · refine op_enter (i := 20) (some 59) (f := 89) (args := #[.slice ai il.length ci, .int .i64 (dn : Int), .slice ai2 il2.length ci2, .int .i64 (dn2 : Int)]) rfl rfl rfl (by kernel_rfl) (HK0.out wd S0) ?_ (fun c w' h => by obtain ⟨_, h, _⟩ := h; cases h) (fun w' h => by obtain ⟨_, h, _⟩ := h; cases h)
    rintro e1 W1 ⟨u1, he, hg1, hb1⟩
    injection he with he
    subst he
    obtain ⟨a1, c1, hv⟩ := Sl.shape hg1.l2
    rw [← HML0.out] at hv
    subst hv
    have S1 : Below (w.heap.size + 2) w1 W1 := S0.trans (hb1.mono (Nat.le_trans hB0 S0.size))
    have hAR1 := hAR0.next hb1
    refine ⟨S1, ?_⟩
    refine held_one (i := 29) (by kernel_rfl) ?_
    · refine op_enter (i := 29) (some 68) (f := 89) (args := #[.slice aj jl.length cj, .int .i64 (en : Int), .slice aj2 jl2.length cj2, .int .i64 (en2 : Int)]) rfl rfl rfl (by kernel_rfl) (HK1.out W1 S1) ?_ (fun c w' h => by obtain ⟨_, h, _⟩ := h; cases h) (fun w' h => by obtain ⟨_, h, _⟩ := h; cases h)
      rintro e2 W2 ⟨u2, he, hg2, hb2⟩
      injection he with he
      subst he
      obtain ⟨a2, c2, hv⟩ := Sl.shape hg2.l2
      rw [← HML1.out] at hv
      subst hv
      have S2 : Below (w.heap.size + 2) w1 W2 := S1.trans (hb2.mono (Nat.le_trans hB0 S1.size))
      have hAR2 := hAR1.next hb2
      have hg0_2 := hg1.below hb2
      refine ⟨S2, ?_⟩
      refine held_one (i := 38) (by kernel_rfl) ?_
      · refine op_enter (i := 38) (some 77) (f := 89) (args := #[.slice ak kl.length ck, .int .i64 (dn : Int), .slice ak2 kl2.length ck2, .int .i64 (dn2 : Int)]) rfl rfl rfl (by kernel_rfl) (HK2.out W2 S2) ?_ (fun c w' h => by obtain ⟨_, h, _⟩ := h; cases h) (fun w' h => by obtain ⟨_, h, _⟩ := h; cases h)
        rintro e3 W3 ⟨u3, he, hg3, hb3⟩
        injection he with he
        subst he
        obtain ⟨a3, c3, hv⟩ := Sl.shape hg3.l2
        rw [← HML2.out] at hv
        subst hv
        have S3 : Below (w.heap.size + 2) w1 W3 := S2.trans (hb3.mono (Nat.le_trans hB0 S2.size))
        have hAR3 := hAR2.next hb3
        have hg0_3 := hg0_2.below hb3
        have hg1_3 := hg2.below hb3
        refine ⟨S3, ?_⟩
        refine held_take (i := 39) (v := .agg #[.int .i64 p, .int .i64 ((dn : Int) + (dn2 : Int)), .int .i64 ((en : Int) + (en2 : Int)), .slice a1 m0 c1, .slice a2 m1 c2, .slice a3 m2 c3]) (some 78) rfl rfl (by kernel_rfl) (by kernel_rfl) (by kernel_rfl) (fun _ _ _ h => h) (yieldsIf_run (by kernel_rfl) (fun W _ => by kernel_rfl)) S3 ?_
        have hAR := hAR3
        have hGR : w.heap.size + 2 ≤ w.heap.size + 2 := Nat.le_refl _
        have S4 : Below (w.heap.size + 2) w1 (W3.setRow (w.heap.size + 2) #[.int .i64 p, .int .i64 ((dn : Int) + (dn2 : Int)), .int .i64 ((en : Int) + (en2 : Int)), .slice a1 m0 c1, .slice a2 m1 c2, .slice a3 m2 c3]) := below_setRow S3 hGR _
        refine held_one (i := 40) (by kernel_rfl) ?_
        refine op_row (i := 40) rfl rfl rfl 40 (.tmp 4) (.tmp 78) rfl (w.heap.size + 2) #[.int .i64 p, .int .i64 ((dn : Int) + (dn2 : Int)), .int .i64 ((en : Int) + (en2 : Int)), .slice a1 m0 c1, .slice a2 m1 c2, .slice a3 m2 c3] (by kernel_rfl) (by kernel_rfl) 40 _ hAR3 (Try.infoC6 _ _ _ _ _ _) (by kernel_rfl) (by kernel_rfl) ?_
        refine ⟨S4, ?_⟩
        have hAR4 := hAR3.set #[.int .i64 p, .int .i64 ((dn : Int) + (dn2 : Int)), .int .i64 ((en : Int) + (en2 : Int)), .slice a1 m0 c1, .slice a2 m1 c2, .slice a3 m2 c3]
        refine held_take (i := 41) (v := .int .i64 0) (some 5) rfl rfl (by kernel_rfl) (by kernel_rfl) (by kernel_rfl) (fun _ _ _ h => h) (yieldsIf_assign (by kernel_rfl) rfl (by kernel_rfl)) S4 ?_
        refine wpAnyH_done (by kernel_rfl) ?_ _
        simp only [Act.put, List.setIfInBounds_toArray, List.set_cons_zero, List.set_cons_succ]
        obtain ⟨WF, hWF⟩ : ∃ WF, WF = (W3.setRow (w.heap.size + 2) #[.int .i64 p, .int .i64 ((dn : Int) + (dn2 : Int)), .int .i64 ((en : Int) + (en2 : Int)), .slice a1 m0 c1, .slice a2 m1 c2, .slice a3 m2 c3]) := ⟨_, rfl⟩
        have hrf : Rz WF (w.heap.size + 2) 40 #[.int .i64 p, .int .i64 ((dn : Int) + (dn2 : Int)), .int .i64 ((en : Int) + (en2 : Int)), .slice a1 m0 c1, .slice a2 m1 c2, .slice a3 m2 c3] := by rw [hWF]; exact hAR4
        have hbf : Below w.heap.size w WF := by rw [hWF]; exact HBW.out.trans (S4.mono (by omega))
        have hG0 : Gs 0 WF (.slice a1 m0 c1) (sumT il dn il2 dn2) := by rw [hWF]; exact (hg0_3.mono (Nat.zero_le _)).offRow (hAR) (by decide) _
        have hG1 : Gs 0 WF (.slice a2 m1 c2) (sumT jl en jl2 en2) := by rw [hWF]; exact (hg1_3.mono (Nat.zero_le _)).offRow (hAR) (by decide) _
        have hG2 : Gs 0 WF (.slice a3 m2 c3) (sumT kl dn kl2 dn2) := by rw [hWF]; exact (hg3.mono (Nat.zero_le _)).offRow (hAR) (by decide) _
        rw [← hWF]
        have HRF := Lib.hid hrf
        have HBF := Lib.hid hbf
        have HG0 := Lib.hid hG0
        have HG1 := Lib.hid hG1
        have HG2 := Lib.hid hG2
        have f0 : WF.cell? ⟨w.heap.size + 2, 0, none⟩ = some (.int .i64 p) := HRF.out.cell rfl
        have f1 : WF.cell? ⟨w.heap.size + 2, 1, none⟩ = some (.int .i64 ((dn : Int) + (dn2 : Int))) := HRF.out.cell rfl
        have f2 : WF.cell? ⟨w.heap.size + 2, 2, none⟩ = some (.int .i64 ((en : Int) + (en2 : Int))) := HRF.out.cell rfl
        have f3 : WF.cell? ⟨w.heap.size + 2, 3, none⟩ = some (.slice a1 m0 c1) := HRF.out.cell rfl
        have f4 : WF.cell? ⟨w.heap.size + 2, 4, none⟩ = some (.slice a2 m1 c2) := HRF.out.cell rfl
        have f5 : WF.cell? ⟨w.heap.size + 2, 5, none⟩ = some (.slice a3 m2 c3) := HRF.out.cell rfl
        clear hWF hrf hbf hG0 hG1 hG2 hb1 hb2 hb3 S0 S1 S2 S3 S4 hAR hsd hbd hB0
        go_wp2
        refine bodyPost_ret (v := .tuple #[.agg #[.int .i64 p, .int .i64 ((dn : Int) + (dn2 : Int)), .int .i64 ((en : Int) + (en2 : Int)), .slice a1 m0 c1, .slice a2 m1 c2, .slice a3 m2 c3], .int .i64 0]) ?_ rfl ?_
        · simp only [results, HRES.out]
          go_simp
        · exact ⟨_, adOut p (dn : Int) (en : Int) il jl kl p (dn2 : Int) (en2 : Int) il2 jl2 kl2, 0, rfl, ⟨a1, c1, a2, c2, a3, c3, by simp only [adOut, Int.toNat_natCast]; rw [HML0.out, HML1.out, HML2.out], by simpa only [adOut, Int.toNat_natCast, ← HML0.out] using HG0.out, by simpa only [adOut, Int.toNat_natCast, ← HML1.out] using HG1.out, by simpa only [adOut, Int.toNat_natCast, ← HML2.out] using HG2.out⟩, HBF.out, RsOut.of_yes HOK.out.code rfl⟩
end Go.Proofs.Ytaaficdlckcgkaa
