/-
  CoupleDifferential of the program: its answer in memory of its own.
-/
import Derived.Test.YtpdkfidmmjlmnabCpi
namespace Go.Proofs.Ytpdkfidmmjlmnab
open Go.RowKit

def sel4 (x y z u : Value) : Nat → Value := fun i => if i = 0 then x else if i = 1 then y else if i = 2 then z else u
theorem rowIs4 {w : World} {b : Nat} {x y z u : Value} {t : TypeId} (h : w.heap[b]? = some (.cells #[x, y, z, u] t)) : w.rowIs b t 4 (sel4 x y z u) :=
  ⟨#[x, y, z, u], h, rfl, fun i hi => by
    match i, hi with
    | 0, _ => rfl
    | 1, _ => rfl
    | 2, _ => rfl
    | 3, _ => rfl⟩
def DifR (p e : Int) (t : List (List Int)) (w : World) (ee : Ending) (w' : World) : Prop := ∃ u, ee = .returned (.agg #[.int .i64 p, .int .i64 e, .int .i64 e, u]) ∧ Rw2 w.heap.size w'.heap.size w' u t ∧ Below w.heap.size w w'

set_option maxHeartbeats 3200000 in
set_option maxRecDepth 100000 in
theorem differential_any (p d e : Int) (iv jv kv : Value) (il jl kl : List (List Int)) (w : World) (h : Cp 0 w iv jv kv il jl kl) (hm : CpB 1048576 il jl kl) (hc : IsCp p d e il jl kl) :
    Calls Try.prog 137 #[.agg #[.int .i64 p, .int .i64 d, .int .i64 e, iv, jv, kv]] w (DifR p e (cdT p e jl kl) w) := by
  have hres : Try.f137.results = #[.cell 2 138] := by kernel_rfl
  have HRES := Lib.hid hres
  have HM := Lib.hid hm
  obtain ⟨wa, hwa⟩ : ∃ wa, wa = w.alloc (.cells #[.int .i64 p, .int .i64 d, .int .i64 e, iv, jv, kv] 71) := ⟨_, rfl⟩
  obtain ⟨w1, hw1⟩ : ∃ w1, w1 = wa.alloc (.cells #[.int .i64 0, .int .i64 0, .int .i64 0, .slice none 0 0] 138) := ⟨_, rfl⟩
  have hsa : wa.heap.size = w.heap.size + 1 := by rw [hwa]; simp
  have hs1 : w.heap.size + 2 ≤ w1.heap.size := by rw [hw1]; simp [hsa]
  have hlt0 : w.heap.size < w1.heap.size := by omega
  have hlt1 : w.heap.size + 1 < w1.heap.size := by omega
  have HX : Hid (BxCp w w1 w.heap.size p d e iv jv kv il jl kl) := Lib.hid (by
    have h0 : BxCp w wa w.heap.size p d e iv jv kv il jl kl := by rw [hwa]; exact BxCp.start 71 h
    rw [hw1]
    exact h0.next (below_alloc1 _ _))
  have HR0 : Hid (∃ x0 x1 x2 x3, w1.heap[w.heap.size + 1]? = some (.cells #[x0, x1, x2, x3] 138)) := Lib.hid ⟨_, _, _, _, by rw [hw1, ← hsa]; simpa using heap_alloc_new wa (.cells #[.int .i64 0, .int .i64 0, .int .i64 0, .slice none 0 0] 138)⟩
  have HC := Lib.hid hc
  obtain ⟨c, hce⟩ : ∃ c, c = e.toNat := ⟨_, rfl⟩
  have hec : e = (c : Int) := by have := hc.2.2.1; omega
  have hc24 : c ≤ 24 := by have := hc.2.2.1; omega
  have hkl : kl.length = c := by have := hc.2.2.1; have := hc.2.2.2.2.2.1; omega
  have HKL := Lib.hid hkl
  have HNX : Hid (∀ W, Below w1.heap.size w1 W → BxCp w W w.heap.size p d e iv jv kv il jl kl) := Lib.hid (fun W h => HX.out.next h)
  obtain ⟨⟨ai, ci, rfl⟩, ⟨aj, cj, rfl⟩, ⟨ak, ck, rfl⟩⟩ := HX.out.cx.shapes
  have HCL : Hid ((cdT p e jl kl).length = c) := Lib.hid (by simp [cdT, hkl])
  have HAP : Hid (∀ k (hk : k < kl.length), ApOk p c kl[k] jl) := Lib.hid (fun k hk => by rw [hce]; exact hc.ap (List.getElem_mem hk))
  have HCD : Hid (∀ k (hk : k < kl.length) (h2 : k < (cdT p e jl kl).length), (cdT p e jl kl)[k] = apT p c kl[k] jl) := Lib.hid (fun k hk h2 => by simp [cdT, hce])
  have hmk := run_make_row' (P := Try.prog) 26 22 (.slice none 0 0) 24 Try.underlying26 Try.infoS rfl .i64 .i64 c (by omega) (by omega)
  clear hc hce h hm hres hkl
  subst hec
  have c0 := HX.out.c0
  have c1 := HX.out.c1
  have c2 := HX.out.c2
  have c3 := HX.out.c3
  have c4 := HX.out.c4
  have c5 := HX.out.c5
  go_enter Try.func137, Try.ntmps137
  go_upto_region 1 with fail
  rw [← hwa, ← hw1]
  clear hwa hw1 hsa
  go_wp2
  clear hmk
  rw [HKL.out]
  go_loopw [4, 5, 12] (fun _ _ i wr => ∃ (k : Nat) (f : Nat → Value) (b : Nat → Nat), k ≤ c ∧ i = .int .i64 k ∧ Hid (Below w1.heap.size w1 wr) ∧ Hid (Fill2 wr w1.heap.size c k f b (cdT p (c : Int) jl kl))) (fun _ _ i _ => c - (intOf i).toNat)
  case atStart => exact ⟨0, _, _, Nat.zero_le _, rfl, Lib.hid (below_alloc1 _ _), Lib.hid (Fill2.start (World.rowIs_made w1 _ c _) (by simp) _)⟩
  case round =>
    obtain ⟨k, f, b, hk, rfl, HB, HF⟩ := hrel
    obtain ⟨wx, hwx⟩ : ∃ wx : World, wx = wr := ⟨_, rfl⟩
    subst hwx
    have hsx : w1.heap.size ≤ wx.heap.size := HB.out.size
    clear c0 c1 c2 c3 c4 c5
    have HXX := Lib.hid (HNX.out wx HB.out)
    have c0 := HXX.out.c0
    have c1 := HXX.out.c1
    have c2 := HXX.out.c2
    have c3 := HXX.out.c3
    have c4 := HXX.out.c4
    have c5 := HXX.out.c5
    by_cases hlt : k < c
    · have hlt2 : k < kl.length := by rw [HKL.out]; exact hlt
      refine Sl.cases HXX.out.cx.fk (fun _ _ hx _ => absurd hlt2 (by simp [hx])) (fun bk ok c2' hvv _ _ hcl => ?_)
      injection hvv with e1 e2 e3
      clear e2
      subst e1 e3
      obtain ⟨ur, hur, hrr⟩ := hcl k hlt2
      obtain ⟨y, hy⟩ : ∃ y, y = kl[k] := ⟨_, rfl⟩
      rw [← hy] at hrr
      have hok := HAP.out k hlt2
      rw [← hy] at hok
      have HOK := Lib.hid hok
      have HYL : Hid (y.length ≤ 1048576) := Lib.hid (HM.out.bk.2 y (by rw [hy]; exact List.getElem_mem hlt2))
      have HRR := Lib.hid hrr
      have HY : Hid (∀ h2 : k < (cdT p (c : Int) jl kl).length, (cdT p (c : Int) jl kl)[k] = apT p c y jl) := Lib.hid (fun h2 => by rw [HCD.out k hlt2 h2, hy])
      have hlk : (k : Int) < (c : Int) := by omega
      clear hcl hrr hy hok
      go_wp2_with fail
      refine (applyTablew_any p c ur (.slice aj jl.length cj) y jl _ HOK.out HRR.out HXX.out.cx.fj HYL.out (by omega)).mono ?_
      rintro ee w4 ⟨u, rfl, hw4, hb4⟩
      obtain ⟨au, cu, hus⟩ := Sw.shape hw4
      rw [apT_length' HOK.out] at hus
      subst hus
      have hs4 : wx.heap.size ≤ w4.heap.size := hb4.size
      have hlen : k < (cdT p (c : Int) jl kl).length := by rw [HCL.out]; exact hlt
      have hst := HF.out.step hb4 hlen (by rw [HY.out hlen]; exact w1_rw1 hw4 (by rw [apT_length' HOK.out]; omega))
      have hr4 := HF.out.row.of_block (hb4.block _ HF.out.row.lt)
      have g1 : w4.cell? ⟨w1.heap.size, k, none⟩ = some (f k) := hr4.cell hlt
      have g2 : w4.frozen? ⟨w1.heap.size, k, none⟩ = false := hr4.frozen k
      have HST := Lib.hid hst
      have HB4 : Hid (Below w1.heap.size w1 (w4.setCell ⟨w1.heap.size, k, none⟩ (.slice au c cu))) := Lib.hid ((HB.out.trans (hb4.mono hsx)).setCell (Nat.le_refl _) _)
      clear hw4 hb4 hst hr4 HF HB hlen
      go_wp2
      go_roundw
      case rel => first | exact ⟨k + 1, _, _, by omega, by go_num, HB4, HST⟩ | ((repeat apply Exists.intro); exact ⟨⟨k + 1, _, _, by omega, by go_num, HB4, HST⟩, rfl⟩)
      case measure => simp [intOf]; omega
    · have hlk : ¬ (k : Int) < (c : Int) := by omega
      have hkc : Hid (k = c) := Lib.hid (by omega)
      have HRW : Hid (Rw2 w1.heap.size wx.heap.size wx (.slice (some ⟨w1.heap.size, 0, none⟩) c c) (cdT p (c : Int) jl kl)) := Lib.hid (by
        have h0 := HF.out
        rw [hkc.out] at h0
        exact h0.rw2 HCL.out.symm (by omega))
      have HR1 : ∃ x0 x1 x2 x3, wx.heap[w.heap.size + 1]? = some (.cells #[x0, x1, x2, x3] 138) := by
        obtain ⟨x0, x1, x2, x3, hr⟩ := HR0.out
        exact ⟨x0, x1, x2, x3, by rw [HB.out.block (w.heap.size + 1) (by omega)]; exact hr⟩
      obtain ⟨x0, x1, x2, x3, hr⟩ := HR1
      have r0 : wx.rowIs (w.heap.size + 1) 138 4 (sel4 x0 x1 x2 x3) := rowIs4 hr
      have q0 : wx.cell? ⟨w.heap.size + 1, 0, none⟩ = some x0 := r0.cell (i := 0) (by omega)
      have z0 : wx.frozen? ⟨w.heap.size + 1, 0, none⟩ = false := r0.frozen 0
      have r1 := r0.set 0 (.int .i64 p)
      have q1 : (wx.setCell ⟨w.heap.size + 1, 0, none⟩ (.int .i64 p)).cell? ⟨w.heap.size + 1, 1, none⟩ = some x1 := r1.cell (i := 1) (by omega)
      have z1 : (wx.setCell ⟨w.heap.size + 1, 0, none⟩ (.int .i64 p)).frozen? ⟨w.heap.size + 1, 1, none⟩ = false := r1.frozen 1
      have r2 := r1.set 1 (.int .i64 (c : Int))
      have q2 : ((wx.setCell ⟨w.heap.size + 1, 0, none⟩ (.int .i64 p)).setCell ⟨w.heap.size + 1, 1, none⟩ (.int .i64 (c : Int))).cell? ⟨w.heap.size + 1, 2, none⟩ = some x2 := r2.cell (i := 2) (by omega)
      have z2 : ((wx.setCell ⟨w.heap.size + 1, 0, none⟩ (.int .i64 p)).setCell ⟨w.heap.size + 1, 1, none⟩ (.int .i64 (c : Int))).frozen? ⟨w.heap.size + 1, 2, none⟩ = false := r2.frozen 2
      have r3 := r2.set 2 (.int .i64 (c : Int))
      have q3 : (((wx.setCell ⟨w.heap.size + 1, 0, none⟩ (.int .i64 p)).setCell ⟨w.heap.size + 1, 1, none⟩ (.int .i64 (c : Int))).setCell ⟨w.heap.size + 1, 2, none⟩ (.int .i64 (c : Int))).cell? ⟨w.heap.size + 1, 3, none⟩ = some x3 := r3.cell (i := 3) (by omega)
      have z3 : (((wx.setCell ⟨w.heap.size + 1, 0, none⟩ (.int .i64 p)).setCell ⟨w.heap.size + 1, 1, none⟩ (.int .i64 (c : Int))).setCell ⟨w.heap.size + 1, 2, none⟩ (.int .i64 (c : Int))).frozen? ⟨w.heap.size + 1, 3, none⟩ = false := r3.frozen 3
      have r4 := r3.set 3 (.slice (some ⟨w1.heap.size, 0, none⟩) c c)
      obtain ⟨WF, hWF⟩ : ∃ W : World, W = ((((wx.setCell ⟨w.heap.size + 1, 0, none⟩ (.int .i64 p)).setCell ⟨w.heap.size + 1, 1, none⟩ (.int .i64 (c : Int))).setCell ⟨w.heap.size + 1, 2, none⟩ (.int .i64 (c : Int))).setCell ⟨w.heap.size + 1, 3, none⟩ (.slice (some ⟨w1.heap.size, 0, none⟩) c c)) := ⟨_, rfl⟩
      have hbWF : ∀ B (w0 : World), B ≤ w.heap.size + 1 → Below B w0 wx → Below B w0 WF := fun B w0 hl hb => by rw [hWF]; exact ((((hb.setCell (by show B ≤ w.heap.size + 1; exact hl) _).setCell (by show B ≤ w.heap.size + 1; exact hl) _).setCell (by show B ≤ w.heap.size + 1; exact hl) _).setCell (by show B ≤ w.heap.size + 1; exact hl) _)
      have hsWF : ∀ lo hi, w.heap.size + 1 < lo ∨ hi ≤ w.heap.size + 1 → Same lo hi wx WF := fun lo hi hl => by rw [hWF]; exact ((((Same.set _ hl).trans (Same.set _ hl)).trans (Same.set _ hl)).trans (Same.set _ hl))
      have hzWF : WF.heap.size = wx.heap.size := by rw [hWF]; simp
      rw [← hWF] at r4
      have f0 : WF.cell? ⟨w.heap.size + 1, 0, none⟩ = some (.int .i64 p) := r4.cell (i := 0) (by omega)
      have f1 : WF.cell? ⟨w.heap.size + 1, 1, none⟩ = some (.int .i64 (c : Int)) := r4.cell (i := 1) (by omega)
      have f2 : WF.cell? ⟨w.heap.size + 1, 2, none⟩ = some (.int .i64 (c : Int)) := r4.cell (i := 2) (by omega)
      have f3 : WF.cell? ⟨w.heap.size + 1, 3, none⟩ = some (.slice (some ⟨w1.heap.size, 0, none⟩) c c) := r4.cell (i := 3) (by omega)
      have HWWF := Lib.hid hWF
      clear hr r0 r1 r2 r3 r4 hWF
      have HRF := Lib.hid ((HRW.out.same (hsWF _ _ (Or.inl (by omega)))).wider (show w.heap.size ≤ w1.heap.size by omega) (Nat.le_of_eq hzWF.symm))
      have HBF := Lib.hid (hbWF w.heap.size w (by omega) HXX.out.below)
      clear hsWF hbWF hzWF HRW HF
      go_wp2
      rw [← HWWF.out]
      refine bodyPost_ret (v := .agg #[.int .i64 p, .int .i64 (c : Int), .int .i64 (c : Int), .slice (some ⟨w1.heap.size, 0, none⟩) c c]) ?_ rfl ?_
      · simp only [results, HRES.out]
        go_simp
      · exact ⟨_, rfl, HRF.out, HBF.out⟩

set_option maxHeartbeats 800000 in
set_option maxRecDepth 100000 in
theorem coupleDifferential_any (p d e : Int) (iv jv kv : Value) (il jl kl : List (List Int)) (w : World) (h : Cp 0 w iv jv kv il jl kl) (hm : CpB 1048576 il jl kl) :
    Calls Try.prog 71 #[.agg #[.int .i64 p, .int .i64 d, .int .i64 e, iv, jv, kv]] w (AnsW Rw2 (fun o => o = cdT p e jl kl) [] (cpCode p d e il jl kl) w) := by
  have HM := Lib.hid hm
  obtain ⟨w1, hw1⟩ : ∃ w1, w1 = w.alloc (.cells #[.int .i64 p, .int .i64 d, .int .i64 e, iv, jv, kv] 71) := ⟨_, rfl⟩
  have hs1 : w1.heap.size = w.heap.size + 1 := by rw [hw1]; simp
  have HX : Hid (BxCp w w1 w.heap.size p d e iv jv kv il jl kl) := Lib.hid (by rw [hw1]; exact BxCp.start 71 h)
  clear h hm
  have c0 := HX.out.c0
  have c1 := HX.out.c1
  have c2 := HX.out.c2
  have c3 := HX.out.c3
  have c4 := HX.out.c4
  have c5 := HX.out.c5
  by_cases hc : IsCp p d e il jl kl
  · have HC := Lib.hid hc
    have HCODE := Lib.hid (cpCode_yes hc)
    clear hc
    go_enter Try.func71, Try.ntmps71
    go_upto_region 1 with fail
    rw [← hw1]
    clear hw1
    go_wp2_with fail
    refine (isCouple_any p d e iv jv kv il jl kl _ HX.out.cx HM.out).mono ?_
    rintro ee w2 ⟨b, rfl, hb, hbb⟩
    obtain rfl : b = true := hbb.2 HC.out
    have HX2 := Lib.hid (HX.out.next hb)
    have hs2 : w1.heap.size ≤ w2.heap.size := hb.size
    clear hb hbb c0 c1 c2 c3 c4 c5
    have c0 := HX2.out.c0
    have c1 := HX2.out.c1
    have c2 := HX2.out.c2
    have c3 := HX2.out.c3
    have c4 := HX2.out.c4
    have c5 := HX2.out.c5
    go_wp2_with fail
    refine (differential_any p d e iv jv kv il jl kl _ HX2.out.cx HM.out HC.out).mono ?_
    rintro ee w3 ⟨u, rfl, hg, hb⟩
    have HX3 := Lib.hid (HX2.out.next hb)
    obtain ⟨au, cu, hus⟩ := hg.shape
    have HG := Lib.hid hg
    clear hb hg c0 c1 c2 c3 c4 c5
    subst hus
    have HFD : Hid (∀ n, (Instr.field 138 (.agg #[.int .i64 p, .int .i64 e, .int .i64 e, .slice au n cu]) 3).run Try.prog w3 = .ok (.slice au n cu) w3) := Lib.hid (fun n => by kernel_rfl)
    go_wp2
    rw [HFD.out]
    go_wp2
    go_ret2
    exact ⟨_, _, 0, rfl, HG.out.wider (by omega) (Nat.le_refl _), HX3.out.below, RsOut.of_yes HCODE.out rfl⟩
  · have HC := Lib.hid hc
    have HCODE := Lib.hid (cpCode_no hc)
    clear hc
    go_enter Try.func71, Try.ntmps71
    go_upto_region 1 with fail
    rw [← hw1]
    clear hw1
    go_wp2_with fail
    refine (isCouple_any p d e iv jv kv il jl kl _ HX.out.cx HM.out).mono ?_
    rintro ee w2 ⟨b, rfl, hb, hbb⟩
    obtain rfl : b = false := bb_no hbb HC.out
    have HX2 := Lib.hid (HX.out.next hb)
    clear hb hbb c0 c1 c2 c3 c4 c5
    go_wp2
    go_ret2
    exact ⟨_, [], 1, rfl, Rw2.nil _ _ _, HX2.out.below, by rw [HCODE.out]; exact RsOut.of_no (by decide)⟩
end Go.Proofs.Ytpdkfidmmjlmnab
