/-
  SphereComplex of both sides by contracts.
-/
import Derived.Test.YtpdkfidmmjlmnaaShw
import Derived.Test.YtpdkfidmmjlmnaaUcm
import Derived.Test.YtpdkfidmmjlmnaaMpo
import Derived.Test.YtpdkfidmmjlmnaaBlk
import Derived.Test.YtpdkfidmmjlmnaaRwo
namespace Go.Proofs.Ytpdkfidmmjlmnaa
open Go.RowKit

theorem unit_cx {p : Int} (h : IsP p) : IsCx p [1] [] :=
  ⟨⟨h, by simp, by simp, by simp, fun d hd => by simp at hd; omega, fun k hk => absurd hk (Nat.not_lt_zero _)⟩, fun q hq => absurd hq (Nat.not_lt_zero _)⟩
open Classical in
noncomputable def sphCode (p n : Int) : Int := if IsP p then shCode p n [1] [] else 2
theorem sphCode_yes {p n : Int} (h : IsP p) : sphCode p n = shCode p n [1] [] := if_pos h
theorem sphCode_no {p n : Int} (h : ¬ IsP p) : sphCode p n = 2 := if_neg h
theorem sphCode_zero {p n : Int} (h : sphCode p n = 0) : ShOk p n [1] [] := by
  by_cases hp : IsP p
  · rw [sphCode_yes hp] at h
    exact shCode_zero h
  · rw [sphCode_no hp] at h
    cases h
theorem sph_out {p n : Int} (hp : IsP p) (hn : ¬ (0 ≤ n ∧ n ≤ 5)) : sphCode p n = 2 := by
  rw [sphCode_yes hp]
  unfold shCode
  rw [if_neg (fun x => x (unit_cx hp)), if_pos hn]
theorem sph_ok {p n : Int} (hp : IsP p) (hn : 0 ≤ n ∧ n ≤ 5) : ShOk p n [1] [] := ⟨unit_cx hp, hn, by simp; omega⟩
theorem shd_one (K k : Nat) (h : k ≤ K) : shd [1] K k = if k = K then 1 else 0 := by
  unfold shd
  by_cases e : k = K
  · subst e
    rw [if_neg (Nat.lt_irrefl _), if_pos rfl, Nat.sub_self]
    rfl
  · rw [if_pos (by omega), if_neg e]
theorem sht_one (p : Int) {K q : Nat} (h : q + 1 ≤ K) : sht p [1] [] K q = if q + 1 = K then [[]] else [] := by
  unfold sht
  rw [if_pos (by omega), shd_one K (q + 1) h, shd_one K q (by omega), if_neg (show ¬ q = K by omega)]
  by_cases e : q + 1 = K
  · rw [if_pos e, if_pos e]
    rfl
  · rw [if_neg e, if_neg e]
    rfl

set_option maxHeartbeats 6400000 in
set_option maxRecDepth 100000 in
theorem sphereComplex_any (p n : Int) (w : World) : Calls Try.prog 70 #[.int .i64 p, .int .i64 n] w (AnsW RwC (fun o => o = shOut p n [1] []) (0, [], []) (sphCode p n) w) := by
  have hres : Try.f70.results = #[.cell 4 28, .tmp 5] := by kernel_rfl
  have HRES := Lib.hid hres
  clear hres
  obtain ⟨w1, hw1⟩ : ∃ w1, w1 = w.alloc (.cells #[.int .i64 0, .slice none 0 0, .slice none 0 0] 28) := ⟨_, rfl⟩
  have HR0 : Hid (Rz w1 w.heap.size 28 #[.int .i64 0, .slice none 0 0, .slice none 0 0]) := Lib.hid (by rw [hw1]; exact Rz.new _ _ _)
  have HB1 : Hid (Below w.heap.size w w1) := Lib.hid (by rw [hw1]; exact below_alloc1 _ _)
  have hs1 : w.heap.size + 1 = w1.heap.size := by rw [hw1]; simp
  by_cases hp : ¬ IsP p
  · have HP := Lib.hid hp
    have HC2 : Hid (unitCode p = 2) := Lib.hid (unitCode_no hp)
    clear hp
    go_enter Try.func70, Try.ntmps70
    go_upto_region 1 with fail
    rw [← hw1]
    clear hw1
    go_wp2_with fail
    refine (unitComplex_any p w1).mono ?_
    rintro ee w2 ⟨u, o, c, rfl, hR, hb, ho⟩
    obtain rfl := ho.bad (by rw [HC2.out]; decide)
    obtain rfl := ho.code.trans HC2.out
    obtain ⟨ad, cd, am, cm, hu, _⟩ := hR
    have hu : u = .agg #[.int .i64 0, .slice ad 0 cd, .slice am 0 cm] := hu
    subst hu
    obtain ⟨w3, hw3⟩ : ∃ w3, w3 = w2.alloc (.cells #[.int .i64 0, .slice ad 0 cd, .slice am 0 cm] 28) := ⟨_, rfl⟩
    have hb3 : Below w2.heap.size w2 w3 := by rw [hw3]; exact below_alloc1 _ _
    have HR3 := Lib.hid ((HR0.out.next hb).next hb3)
    have HB3 := Lib.hid (HB1.out.trans ((hb.trans (hb3.mono hb.size)).mono (by omega)))
    clear hb hb3 ho
    go_upto_region 2 with fail
    rw [← hw3]
    clear hw3
    have HR1 : ∃ x0 x1 x2, w3.heap[w.heap.size]? = some (.cells #[x0, x1, x2] 28) := ⟨_, _, _, HR3.out⟩
    obtain ⟨x0, x1, x2, hr⟩ := HR1
    have r0 : w3.rowIs (w.heap.size) 28 3 (sel3 x0 x1 x2) := rowIs3 hr
    have q0 : w3.cell? ⟨w.heap.size, 0, none⟩ = some x0 := r0.cell (i := 0) (by omega)
    have z0 : w3.frozen? ⟨w.heap.size, 0, none⟩ = false := r0.frozen 0
    have r1 := r0.set 0 (.int .i64 0)
    have q1 : (w3.setCell ⟨w.heap.size, 0, none⟩ (.int .i64 0)).cell? ⟨w.heap.size, 1, none⟩ = some x1 := r1.cell (i := 1) (by omega)
    have z1 : (w3.setCell ⟨w.heap.size, 0, none⟩ (.int .i64 0)).frozen? ⟨w.heap.size, 1, none⟩ = false := r1.frozen 1
    have r2 := r1.set 1 (.slice none 0 0)
    have q2 : ((w3.setCell ⟨w.heap.size, 0, none⟩ (.int .i64 0)).setCell ⟨w.heap.size, 1, none⟩ (.slice none 0 0)).cell? ⟨w.heap.size, 2, none⟩ = some x2 := r2.cell (i := 2) (by omega)
    have z2 : ((w3.setCell ⟨w.heap.size, 0, none⟩ (.int .i64 0)).setCell ⟨w.heap.size, 1, none⟩ (.slice none 0 0)).frozen? ⟨w.heap.size, 2, none⟩ = false := r2.frozen 2
    have r3 := r2.set 2 (.slice none 0 0)
    obtain ⟨WF, hWF⟩ : ∃ W : World, W = (((w3.setCell ⟨w.heap.size, 0, none⟩ (.int .i64 0)).setCell ⟨w.heap.size, 1, none⟩ (.slice none 0 0)).setCell ⟨w.heap.size, 2, none⟩ (.slice none 0 0)) := ⟨_, rfl⟩
    have hbWF : ∀ B (w0 : World), B ≤ w.heap.size → Below B w0 w3 → Below B w0 WF := fun B w0 hl hb => by rw [hWF]; exact (((hb.setCell (by show B ≤ w.heap.size; exact hl) _).setCell (by show B ≤ w.heap.size; exact hl) _).setCell (by show B ≤ w.heap.size; exact hl) _)
    have hsWF : ∀ lo hi, w.heap.size < lo ∨ hi ≤ w.heap.size → Same lo hi w3 WF := fun lo hi hl => by rw [hWF]; exact (((Same.set _ hl).trans (Same.set _ hl)).trans (Same.set _ hl))
    have hzWF : WF.heap.size = w3.heap.size := by rw [hWF]; simp
    rw [← hWF] at r3
    have f0 : WF.cell? ⟨w.heap.size, 0, none⟩ = some (.int .i64 0) := r3.cell (i := 0) (by omega)
    have f1 : WF.cell? ⟨w.heap.size, 1, none⟩ = some (.slice none 0 0) := r3.cell (i := 1) (by omega)
    have f2 : WF.cell? ⟨w.heap.size, 2, none⟩ = some (.slice none 0 0) := r3.cell (i := 2) (by omega)
    have HWWF := Lib.hid hWF
    clear hr r0 r1 r2 r3 hWF
    have HBF := Lib.hid (hbWF w.heap.size w (Nat.le_refl _) HB3.out)
    clear hsWF hbWF hzWF
    go_wp2
    rw [← HWWF.out]
    refine bodyPost_ret (v := .tuple #[.agg #[.int .i64 0, .slice none 0 0, .slice none 0 0], .int .i64 2]) ?_ rfl ?_
    · simp only [results, HRES.out]
      go_simp
    · exact ⟨_, (0, [], []), 2, rfl, RwC.nil _ _ _, HBF.out, by rw [sphCode_no HP.out]; exact RsOut.of_no (by decide)⟩
  · have HP := Lib.hid (Classical.not_not.1 hp)
    have HC2 : Hid (unitCode p = 0) := Lib.hid (unitCode_yes HP.out)
    clear hp
    go_enter Try.func70, Try.ntmps70
    go_upto_region 1 with fail
    rw [← hw1]
    clear hw1
    go_wp2_with fail
    refine (unitComplex_any p w1).mono ?_
    rintro ee w2 ⟨u, o, c, rfl, hR, hb, ho⟩
    have he := ho.good HC2.out
    subst he
    obtain rfl := ho.code.trans HC2.out
    obtain ⟨ad, cd, am, cm, hu, hrc⟩ := hR
    have hu : u = .agg #[.int .i64 p, .slice ad 1 cd, .slice am 0 cm] := hu
    subst hu
    have HCX0 : Hid (Cx 0 w2 (.slice ad 1 cd) (.slice am 0 cm) [1] []) := Lib.hid hrc.cx
    obtain ⟨w3, hw3⟩ : ∃ w3, w3 = w2.alloc (.cells #[.int .i64 p, .slice ad 1 cd, .slice am 0 cm] 28) := ⟨_, rfl⟩
    have hb3 : Below w2.heap.size w2 w3 := by rw [hw3]; exact below_alloc1 _ _
    have HR3 := Lib.hid ((HR0.out.next hb).next hb3)
    have HB3 := Lib.hid (HB1.out.trans ((hb.trans (hb3.mono hb.size)).mono (by omega)))
    have HX3 := Lib.hid (HCX0.out.below hb3)
    have k0 : w3.cell? ⟨w2.heap.size, 0, none⟩ = some (.int .i64 p) := by rw [hw3]; simp
    have k1 : w3.cell? ⟨w2.heap.size, 1, none⟩ = some (.slice ad 1 cd) := by rw [hw3]; simp
    have k2 : w3.cell? ⟨w2.heap.size, 2, none⟩ = some (.slice am 0 cm) := by rw [hw3]; simp
    have hs3 : w.heap.size < w3.heap.size := by have := HR3.out.lt; exact this
    clear hb hb3 ho hrc
    go_upto_region 2 with fail
    rw [← hw3]
    clear hw3
    go_wp2_with fail
    refine (shiftComplex_any p n _ _ [1] [] w3 HX3.out (by simp) ⟨by simp, by simp⟩).mono ?_
    rintro ee w4 ⟨u4, o4, k4, rfl, hR4, hb4, ho4⟩
    obtain ⟨o4p, o4d, o4m⟩ := o4
    obtain ⟨a4, c4, b4, d4, hu, hrc⟩ := hR4
    have hu : u4 = .agg #[.int .i64 o4p, .slice a4 o4d.length c4, .slice b4 o4m.length d4] := hu
    subst hu
    have hrc : RcW w3.heap.size w4.heap.size w4 (.slice a4 o4d.length c4) (.slice b4 o4m.length d4) o4d o4m := hrc
    have HRC := Lib.hid hrc
    have HO4 := Lib.hid ho4
    have HR4 := Lib.hid (HR3.out.next hb4)
    have HB4 := Lib.hid (HB3.out.trans (hb4.mono (by omega)))
    clear hrc ho4 hb4 k0 k1 k2
    have HR1 : ∃ x0 x1 x2, w4.heap[w.heap.size]? = some (.cells #[x0, x1, x2] 28) := ⟨_, _, _, HR4.out⟩
    obtain ⟨x0, x1, x2, hr⟩ := HR1
    have r0 : w4.rowIs (w.heap.size) 28 3 (sel3 x0 x1 x2) := rowIs3 hr
    have q0 : w4.cell? ⟨w.heap.size, 0, none⟩ = some x0 := r0.cell (i := 0) (by omega)
    have z0 : w4.frozen? ⟨w.heap.size, 0, none⟩ = false := r0.frozen 0
    have r1 := r0.set 0 (.int .i64 o4p)
    have q1 : (w4.setCell ⟨w.heap.size, 0, none⟩ (.int .i64 o4p)).cell? ⟨w.heap.size, 1, none⟩ = some x1 := r1.cell (i := 1) (by omega)
    have z1 : (w4.setCell ⟨w.heap.size, 0, none⟩ (.int .i64 o4p)).frozen? ⟨w.heap.size, 1, none⟩ = false := r1.frozen 1
    have r2 := r1.set 1 (.slice a4 o4d.length c4)
    have q2 : ((w4.setCell ⟨w.heap.size, 0, none⟩ (.int .i64 o4p)).setCell ⟨w.heap.size, 1, none⟩ (.slice a4 o4d.length c4)).cell? ⟨w.heap.size, 2, none⟩ = some x2 := r2.cell (i := 2) (by omega)
    have z2 : ((w4.setCell ⟨w.heap.size, 0, none⟩ (.int .i64 o4p)).setCell ⟨w.heap.size, 1, none⟩ (.slice a4 o4d.length c4)).frozen? ⟨w.heap.size, 2, none⟩ = false := r2.frozen 2
    have r3 := r2.set 2 (.slice b4 o4m.length d4)
    obtain ⟨WF, hWF⟩ : ∃ W : World, W = (((w4.setCell ⟨w.heap.size, 0, none⟩ (.int .i64 o4p)).setCell ⟨w.heap.size, 1, none⟩ (.slice a4 o4d.length c4)).setCell ⟨w.heap.size, 2, none⟩ (.slice b4 o4m.length d4)) := ⟨_, rfl⟩
    have hbWF : ∀ B (w0 : World), B ≤ w.heap.size → Below B w0 w4 → Below B w0 WF := fun B w0 hl hb => by rw [hWF]; exact (((hb.setCell (by show B ≤ w.heap.size; exact hl) _).setCell (by show B ≤ w.heap.size; exact hl) _).setCell (by show B ≤ w.heap.size; exact hl) _)
    have hsWF : ∀ lo hi, w.heap.size < lo ∨ hi ≤ w.heap.size → Same lo hi w4 WF := fun lo hi hl => by rw [hWF]; exact (((Same.set _ hl).trans (Same.set _ hl)).trans (Same.set _ hl))
    have hzWF : WF.heap.size = w4.heap.size := by rw [hWF]; simp
    rw [← hWF] at r3
    have f0 : WF.cell? ⟨w.heap.size, 0, none⟩ = some (.int .i64 o4p) := r3.cell (i := 0) (by omega)
    have f1 : WF.cell? ⟨w.heap.size, 1, none⟩ = some (.slice a4 o4d.length c4) := r3.cell (i := 1) (by omega)
    have f2 : WF.cell? ⟨w.heap.size, 2, none⟩ = some (.slice b4 o4m.length d4) := r3.cell (i := 2) (by omega)
    have HWWF := Lib.hid hWF
    clear hr r0 r1 r2 r3 hWF
    have HRF := Lib.hid ((HRC.out.same (hsWF _ _ (Or.inl hs3))).wider (show w.heap.size ≤ w3.heap.size by omega) (Nat.le_of_eq hzWF.symm))
    have HBF := Lib.hid (hbWF w.heap.size w (Nat.le_refl _) HB4.out)
    clear hsWF hbWF hzWF HRC
    go_wp2
    rw [← HWWF.out]
    refine bodyPost_ret (v := .tuple #[.agg #[.int .i64 o4p, .slice a4 o4d.length c4, .slice b4 o4m.length d4], .int .i64 k4]) ?_ rfl ?_
    · simp only [results, HRES.out]
      go_simp
    · exact ⟨_, (o4p, o4d, o4m), k4, rfl, ⟨a4, c4, b4, d4, rfl, HRF.out⟩, HBF.out, by rw [sphCode_yes HP.out]; exact HO4.out⟩

set_option maxHeartbeats 12800000 in
set_option maxRecDepth 100000 in
theorem spSphereComplex_any (p n : Int) (w : World) : Calls Try.prog 69 #[.int .i64 p, .int .i64 n] w (AnsS RsC (fun o => o = shOut p n [1] []) (0, [], []) (sphCode p n) w) := by
  have hres : Try.f69.results = #[.cell 4 28, .tmp 5] := by kernel_rfl
  have HRES := Lib.hid hres
  clear hres
  obtain ⟨wB, hwB⟩ : ∃ wB, wB = w.alloc (.cells #[.int .i64 0, .slice none 0 0, .slice none 0 0] 28) := ⟨_, rfl⟩
  have HR0 : Hid (Rz wB w.heap.size 28 #[.int .i64 0, .slice none 0 0, .slice none 0 0]) := Lib.hid (by rw [hwB]; exact Rz.new _ _ _)
  have HB1 : Hid (Below w.heap.size w wB) := Lib.hid (by rw [hwB]; exact below_alloc1 _ _)
  have hs1 : w.heap.size + 1 = wB.heap.size := by rw [hwB]; simp
  by_cases hp : ¬ IsP p
  · have HP := Lib.hid hp
    clear hp
    go_enter Try.func69, Try.ntmps69
    go_upto_region 1 with fail
    rw [← hwB]
    clear hwB
    go_wp2_with fail
    refine (spprime_no HP.out _).mono ?_
    rintro ee w' ⟨rfl, rfl⟩
    have HR1 : ∃ x0 x1 x2, wB.heap[w.heap.size]? = some (.cells #[x0, x1, x2] 28) := ⟨_, _, _, HR0.out⟩
    obtain ⟨x0, x1, x2, hr⟩ := HR1
    have r0 : wB.rowIs (w.heap.size) 28 3 (sel3 x0 x1 x2) := rowIs3 hr
    have q0 : wB.cell? ⟨w.heap.size, 0, none⟩ = some x0 := r0.cell (i := 0) (by omega)
    have z0 : wB.frozen? ⟨w.heap.size, 0, none⟩ = false := r0.frozen 0
    have r1 := r0.set 0 (.int .i64 0)
    have q1 : (wB.setCell ⟨w.heap.size, 0, none⟩ (.int .i64 0)).cell? ⟨w.heap.size, 1, none⟩ = some x1 := r1.cell (i := 1) (by omega)
    have z1 : (wB.setCell ⟨w.heap.size, 0, none⟩ (.int .i64 0)).frozen? ⟨w.heap.size, 1, none⟩ = false := r1.frozen 1
    have r2 := r1.set 1 (.slice none 0 0)
    have q2 : ((wB.setCell ⟨w.heap.size, 0, none⟩ (.int .i64 0)).setCell ⟨w.heap.size, 1, none⟩ (.slice none 0 0)).cell? ⟨w.heap.size, 2, none⟩ = some x2 := r2.cell (i := 2) (by omega)
    have z2 : ((wB.setCell ⟨w.heap.size, 0, none⟩ (.int .i64 0)).setCell ⟨w.heap.size, 1, none⟩ (.slice none 0 0)).frozen? ⟨w.heap.size, 2, none⟩ = false := r2.frozen 2
    have r3 := r2.set 2 (.slice none 0 0)
    obtain ⟨WF, hWF⟩ : ∃ W : World, W = (((wB.setCell ⟨w.heap.size, 0, none⟩ (.int .i64 0)).setCell ⟨w.heap.size, 1, none⟩ (.slice none 0 0)).setCell ⟨w.heap.size, 2, none⟩ (.slice none 0 0)) := ⟨_, rfl⟩
    have hbWF : ∀ B (w0 : World), B ≤ w.heap.size → Below B w0 wB → Below B w0 WF := fun B w0 hl hb => by rw [hWF]; exact (((hb.setCell (by show B ≤ w.heap.size; exact hl) _).setCell (by show B ≤ w.heap.size; exact hl) _).setCell (by show B ≤ w.heap.size; exact hl) _)
    have hsWF : ∀ lo hi, w.heap.size < lo ∨ hi ≤ w.heap.size → Same lo hi wB WF := fun lo hi hl => by rw [hWF]; exact (((Same.set _ hl).trans (Same.set _ hl)).trans (Same.set _ hl))
    have hzWF : WF.heap.size = wB.heap.size := by rw [hWF]; simp
    rw [← hWF] at r3
    have f0 : WF.cell? ⟨w.heap.size, 0, none⟩ = some (.int .i64 0) := r3.cell (i := 0) (by omega)
    have f1 : WF.cell? ⟨w.heap.size, 1, none⟩ = some (.slice none 0 0) := r3.cell (i := 1) (by omega)
    have f2 : WF.cell? ⟨w.heap.size, 2, none⟩ = some (.slice none 0 0) := r3.cell (i := 2) (by omega)
    have HWWF := Lib.hid hWF
    clear hr r0 r1 r2 r3 hWF
    have HBF := Lib.hid (hbWF w.heap.size w (Nat.le_refl _) HB1.out)
    clear hsWF hbWF hzWF
    go_wp2
    rw [← HWWF.out]
    refine bodyPost_ret (v := .tuple #[.agg #[.int .i64 0, .slice none 0 0, .slice none 0 0], .int .i64 2]) ?_ rfl ?_
    · simp only [results, HRES.out]
      go_simp
    · exact ⟨_, (0, [], []), 2, rfl, RsC.nil _, HBF.out, by rw [sphCode_no HP.out]; exact RsOut.of_no (by decide)⟩
  have HP := Lib.hid (Classical.not_not.1 hp)
  clear hp
  by_cases hn : ¬ (0 ≤ n ∧ n ≤ 5)
  · have HN := Lib.hid hn
    clear hn
    go_enter Try.func69, Try.ntmps69
    go_upto_region 1 with fail
    rw [← hwB]
    clear hwB
    go_wp2_with fail
    refine (spprime_yes HP.out _).mono ?_
    rintro ee w' ⟨rfl, rfl⟩
    go_wp2_with fail
    refine (spin_no HN.out _).mono ?_
    rintro ee w' ⟨rfl, rfl⟩
    have HR1 : ∃ x0 x1 x2, wB.heap[w.heap.size]? = some (.cells #[x0, x1, x2] 28) := ⟨_, _, _, HR0.out⟩
    obtain ⟨x0, x1, x2, hr⟩ := HR1
    have r0 : wB.rowIs (w.heap.size) 28 3 (sel3 x0 x1 x2) := rowIs3 hr
    have q0 : wB.cell? ⟨w.heap.size, 0, none⟩ = some x0 := r0.cell (i := 0) (by omega)
    have z0 : wB.frozen? ⟨w.heap.size, 0, none⟩ = false := r0.frozen 0
    have r1 := r0.set 0 (.int .i64 0)
    have q1 : (wB.setCell ⟨w.heap.size, 0, none⟩ (.int .i64 0)).cell? ⟨w.heap.size, 1, none⟩ = some x1 := r1.cell (i := 1) (by omega)
    have z1 : (wB.setCell ⟨w.heap.size, 0, none⟩ (.int .i64 0)).frozen? ⟨w.heap.size, 1, none⟩ = false := r1.frozen 1
    have r2 := r1.set 1 (.slice none 0 0)
    have q2 : ((wB.setCell ⟨w.heap.size, 0, none⟩ (.int .i64 0)).setCell ⟨w.heap.size, 1, none⟩ (.slice none 0 0)).cell? ⟨w.heap.size, 2, none⟩ = some x2 := r2.cell (i := 2) (by omega)
    have z2 : ((wB.setCell ⟨w.heap.size, 0, none⟩ (.int .i64 0)).setCell ⟨w.heap.size, 1, none⟩ (.slice none 0 0)).frozen? ⟨w.heap.size, 2, none⟩ = false := r2.frozen 2
    have r3 := r2.set 2 (.slice none 0 0)
    obtain ⟨WF, hWF⟩ : ∃ W : World, W = (((wB.setCell ⟨w.heap.size, 0, none⟩ (.int .i64 0)).setCell ⟨w.heap.size, 1, none⟩ (.slice none 0 0)).setCell ⟨w.heap.size, 2, none⟩ (.slice none 0 0)) := ⟨_, rfl⟩
    have hbWF : ∀ B (w0 : World), B ≤ w.heap.size → Below B w0 wB → Below B w0 WF := fun B w0 hl hb => by rw [hWF]; exact (((hb.setCell (by show B ≤ w.heap.size; exact hl) _).setCell (by show B ≤ w.heap.size; exact hl) _).setCell (by show B ≤ w.heap.size; exact hl) _)
    have hsWF : ∀ lo hi, w.heap.size < lo ∨ hi ≤ w.heap.size → Same lo hi wB WF := fun lo hi hl => by rw [hWF]; exact (((Same.set _ hl).trans (Same.set _ hl)).trans (Same.set _ hl))
    have hzWF : WF.heap.size = wB.heap.size := by rw [hWF]; simp
    rw [← hWF] at r3
    have f0 : WF.cell? ⟨w.heap.size, 0, none⟩ = some (.int .i64 0) := r3.cell (i := 0) (by omega)
    have f1 : WF.cell? ⟨w.heap.size, 1, none⟩ = some (.slice none 0 0) := r3.cell (i := 1) (by omega)
    have f2 : WF.cell? ⟨w.heap.size, 2, none⟩ = some (.slice none 0 0) := r3.cell (i := 2) (by omega)
    have HWWF := Lib.hid hWF
    clear hr r0 r1 r2 r3 hWF
    have HBF := Lib.hid (hbWF w.heap.size w (Nat.le_refl _) HB1.out)
    clear hsWF hbWF hzWF
    go_wp2
    rw [← HWWF.out]
    refine bodyPost_ret (v := .tuple #[.agg #[.int .i64 0, .slice none 0 0, .slice none 0 0], .int .i64 2]) ?_ rfl ?_
    · simp only [results, HRES.out]
      go_simp
    · exact ⟨_, (0, [], []), 2, rfl, RsC.nil _, HBF.out, by rw [sph_out HP.out HN.out]; exact RsOut.of_no (by decide)⟩
  have HN := Lib.hid (Classical.not_not.1 hn)
  clear hn
  have hn0 := HN.out.1
  have hn5 := HN.out.2
  obtain ⟨K, hKe⟩ : ∃ K : Nat, n = (K : Int) := ⟨n.toNat, by omega⟩
  subst hKe
  have hK5 : K ≤ 5 := by omega
  go_enter Try.func69, Try.ntmps69
  go_upto_region 1 with fail
  rw [← hwB]
  clear hwB
  go_wp2_with fail
  refine (spprime_yes HP.out _).mono ?_
  rintro ee w' ⟨rfl, rfl⟩
  go_wp2_with fail
  refine (spin_yes HN.out _).mono ?_
  rintro ee w' ⟨rfl, rfl⟩
  obtain ⟨wp, hwp⟩ : ∃ wp, wp = wB.alloc (.cells #[] 2) := ⟨_, rfl⟩
  obtain ⟨wq, hwq⟩ : ∃ wq, wq = wp.alloc (.cells #[] 41) := ⟨_, rfl⟩
  have hsp : wp.heap.size = wB.heap.size + 1 := by rw [hwp]; simp
  have hsq : wq.heap.size = wB.heap.size + 2 := by rw [hwq]; simp [hsp]
  obtain ⟨wo, hwo⟩ : ∃ wo, wo = wq.alloc (.cells #[.int .i64 p, .slice (some ⟨wB.heap.size, 0, none⟩) 0 0, .slice (some ⟨wB.heap.size + 1, 0, none⟩) 0 0] 28) := ⟨_, rfl⟩
  have HS0 : Hid (Sdo wB wo (wB.heap.size + 1 + 1) p (.slice (some ⟨wB.heap.size, 0, none⟩) 0 0) (.slice (some ⟨wB.heap.size + 1, 0, none⟩) 0 0) [] []) := Lib.hid (by
    have b1 : Below wB.heap.size wB wp := by rw [hwp]; exact below_alloc1 _ _
    have b2 : Below wp.heap.size wp wq := by rw [hwq]; exact below_alloc1 _ _
    have b3 : Below wq.heap.size wq wo := by rw [hwo]; exact below_alloc1 _ _
    have g1 : Gb wB.heap.size wp (.slice (some ⟨wB.heap.size, 0, none⟩) 0 0) [] := by rw [hwp]; exact Gb.new wB (Nat.le_refl _)
    have g2 : Gt wB.heap.size wq (.slice (some ⟨wB.heap.size + 1, 0, none⟩) 0 0) [] := by
      have := Gt.new (base := wB.heap.size) wp (by omega)
      rw [hsp] at this
      rw [hwq]
      exact this
    refine Sdo.start ⟨(b1.trans (b2.mono (by omega))).trans (b3.mono (by omega)), by omega, ?_, (g1.below b2).below b3, g2.below b3⟩
    refine rowIs3 ?_
    have := heap_alloc_new wq (.cells #[.int .i64 p, .slice (some ⟨wB.heap.size, 0, none⟩) 0 0, .slice (some ⟨wB.heap.size + 1, 0, none⟩) 0 0] 28)
    rw [← hwo, hsq] at this
    exact this)
  obtain ⟨g, hg⟩ : ∃ g, g = wB.heap.size + 1 + 1 := ⟨_, rfl⟩
  go_upto_region 4 with fail
  rw [← hwp, ← hwq, ← hwo]
  rw [← hg]
  rw [← hg] at HS0
  clear hwp hwq hwo hsp hsq hg
  have HNB : Hid (∀ W, Below wB.heap.size wB W → Rz W w.heap.size 28 #[.int .i64 0, .slice none 0 0, .slice none 0 0]) := Lib.hid (fun W hb => HR0.out.next hb)
  have hK0 : (0 : Int) ≤ (K : Int) := by omega
  go_wp2
  go_loopw [7, 8, 9] (fun i _ _ wr => ∃ (k q : Nat) (a1 a2 : Option Addr) (c1 c2 : Nat), k ≤ K + 1 ∧ i = .int .i64 k ∧ Hid (q = k - 1) ∧ Hid (Sdo wB wr g p (.slice a1 k c1) (.slice a2 q c2) ((shD [1] K).take k) ((shM p [1] [] K).take q))) (fun i _ _ _ => K + 1 - (intOf i).toNat)
  case atStart => exact ⟨0, 0, _, _, _, _, Nat.zero_le _, rfl, Lib.hid rfl, by simpa using HS0⟩
  case round =>
    clear HS0
    obtain ⟨k, q, a1, a2, cc1, cc2, hk, rfl, HQ, HS⟩ := hrel
    obtain ⟨wx, hwx⟩ : ∃ wx : World, wx = wr := ⟨_, rfl⟩
    subst hwx
    have hqb : q ≤ 20 := by have := HQ.out; omega
    have hk0i : (0 : Int) ≤ (k : Int) := by omega
    by_cases hlt : k ≤ K
    · have hki : (k : Int) ≤ (K : Int) := by omega
      by_cases hkK : k = K
      · have hkd : shd [1] K k = 1 := by rw [shd_one K k hlt]; simp [hkK]
        have HKD := Lib.hid hkd
        have hbe0 : ((k : Int) == (K : Int)) = true := by rw [hkK]; simp
        have HKK := Lib.hid hkK
        obtain ⟨TK, hTK⟩ : ∃ TK, TK = (shD [1] K).take k := ⟨_, rfl⟩
        have HSY : Hid (Sdo wB wx g p (.slice a1 k cc1) (.slice a2 q cc2) TK ((shM p [1] [] K).take q)) := Lib.hid (by rw [hTK]; exact HS.out)
        have HKL : Hid (TK.length = k) := Lib.hid (by rw [hTK, List.length_take, shD_length]; simp; omega)
        have HXE : Hid ((shD [1] K).take (k + 1) = TK ++ [1]) := Lib.hid (by rw [hTK, List.take_succ_eq_append_getElem (by rw [shD_length]; simp; omega)]; simp only [shD, List.getElem_map, List.getElem_range]; rw [HKD.out])
        clear hTK HS hkd hkK
        have hbe : Below wx.heap.size wx (wx.alloc (.cells #[.int .i64 1] 2)) := below_alloc1 _ _
        have HSE := Lib.hid (HSY.out.next hbe)
        have hcell := cell_alloc1 wx (.int .i64 1) 2
        have HDM := Lib.hid HSE.out.dims
        have hc2 : wB.heap.size ≤ (wx.alloc (.cells #[.int .i64 1] 2)).heap.size := HSE.out.below.size
        have HC4 := Lib.hid hc2
        have hc1 : TK.length ≤ 2097151 := by rw [HKL.out]; omega
        have HC3 := Lib.hid hc1
        have g1 : wx.cell? ⟨g, 1, none⟩ = some (.slice a1 k cc1) := HSY.out.box.cell (i := 1) (by omega)
        clear hc1 hc2 hbe
        go_wp2_with (at_builtin; refine wpList_appendB1l rfl (some 35) rfl (.tmp 32) (.tmp 34) rfl wB.heap.size (.slice a1 k cc1) TK rfl HDM.out wx.heap.size rfl 1 hcell HC3.out HC4.out ?_)
        rw [HKL.out]
        intro g9 c9 w9 hn9 hgw hlw
        have HS9 : Hid (Sdo wB (w9.setCell ⟨g, 1, none⟩ (.slice (some ⟨g9, 0, none⟩) (k + 1) c9)) g p (.slice (some ⟨g9, 0, none⟩) (k + 1) c9) (.slice a2 q cc2) ((shD [1] K).take (k + 1)) ((shM p [1] [] K).take q)) := Lib.hid (by rw [HXE.out]; exact HSE.out.stepD hgw hn9 (hlw.imp id (fun h => by simpa using h)))
        have hrb := row_grown HSE.out.box HSE.out.dims coT.1 hgw
        have z1 : w9.cell? ⟨g, 1, none⟩ = some (.slice a1 k cc1) := hrb.cell (i := 1) (by omega)
        have z2 : w9.frozen? ⟨g, 1, none⟩ = false := hrb.frozen 1
        have hg9 : g9 < w9.heap.size := (hn9.lt g9 rfl).2
        have HG9 := Lib.hid hg9
        clear hn9 hgw hlw hrb hcell g1 HSE HSY HDM hg9
        by_cases hk00 : k = 0
        · have hz : ¬ (0 : Int) < (k : Int) := by omega
          have HQ2 : Hid (q = k + 1 - 1) := Lib.hid (by have := HQ.out; omega)
          clear hk00
          go_wp2
          go_roundw
          case rel => exact ⟨k + 1, q, _, _, _, _, by omega, by go_num, HQ2, HS9⟩
          case measure => simp [intOf]; omega
        · have hz : (0 : Int) < (k : Int) := by omega
          obtain ⟨wf, hwf⟩ : ∃ wf, wf = (w9.setCell ⟨g, 1, none⟩ (.slice (some ⟨g9, 0, none⟩) (k + 1) c9)) := ⟨_, rfl⟩
          have HGF : Hid (g9 < wf.heap.size) := Lib.hid (by rw [hwf]; simp; exact HG9.out)
          go_upto_region 12 with fail
          rw [← hwf]
          rw [← hwf] at HS9
          clear hwf z1 z2
          obtain ⟨wu, hwu⟩ : ∃ wu, wu = wf.alloc (.cells #[] 22) := ⟨_, rfl⟩
          have hbu : Below wf.heap.size wf wu := by rw [hwu]; exact below_alloc1 _ _
          have hzu : wf.heap.size < wu.heap.size := by rw [hwu]; simp
          have HGY0 : Hid (Grb (some g9) wf.heap.size wu (.slice (some ⟨wf.heap.size, 0, none⟩) 0 0) []) := Lib.hid (by rw [hwu]; exact Grb.start (Gs.new (base := wf.heap.size) wf (Nat.le_refl _)))
          have HBU := Lib.hid hbu
          go_upto_region 13 with fail
          rw [← hwu]
          clear hwu hbu
          have HSW := Lib.hid (HS9.out.next HBU.out)
          have hq1 : q < ((shD [1] K).take (k + 1)).length := by rw [List.length_take, shD_length]; have := HQ.out; simp; omega
          obtain ⟨u1, hu1, hr1⟩ := Sl.at HSW.out.dims.l1 hq1
          have hu0 : u1 = .int .i64 0 := by
            rw [hr1]
            have hqK : q < K := by have := HQ.out; have := HKK.out; omega
            simp [shD, shd, hqK]
          subst hu0
          rw [Nat.zero_add] at hu1
          have g1' : wu.cell? ⟨g, 1, none⟩ = some (.slice (some ⟨g9, 0, none⟩) (k + 1) c9) := HSW.out.box.cell (i := 1) (by omega)
          have hqe : IntKind.i64.wrap ((k : Int) - 1) = (q : Int) := by have := HQ.out; rw [show (k : Int) - 1 = (q : Int) by omega]; exact IntWalk.i64_in _ (by omega)
          have hqi0 : (0 : Int) ≤ (q : Int) := by omega
          have hqi1 : (q : Int) < (k : Int) + 1 := by have := HQ.out; omega
          have hmk : ∀ w, (Instr.makeSlice 22 (.int .i64 0) (.int .i64 0)).run Try.prog w = .ok (.slice (some ⟨w.heap.size, 0, none⟩) 0 0) (w.alloc (.cells (madeCells #[.int .i64 0] 0) 2)) := fun w => run_make_row' (P := Try.prog) 22 2 (.int .i64 0) 8 Try.underlying22 Try.infoI rfl .i64 .i64 0 (by omega) (by omega) w
          have hbm : Below wu.heap.size wu (wu.alloc (.cells (madeCells #[.int .i64 0] 0) 2)) := below_alloc1 _ _
          have hzm : (wu.alloc (.cells (madeCells #[.int .i64 0] 0) 2)).heap.size = wu.heap.size + 1 := by simp
          have hgm : Gb wu.heap.size (wu.alloc (.cells (madeCells #[.int .i64 0] 0) 2)) (.slice (some ⟨wu.heap.size, 0, none⟩) 0 0) [] := madeI wu 0 (by omega) _ (Nat.le_refl _)
          have hba : Below (wu.heap.size + 1) (wu.alloc (.cells (madeCells #[.int .i64 0] 0) 2)) ((wu.alloc (.cells (madeCells #[.int .i64 0] 0) 2)).alloc (.cells #[.slice (some ⟨wu.heap.size, 0, none⟩) 0 0] 22)) := by have h0 := below_alloc1 (wu.alloc (.cells (madeCells #[.int .i64 0] 0) 2)) (.cells #[.slice (some ⟨wu.heap.size, 0, none⟩) 0 0] 22); rwa [hzm] at h0
          have hza : ((wu.alloc (.cells (madeCells #[.int .i64 0] 0) 2)).alloc (.cells #[.slice (some ⟨wu.heap.size, 0, none⟩) 0 0] 22)).heap.size = wu.heap.size + 2 := by simp
          have hbua : Below wu.heap.size wu ((wu.alloc (.cells (madeCells #[.int .i64 0] 0) 2)).alloc (.cells #[.slice (some ⟨wu.heap.size, 0, none⟩) 0 0] 22)) := hbm.trans (hba.mono (by omega))
          have hcell : ((wu.alloc (.cells (madeCells #[.int .i64 0] 0) 2)).alloc (.cells #[.slice (some ⟨wu.heap.size, 0, none⟩) 0 0] 22)).cell? ⟨wu.heap.size + 1, 0, none⟩ = some (.slice (some ⟨wu.heap.size, 0, none⟩) 0 0) := by have h0 := cell_alloc1 (wu.alloc (.cells (madeCells #[.int .i64 0] 0) 2)) (.slice (some ⟨wu.heap.size, 0, none⟩) 0 0) 22; rwa [hzm] at h0
          have HGA := Lib.hid (HGY0.out.below hbua)
          have HG1 : Hid (G1 ((wu.alloc (.cells (madeCells #[.int .i64 0] 0) 2)).alloc (.cells #[.slice (some ⟨wu.heap.size, 0, none⟩) 0 0] 22)) (.slice (some ⟨wu.heap.size, 0, none⟩) 0 0) []) := Lib.hid (hgm.g1.below (by rw [hzm]; exact hba))
          have HO1 : Hid (OffB (some g9) (.slice (some ⟨wu.heap.size, 0, none⟩) 0 0)) := Lib.hid (hgm.offB (by have := HGF.out; omega))
          have HBA := Lib.hid (HBU.out.trans (hbua.mono (by omega)))
          have hle2 : wf.heap.size ≤ ((wu.alloc (.cells (madeCells #[.int .i64 0] 0) 2)).alloc (.cells #[.slice (some ⟨wu.heap.size, 0, none⟩) 0 0] 22)).heap.size := by rw [hza]; omega
          have HLE2 := Lib.hid hle2
          clear hbm hgm hba hbua hr1 hle2 hza hzm
          go_wp2_with (at_builtin; refine wpList_appendS1o rfl (some 52) rfl (.tmp 43) (.tmp 51) rfl (some g9) wf.heap.size (.slice (some ⟨wf.heap.size, 0, none⟩) 0 0) [] rfl HGA.out (wu.heap.size + 1) rfl (some ⟨wu.heap.size, 0, none⟩) 0 0 hcell [] HG1.out HO1.out (by simp) HLE2.out ?_)
          intro g7 c7 W7 hg7 hgr7
          have HB7 : Hid (Below wf.heap.size wf W7) := Lib.hid (HBA.out.grown hgr7 HLE2.out (fun g0 hg0 => (HGA.out.gs.lt g0 hg0).1))
          simp only [List.length_nil, Nat.zero_add, List.nil_append] at hg7 ⊢
          have HG7 := Lib.hid hg7
          clear hg7 hgr7 hcell hu1 hmk g1' HSW hqe hqi0 hqi1
          have hqk : q + 1 = k := by have := HQ.out; omega
          have HQK := Lib.hid hqk
          obtain ⟨TQ, hTQ⟩ : ∃ TQ, TQ = (shM p [1] [] K).take q := ⟨_, rfl⟩
          have HSU : Hid (Sdo wB W7 g p (.slice (some ⟨g9, 0, none⟩) (k + 1) c9) (.slice a2 q cc2) ((shD [1] K).take (k + 1)) TQ) := Lib.hid (by rw [hTQ]; exact HS9.out.next HB7.out)
          have HGY := Lib.hid HG7.out.gr
          have HQL : Hid (TQ.length = q) := Lib.hid (by rw [hTQ, List.length_take, shM_length]; simp; omega)
          have HXM : Hid ((shM p [1] [] K).take (q + 1) = TQ ++ [[[]]]) := Lib.hid (by rw [hTQ, List.take_succ_eq_append_getElem (by rw [shM_length]; simp; omega)]; simp only [shM, List.getElem_map, List.getElem_range]; rw [sht_one p (show q + 1 ≤ K by omega)]; have := HKK.out; simp [show q + 1 = K by omega])
          clear hTQ hqk
          have g2' : W7.cell? ⟨g, 2, none⟩ = some (.slice a2 q cc2) := HSU.out.box.cell (i := 2) (by omega)
          clear HS9 HGY0 HGA HG1 HO1
          have hba : Below W7.heap.size W7 (W7.alloc (.cells #[.slice (some ⟨g7, 0, none⟩) 1 c7] 41)) := below_alloc1 _ _
          have HSA := Lib.hid (HSU.out.next hba)
          have HMT := Lib.hid HSA.out.maps
          have hcell := cell_alloc1 W7 (.slice (some ⟨g7, 0, none⟩) 1 c7) 41
          have HGR := Lib.hid (HGY.out.below hba)
          have hc5 : TQ.length ≤ 2097151 := by rw [HQL.out]; omega
          have HC5 := Lib.hid hc5
          have hc6 : wB.heap.size ≤ (W7.alloc (.cells #[.slice (some ⟨g7, 0, none⟩) 1 c7] 41)).heap.size := HSA.out.below.size
          have HC6 := Lib.hid hc6
          clear hc5 hc6 hba HSU
          go_wp2_with (at_builtin; refine wpList_appendT1o rfl (some 57) rfl (.tmp 54) (.tmp 56) rfl wB.heap.size (.slice a2 q cc2) TQ rfl (some g9) HMT.out W7.heap.size rfl (some ⟨g7, 0, none⟩) (1) (c7) hcell ([[]]) HGR.out HC5.out HC6.out ?_)
          rw [HQL.out]
          intro g8 c8 w8 hn8 hgw8
          have HSN : Hid (Sdo wB (w8.setCell ⟨g, 2, none⟩ (.slice (some ⟨g8, 0, none⟩) (q + 1) c8)) g p (.slice (some ⟨g9, 0, none⟩) (k + 1) c9) (.slice (some ⟨g8, 0, none⟩) (q + 1) c8) ((shD [1] K).take (k + 1)) ((shM p [1] [] K).take (q + 1))) := Lib.hid (by rw [HXM.out]; exact HSA.out.stepM hgw8 hn8)
          obtain ⟨vs8, ho8, _⟩ := HSA.out.maps
          have hrb := row_grown HSA.out.box ho8 coT.2.2 hgw8
          have z1 : w8.cell? ⟨g, 2, none⟩ = some (.slice a2 q cc2) := hrb.cell (i := 2) (by omega)
          have z2 : w8.frozen? ⟨g, 2, none⟩ = false := hrb.frozen 2
          clear hn8 hgw8 hrb hcell HSA HMT ho8 HGR
          have HQ3 : Hid (q + 1 = k + 1 - 1) := Lib.hid (by have := HQK.out; omega)
          go_wp2
          go_roundw
          case rel => exact ⟨k + 1, q + 1, _, _, _, _, by omega, by go_num, HQ3, HSN⟩
          case measure => simp [intOf]; omega
      · have hkd : shd [1] K k = 0 := by rw [shd_one K k hlt]; simp [hkK]
        have HKD := Lib.hid hkd
        have hbe0 : ((k : Int) == (K : Int)) = false := by have h0 : ¬ (k : Int) = (K : Int) := (by omega); simpa using h0
        have HKK := Lib.hid hkK
        obtain ⟨TK, hTK⟩ : ∃ TK, TK = (shD [1] K).take k := ⟨_, rfl⟩
        have HSY : Hid (Sdo wB wx g p (.slice a1 k cc1) (.slice a2 q cc2) TK ((shM p [1] [] K).take q)) := Lib.hid (by rw [hTK]; exact HS.out)
        have HKL : Hid (TK.length = k) := Lib.hid (by rw [hTK, List.length_take, shD_length]; simp; omega)
        have HXE : Hid ((shD [1] K).take (k + 1) = TK ++ [0]) := Lib.hid (by rw [hTK, List.take_succ_eq_append_getElem (by rw [shD_length]; simp; omega)]; simp only [shD, List.getElem_map, List.getElem_range]; rw [HKD.out])
        clear hTK HS hkd hkK
        have hbe : Below wx.heap.size wx (wx.alloc (.cells #[.int .i64 0] 2)) := below_alloc1 _ _
        have HSE := Lib.hid (HSY.out.next hbe)
        have hcell := cell_alloc1 wx (.int .i64 0) 2
        have HDM := Lib.hid HSE.out.dims
        have hc2 : wB.heap.size ≤ (wx.alloc (.cells #[.int .i64 0] 2)).heap.size := HSE.out.below.size
        have HC4 := Lib.hid hc2
        have hc1 : TK.length ≤ 2097151 := by rw [HKL.out]; omega
        have HC3 := Lib.hid hc1
        have g1 : wx.cell? ⟨g, 1, none⟩ = some (.slice a1 k cc1) := HSY.out.box.cell (i := 1) (by omega)
        clear hc1 hc2 hbe
        go_wp2_with (at_builtin; refine wpList_appendB1l rfl (some 35) rfl (.tmp 32) (.tmp 34) rfl wB.heap.size (.slice a1 k cc1) TK rfl HDM.out wx.heap.size rfl 0 hcell HC3.out HC4.out ?_)
        rw [HKL.out]
        intro g9 c9 w9 hn9 hgw hlw
        have HS9 : Hid (Sdo wB (w9.setCell ⟨g, 1, none⟩ (.slice (some ⟨g9, 0, none⟩) (k + 1) c9)) g p (.slice (some ⟨g9, 0, none⟩) (k + 1) c9) (.slice a2 q cc2) ((shD [1] K).take (k + 1)) ((shM p [1] [] K).take q)) := Lib.hid (by rw [HXE.out]; exact HSE.out.stepD hgw hn9 (hlw.imp id (fun h => by simpa using h)))
        have hrb := row_grown HSE.out.box HSE.out.dims coT.1 hgw
        have z1 : w9.cell? ⟨g, 1, none⟩ = some (.slice a1 k cc1) := hrb.cell (i := 1) (by omega)
        have z2 : w9.frozen? ⟨g, 1, none⟩ = false := hrb.frozen 1
        have hg9 : g9 < w9.heap.size := (hn9.lt g9 rfl).2
        have HG9 := Lib.hid hg9
        clear hn9 hgw hlw hrb hcell g1 HSE HSY HDM hg9
        by_cases hk00 : k = 0
        · have hz : ¬ (0 : Int) < (k : Int) := by omega
          have HQ2 : Hid (q = k + 1 - 1) := Lib.hid (by have := HQ.out; omega)
          clear hk00
          go_wp2
          go_roundw
          case rel => exact ⟨k + 1, q, _, _, _, _, by omega, by go_num, HQ2, HS9⟩
          case measure => simp [intOf]; omega
        · have hz : (0 : Int) < (k : Int) := by omega
          obtain ⟨wf, hwf⟩ : ∃ wf, wf = (w9.setCell ⟨g, 1, none⟩ (.slice (some ⟨g9, 0, none⟩) (k + 1) c9)) := ⟨_, rfl⟩
          have HGF : Hid (g9 < wf.heap.size) := Lib.hid (by rw [hwf]; simp; exact HG9.out)
          go_upto_region 12 with fail
          rw [← hwf]
          rw [← hwf] at HS9
          clear hwf z1 z2
          obtain ⟨wu, hwu⟩ : ∃ wu, wu = wf.alloc (.cells #[] 22) := ⟨_, rfl⟩
          have hbu : Below wf.heap.size wf wu := by rw [hwu]; exact below_alloc1 _ _
          have hzu : wf.heap.size < wu.heap.size := by rw [hwu]; simp
          have HGY0 : Hid (Grb (some g9) wf.heap.size wu (.slice (some ⟨wf.heap.size, 0, none⟩) 0 0) []) := Lib.hid (by rw [hwu]; exact Grb.start (Gs.new (base := wf.heap.size) wf (Nat.le_refl _)))
          have HBU := Lib.hid hbu
          go_upto_region 13 with fail
          rw [← hwu]
          clear hwu hbu
          have hqk : q + 1 = k := by have := HQ.out; omega
          have HQK := Lib.hid hqk
          obtain ⟨TQ, hTQ⟩ : ∃ TQ, TQ = (shM p [1] [] K).take q := ⟨_, rfl⟩
          have HSU : Hid (Sdo wB wu g p (.slice (some ⟨g9, 0, none⟩) (k + 1) c9) (.slice a2 q cc2) ((shD [1] K).take (k + 1)) TQ) := Lib.hid (by rw [hTQ]; exact HS9.out.next HBU.out)
          have HGY := Lib.hid HGY0.out.gr
          have HQL : Hid (TQ.length = q) := Lib.hid (by rw [hTQ, List.length_take, shM_length]; simp; omega)
          have HXM : Hid ((shM p [1] [] K).take (q + 1) = TQ ++ [[]]) := Lib.hid (by rw [hTQ, List.take_succ_eq_append_getElem (by rw [shM_length]; simp; omega)]; simp only [shM, List.getElem_map, List.getElem_range]; rw [sht_one p (show q + 1 ≤ K by omega)]; have := HKK.out; simp [show ¬ q + 1 = K by omega])
          clear hTQ hqk
          have g2' : wu.cell? ⟨g, 2, none⟩ = some (.slice a2 q cc2) := HSU.out.box.cell (i := 2) (by omega)
          clear HS9 HGY0
          have hba : Below wu.heap.size wu (wu.alloc (.cells #[.slice (some ⟨wf.heap.size, 0, none⟩) 0 0] 41)) := below_alloc1 _ _
          have HSA := Lib.hid (HSU.out.next hba)
          have HMT := Lib.hid HSA.out.maps
          have hcell := cell_alloc1 wu (.slice (some ⟨wf.heap.size, 0, none⟩) 0 0) 41
          have HGR := Lib.hid (HGY.out.below hba)
          have hc5 : TQ.length ≤ 2097151 := by rw [HQL.out]; omega
          have HC5 := Lib.hid hc5
          have hc6 : wB.heap.size ≤ (wu.alloc (.cells #[.slice (some ⟨wf.heap.size, 0, none⟩) 0 0] 41)).heap.size := HSA.out.below.size
          have HC6 := Lib.hid hc6
          clear hc5 hc6 hba HSU
          go_wp2_with (at_builtin; refine wpList_appendT1o rfl (some 57) rfl (.tmp 54) (.tmp 56) rfl wB.heap.size (.slice a2 q cc2) TQ rfl (some g9) HMT.out wu.heap.size rfl (some ⟨wf.heap.size, 0, none⟩) (0) (0) hcell ([]) HGR.out HC5.out HC6.out ?_)
          rw [HQL.out]
          intro g8 c8 w8 hn8 hgw8
          have HSN : Hid (Sdo wB (w8.setCell ⟨g, 2, none⟩ (.slice (some ⟨g8, 0, none⟩) (q + 1) c8)) g p (.slice (some ⟨g9, 0, none⟩) (k + 1) c9) (.slice (some ⟨g8, 0, none⟩) (q + 1) c8) ((shD [1] K).take (k + 1)) ((shM p [1] [] K).take (q + 1))) := Lib.hid (by rw [HXM.out]; exact HSA.out.stepM hgw8 hn8)
          obtain ⟨vs8, ho8, _⟩ := HSA.out.maps
          have hrb := row_grown HSA.out.box ho8 coT.2.2 hgw8
          have z1 : w8.cell? ⟨g, 2, none⟩ = some (.slice a2 q cc2) := hrb.cell (i := 2) (by omega)
          have z2 : w8.frozen? ⟨g, 2, none⟩ = false := hrb.frozen 2
          clear hn8 hgw8 hrb hcell HSA HMT ho8 HGR
          have HQ3 : Hid (q + 1 = k + 1 - 1) := Lib.hid (by have := HQK.out; omega)
          go_wp2
          go_roundw
          case rel => exact ⟨k + 1, q + 1, _, _, _, _, by omega, by go_num, HQ3, HSN⟩
          case measure => simp [intOf]; omega
    · have hki : ¬ (k : Int) ≤ (K : Int) := by omega
      have HKE : Hid (k = K + 1) := Lib.hid (by omega)
      have HSF : Hid (Sdo wB wx g p (.slice a1 k cc1) (.slice a2 q cc2) (shD [1] K) (shM p [1] [] K)) := Lib.hid (by have h0 := HS.out; rw [List.take_of_length_le (by rw [shD_length]; have := HKE.out; simp; omega), List.take_of_length_le (by rw [shM_length]; have := HKE.out; have := HQ.out; simp; omega)] at h0; exact h0)
      have HDL : Hid ((shD [1] K).length = k) := Lib.hid (by rw [shD_length]; have := HKE.out; simp; omega)
      have HML : Hid ((shM p [1] [] K).length = q) := Lib.hid (by rw [shM_length]; have := HKE.out; have := HQ.out; simp; omega)
      clear HS
      have HNF := Lib.hid (HNB.out _ HSF.out.below)
      have y0 : wx.cell? ⟨g, 0, none⟩ = some (.int .i64 p) := HSF.out.box.cell (i := 0) (by omega)
      have y1 : wx.cell? ⟨g, 1, none⟩ = some (.slice a1 k cc1) := HSF.out.box.cell (i := 1) (by omega)
      have y2 : wx.cell? ⟨g, 2, none⟩ = some (.slice a2 q cc2) := HSF.out.box.cell (i := 2) (by omega)
      have HR1 : ∃ x0 x1 x2, wx.heap[w.heap.size]? = some (.cells #[x0, x1, x2] 28) := ⟨_, _, _, HNF.out⟩
      obtain ⟨x0, x1, x2, hr⟩ := HR1
      have r0 : wx.rowIs (w.heap.size) 28 3 (sel3 x0 x1 x2) := rowIs3 hr
      have q0 : wx.cell? ⟨w.heap.size, 0, none⟩ = some x0 := r0.cell (i := 0) (by omega)
      have z0 : wx.frozen? ⟨w.heap.size, 0, none⟩ = false := r0.frozen 0
      have r1 := r0.set 0 (.int .i64 p)
      have q1 : (wx.setCell ⟨w.heap.size, 0, none⟩ (.int .i64 p)).cell? ⟨w.heap.size, 1, none⟩ = some x1 := r1.cell (i := 1) (by omega)
      have z1 : (wx.setCell ⟨w.heap.size, 0, none⟩ (.int .i64 p)).frozen? ⟨w.heap.size, 1, none⟩ = false := r1.frozen 1
      have r2 := r1.set 1 (.slice a1 k cc1)
      have q2 : ((wx.setCell ⟨w.heap.size, 0, none⟩ (.int .i64 p)).setCell ⟨w.heap.size, 1, none⟩ (.slice a1 k cc1)).cell? ⟨w.heap.size, 2, none⟩ = some x2 := r2.cell (i := 2) (by omega)
      have z2 : ((wx.setCell ⟨w.heap.size, 0, none⟩ (.int .i64 p)).setCell ⟨w.heap.size, 1, none⟩ (.slice a1 k cc1)).frozen? ⟨w.heap.size, 2, none⟩ = false := r2.frozen 2
      have r3 := r2.set 2 (.slice a2 q cc2)
      obtain ⟨WF, hWF⟩ : ∃ W : World, W = (((wx.setCell ⟨w.heap.size, 0, none⟩ (.int .i64 p)).setCell ⟨w.heap.size, 1, none⟩ (.slice a1 k cc1)).setCell ⟨w.heap.size, 2, none⟩ (.slice a2 q cc2)) := ⟨_, rfl⟩
      have hbWF : ∀ B (w0 : World), B ≤ w.heap.size → Below B w0 wx → Below B w0 WF := fun B w0 hl hb => by rw [hWF]; exact (((hb.setCell (by show B ≤ w.heap.size; exact hl) _).setCell (by show B ≤ w.heap.size; exact hl) _).setCell (by show B ≤ w.heap.size; exact hl) _)
      have hsWF : ∀ lo hi, w.heap.size < lo ∨ hi ≤ w.heap.size → Same lo hi wx WF := fun lo hi hl => by rw [hWF]; exact (((Same.set _ hl).trans (Same.set _ hl)).trans (Same.set _ hl))
      have hzWF : WF.heap.size = wx.heap.size := by rw [hWF]; simp
      rw [← hWF] at r3
      have f0 : WF.cell? ⟨w.heap.size, 0, none⟩ = some (.int .i64 p) := r3.cell (i := 0) (by omega)
      have f1 : WF.cell? ⟨w.heap.size, 1, none⟩ = some (.slice a1 k cc1) := r3.cell (i := 1) (by omega)
      have f2 : WF.cell? ⟨w.heap.size, 2, none⟩ = some (.slice a2 q cc2) := r3.cell (i := 2) (by omega)
      have HWWF := Lib.hid hWF
      clear hr r0 r1 r2 r3 hWF
      have HBF := Lib.hid (hbWF w.heap.size w (Nat.le_refl _) (HB1.out.trans (HSF.out.below.mono (by omega))))
      have HGD : Hid (Gb 0 WF (.slice a1 k cc1) (shD [1] K)) := Lib.hid (by rw [HWWF.out]; exact (HSF.out.dims.mono (Nat.zero_le _)).off3 HNF.out coT.1 _ _ _)
      have HGM : Hid (Gt 0 WF (.slice a2 q cc2) (shM p [1] [] K)) := Lib.hid (by rw [HWWF.out]; exact HSF.out.maps.gt.zero.off3 HNF.out coT _ _ _)
      clear hsWF hbWF hzWF
      go_wp2
      rw [← HWWF.out]
      refine bodyPost_ret (v := .tuple #[.agg #[.int .i64 p, .slice a1 k cc1, .slice a2 q cc2], .int .i64 0]) ?_ rfl ?_
      · simp only [results, HRES.out]
        go_simp
      · exact ⟨_, shOut p (K : Int) [1] [], 0, rfl, ⟨a1, cc1, a2, cc2, by show _ = Value.agg #[.int .i64 p, .slice _ (shD [1] K).length _, .slice _ (shM p [1] [] K).length _]; rw [HDL.out, HML.out], ⟨by show L1 0 _ (.slice _ (shD [1] K).length _) (shD [1] K); rw [HDL.out]; exact HGD.out.l1, by show L3 0 _ (.slice _ (shM p [1] [] K).length _) (shM p [1] [] K); rw [HML.out]; exact HGM.out.l3⟩⟩, HBF.out, RsOut.of_yes (by rw [sphCode_yes HP.out]; exact (sph_ok HP.out HN.out).code) rfl⟩
end Go.Proofs.Ytpdkfidmmjlmnaa
