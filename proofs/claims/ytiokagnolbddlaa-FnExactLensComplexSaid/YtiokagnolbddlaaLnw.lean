/-
  LensComplex of both sides, by contracts.
-/
import Derived.Test.YtiokagnolbddlaaLnm
import Derived.Test.YtiokagnolbddlaaHld
namespace Go.Proofs.Ytiokagnolbddlaa
open Go.RowKit

theorem row_two (w : World) (x y : Value) (t : TypeId) : (w.alloc (.cells #[x, y] t)).rowIs w.heap.size t 2 (sel2 x y) :=
  ⟨#[x, y], heap_alloc_new w _, rfl, fun i hi => by
    match i, hi with
    | 0, _ => rfl
    | 1, _ => rfl⟩
theorem LnT.make {lo : Nat} (w : World) (z : Int) (hl : lo ≤ w.heap.size) : LnT (((w.alloc (.cells #[.int .i64 z] 2)).alloc (.cells #[.slice (some ⟨w.heap.size, 0, none⟩) 1 1] 22)).alloc (.cells #[.slice (some ⟨w.heap.size + 1, 0, none⟩) 1 1] 44)) lo (.slice (some ⟨w.heap.size + 1, 0, none⟩) 1 1) (w.heap.size + 1) w.heap.size z := by
  have h1 := row_one w (.int .i64 z) 2
  have h2 := row_one (w.alloc (.cells #[.int .i64 z] 2)) (.slice (some ⟨w.heap.size, 0, none⟩) 1 1) 22
  rw [show (w.alloc (.cells #[.int .i64 z] 2)).heap.size = w.heap.size + 1 by simp] at h2
  have b2 : Below (w.alloc (.cells #[.int .i64 z] 2)).heap.size (w.alloc (.cells #[.int .i64 z] 2)) (((w.alloc (.cells #[.int .i64 z] 2)).alloc (.cells #[.slice (some ⟨w.heap.size, 0, none⟩) 1 1] 22)).alloc (.cells #[.slice (some ⟨w.heap.size + 1, 0, none⟩) 1 1] 44)) := (below_alloc1 _ _).alloc (by simp) _
  exact ⟨rfl, by omega, hl, h2.of_block ((below_alloc1 _ _).block _ h2.lt), h1.of_block (b2.block _ h1.lt)⟩
theorem Ln.start1 (w : World) (n : Int) : Ln w ((w.alloc (.cells #[.int .i64 1] 2)).alloc (.cells #[.slice (some ⟨w.heap.size, 0, none⟩) 1 1, .slice none 0 0] 25)) (w.heap.size + 1) n 0 0 (.slice (some ⟨w.heap.size, 0, none⟩) 1 1) (.slice none 0 0) := by
  have h1 := row_one w (.int .i64 1) 2
  have h2 := row_two (w.alloc (.cells #[.int .i64 1] 2)) (.slice (some ⟨w.heap.size, 0, none⟩) 1 1) (.slice none 0 0) 25
  rw [show (w.alloc (.cells #[.int .i64 1] 2)).heap.size = w.heap.size + 1 by simp] at h2
  refine ⟨(below_alloc1 _ _).alloc (by simp) _, by omega, h2, ?_, [], fun _ => 0, fun _ => 0, ⟨rfl, Or.inl ⟨rfl, rfl⟩⟩, fun j h => absurd h (Nat.not_lt_zero _), fun i j _ h => absurd h (Nat.not_lt_zero _), fun j h => absurd h (Nat.not_lt_zero _)⟩
  exact gb_row (h1.of_block ((below_alloc1 _ _).block _ h1.lt)) rfl (fun i hi => by
    obtain rfl : i = 0 := by simp [lensD] at hi; omega
    rfl) (by unfold maxLen; omega) (Nat.le_refl _)
theorem Ln.start2 (w : World) (n : Int) : Ln w (((w.alloc (.cells #[.int .i64 1] 2)).alloc (.cells #[] 44)).alloc (.cells #[.slice (some ⟨w.heap.size, 0, none⟩) 1 1, .slice (some ⟨w.heap.size + 1, 0, none⟩) 0 0] 25)) (w.heap.size + 2) n 0 0 (.slice (some ⟨w.heap.size, 0, none⟩) 1 1) (.slice (some ⟨w.heap.size + 1, 0, none⟩) 0 0) := by
  have h1 := row_one w (.int .i64 1) 2
  have h2 := row_two ((w.alloc (.cells #[.int .i64 1] 2)).alloc (.cells #[] 44)) (.slice (some ⟨w.heap.size, 0, none⟩) 1 1) (.slice (some ⟨w.heap.size + 1, 0, none⟩) 0 0) 25
  rw [show ((w.alloc (.cells #[.int .i64 1] 2)).alloc (.cells #[] 44)).heap.size = w.heap.size + 2 by simp] at h2
  have b2 : Below (w.alloc (.cells #[.int .i64 1] 2)).heap.size (w.alloc (.cells #[.int .i64 1] 2)) (((w.alloc (.cells #[.int .i64 1] 2)).alloc (.cells #[] 44)).alloc (.cells #[.slice (some ⟨w.heap.size, 0, none⟩) 1 1, .slice (some ⟨w.heap.size + 1, 0, none⟩) 0 0] 25)) := (below_alloc1 _ _).alloc (by simp) _
  have hg := Gt.new (base := w.heap.size) (w.alloc (.cells #[.int .i64 1] 2)) (by simp)
  rw [show (w.alloc (.cells #[.int .i64 1] 2)).heap.size = w.heap.size + 1 by simp] at hg
  obtain ⟨vs, ho, _⟩ := hg
  obtain rfl : vs = [] := List.eq_nil_of_length_eq_zero (by rw [owns_len ho]; rfl)
  refine ⟨((below_alloc1 _ _).alloc (by simp) _).alloc (by simp; omega) _, by omega, h2, ?_, [], fun _ => 0, fun _ => 0, owns_below ho (below_alloc1 _ _), fun j h => absurd h (Nat.not_lt_zero _), fun i j _ h => absurd h (Nat.not_lt_zero _), fun j h => absurd h (Nat.not_lt_zero _)⟩
  exact gb_row (h1.of_block (b2.block _ h1.lt)) rfl (fun i hi => by
    obtain rfl : i = 0 := by simp [lensD] at hi; omega
    rfl) (by unfold maxLen; omega) (Nat.le_refl _)

set_option maxHeartbeats 3200000 in
set_option maxRecDepth 100000 in
theorem lensComplex_any (n k : Int) (w : World) : Calls Try.prog 16 #[.int .i64 n, .int .i64 k] w (AnsW RwWh (fun o => o = lensO n k.toNat) ([], []) (lensCode n k) w) := by
  have hres : Try.f16.results = #[.cell 4 25, .tmp 5] := by kernel_rfl
  have HRES := Lib.hid hres
  clear hres
  have HBA : Hid (∀ x y, Below w.heap.size w (w.alloc (.cells #[x, y] 25))) := Lib.hid (fun x y => below_alloc1 _ _)
  by_cases hn : 0 ≤ n ∧ n ≤ 9
  · by_cases hk : 0 ≤ k ∧ k ≤ 5
    · rw [lensCode_yes ⟨hn, hk⟩]
      obtain ⟨K, rfl⟩ := Int.eq_ofNat_of_zero_le hk.1
      have hK5 : K ≤ 5 := by omega
      have HN := Lib.hid hn
      have HK := Lib.hid hk
      obtain ⟨hn0, hn9⟩ := hn
      clear hk
      have HTN : Hid ((K : Int).toNat = K) := Lib.hid (by omega)
      obtain ⟨wA, hwA⟩ : ∃ wA, wA = w.alloc (.cells #[.slice none 0 0, .slice none 0 0] 25) := ⟨_, rfl⟩
      have HB0 : Hid (Below w.heap.size w wA) := Lib.hid (by rw [hwA]; exact below_alloc1 _ _)
      have hsA : w.heap.size < wA.heap.size := by rw [hwA]; simp
      have HSA := Lib.hid hsA
      have HRB : Hid (wA.rowIs w.heap.size 25 2 (sel2 (.slice none 0 0) (.slice none 0 0))) := Lib.hid (by rw [hwA]; exact row_two _ _ _ _)
      have HST := Lib.hid (Ln.start1 wA n)
      clear hsA
      go_enter Try.func16, Try.ntmps16
      go_upto_region 1 with fail
      rw [← hwA]
      clear hwA
      go_wp2_with fail
      refine (in_yes HN.out _).mono ?_
      rintro e w' ⟨rfl, rfl⟩
      go_wp2_with fail
      refine (in_yes HK.out _).mono ?_
      rintro e w' ⟨rfl, rfl⟩
      go_wp2
      obtain ⟨wB, hwB⟩ : ∃ wB, wB = ((wA.alloc (.cells #[.int .i64 1] 2)).alloc (.cells #[.slice (some ⟨wA.heap.size, 0, none⟩) 1 1, .slice none 0 0] 25)) := ⟨_, rfl⟩
      rw [← hwB]
      rw [← hwB] at HST
      obtain ⟨g, hg⟩ : ∃ g, g = (wA.heap.size + 1) := ⟨_, rfl⟩
      have hg2 : g = wA.heap.size + 1 := hg
      rw [← hg] at HST
      simp only [← hg]
      clear hwB hg hg2
      go_loopw [7, 20] (fun _ i wr => ∃ (q : Nat) (ad am : Option Addr) (cd cm : Nat), q ≤ K ∧ i = .int .i64 q ∧ Hid (Ln wA wr g n q q (.slice ad (q + 1) cd) (.slice am q cm))) (fun _ i _ => K - (intOf i).toNat)
      case atStart => exact ⟨0, _, _, _, _, Nat.zero_le _, rfl, HST⟩
      case round =>
        clear HST
        obtain ⟨q, ad, am, cd, cm, hq, rfl, HL⟩ := hrel
        have g0 : wr.cell? ⟨g, 0, none⟩ = some (.slice ad (q + 1) cd) := HL.out.box.cell (i := 0) (by omega)
        have g1 : wr.cell? ⟨g, 1, none⟩ = some (.slice am q cm) := HL.out.box.cell (i := 1) (by omega)
        obtain ⟨wx, hwx⟩ : ∃ wx : World, wx = wr := ⟨_, rfl⟩
        subst hwx
        by_cases hlt : q < K
        · have hbe : Below wx.heap.size wx (wx.alloc (.cells #[.int .i64 1] 2)) := below_alloc1 _ _
          have HLE := Lib.hid (HL.out.next hbe)
          have hcell := cell_alloc1 wx (.int .i64 1) 2
          have HDM := Lib.hid HLE.out.dims
          have HC4 : Hid (wA.heap.size ≤ (wx.alloc (.cells #[.int .i64 1] 2)).heap.size) := Lib.hid HLE.out.below.size
          have HC3 : Hid ((lensD q).length ≤ 2097151) := Lib.hid (by rw [lensD_length]; omega)
          have HXE : Hid (lensD (q + 1) = lensD q ++ [1]) := Lib.hid (lensD_succ q)
          clear hbe
          go_wp2_with (at_builtin; refine wpList_appendB1l rfl (some 26) rfl (.tmp 24) (.tmp 25) rfl wA.heap.size (.slice ad (q + 1) cd) (lensD q) rfl HDM.out wx.heap.size rfl 1 hcell HC3.out HC4.out ?_)
          rw [lensD_length]
          intro g9 c9 w9 hn9 hgw hlw
          have HL9 : Hid (Ln wA (w9.setCell ⟨g, 0, none⟩ (.slice (some ⟨g9, 0, none⟩) (q + 1 + 1) c9)) g n (q + 1) q (.slice (some ⟨g9, 0, none⟩) (q + 1 + 1) c9) (.slice am q cm)) := Lib.hid (HLE.out.stepD hgw (by rw [HXE.out]; exact hn9) hlw)
          have hrb := row_grown HLE.out.box HLE.out.dims whT.1 hgw
          have z1 : w9.cell? ⟨g, 0, none⟩ = some (.slice ad (q + 1) cd) := hrb.cell (i := 0) (by omega)
          have z2 : w9.frozen? ⟨g, 0, none⟩ = false := hrb.frozen 0
          have z3 : w9.cell? ⟨g, 1, none⟩ = some (.slice am q cm) := hrb.cell (i := 1) (by omega)
          clear hn9 hgw hlw hrb hcell g0 g1 HLE HL HDM HXE
          obtain ⟨wf, hwf⟩ : ∃ wf, wf = (w9.setCell ⟨g, 0, none⟩ (.slice (some ⟨g9, 0, none⟩) (q + 1 + 1) c9)) := ⟨_, rfl⟩
          go_upto_region 8 with fail
          rw [← hwf]
          rw [← hwf] at HL9
          clear hwf z1 z2 z3
          have g1 : wf.cell? ⟨g, 1, none⟩ = some (.slice am q cm) := HL9.out.box.cell (i := 1) (by omega)
          obtain ⟨zz, hzz⟩ : ∃ zz : Int, zz = ((q : Int) % 2 * n) := ⟨_, rfl⟩
          have HZZ : Hid (zz = ((q % 2 : Nat) : Int) * n) := Lib.hid (by rw [hzz]; push_cast; rfl)
          have hq2 : 0 ≤ (q : Int) % 2 ∧ (q : Int) % 2 ≤ 1 := by omega
          have hwz : IntKind.i64.wrap ((q : Int) % 2 * n) = zz := by
            rw [hzz]
            refine IntWalk.i64_in _ ?_
            rcases (show (q : Int) % 2 = 0 ∨ (q : Int) % 2 = 1 by omega) with h | h
            · rw [h]; omega
            · rw [h]; omega
          have HB1 : Hid (Below wf.heap.size wf (((wf.alloc (.cells #[.int .i64 zz] 2)).alloc (.cells #[.slice (some ⟨wf.heap.size, 0, none⟩) 1 1] 22)).alloc (.cells #[.slice (some ⟨wf.heap.size + 1, 0, none⟩) 1 1] 44))) := Lib.hid (((below_alloc1 _ _).alloc (by simp) _).alloc (by simp; omega) _)
          have HLT : Hid (LnT (((wf.alloc (.cells #[.int .i64 zz] 2)).alloc (.cells #[.slice (some ⟨wf.heap.size, 0, none⟩) 1 1] 22)).alloc (.cells #[.slice (some ⟨wf.heap.size + 1, 0, none⟩) 1 1] 44)) wA.heap.size (.slice (some ⟨wf.heap.size + 1, 0, none⟩) 1 1) (wf.heap.size + 1) wf.heap.size (((q % 2 : Nat) : Int) * n)) := Lib.hid (by rw [← HZZ.out]; exact LnT.make wf zz HL9.out.below.size)
          obtain ⟨vs, hvs⟩ : ∃ vs, wf.ownsRow wA.heap.size 44 1 (.slice am q cm) q vs := by obtain ⟨vs, _, _, h, _⟩ := HL9.out.maps; exact ⟨vs, h⟩
          have HVS := Lib.hid (owns_below hvs HB1.out)
          have hcell : (((wf.alloc (.cells #[.int .i64 zz] 2)).alloc (.cells #[.slice (some ⟨wf.heap.size, 0, none⟩) 1 1] 22)).alloc (.cells #[.slice (some ⟨wf.heap.size + 1, 0, none⟩) 1 1] 44)).cell? ⟨wf.heap.size + 2, 0, none⟩ = some (.slice (some ⟨wf.heap.size + 1, 0, none⟩) 1 1) := by
            have := cell_alloc1 ((wf.alloc (.cells #[.int .i64 zz] 2)).alloc (.cells #[.slice (some ⟨wf.heap.size, 0, none⟩) 1 1] 22)) (.slice (some ⟨wf.heap.size + 1, 0, none⟩) 1 1) 44
            rwa [show ((wf.alloc (.cells #[.int .i64 zz] 2)).alloc (.cells #[.slice (some ⟨wf.heap.size, 0, none⟩) 1 1] 22)).heap.size = wf.heap.size + 2 by simp] at this
          have HC6 : Hid (wA.heap.size ≤ (((wf.alloc (.cells #[.int .i64 zz] 2)).alloc (.cells #[.slice (some ⟨wf.heap.size, 0, none⟩) 1 1] 22)).alloc (.cells #[.slice (some ⟨wf.heap.size + 1, 0, none⟩) 1 1] 44)).heap.size) := Lib.hid (Nat.le_trans HL9.out.below.size HB1.out.size)
          have HC5 : Hid (q ≤ 2097151) := Lib.hid (by omega)
          have HHZ := Lib.hid hzz
          clear hvs hzz
          go_wp2_with (at_builtin; refine wpList_appendLn rfl (some 37) rfl (.tmp 29) (.tmp 36) rfl wA.heap.size (.slice am q cm) q vs rfl HVS.out (wf.heap.size + 2) rfl (some ⟨wf.heap.size + 1, 0, none⟩) 1 1 hcell HC5.out HC6.out ?_)
          intro g8 c8 w8 hn8 hgw8 hlt8
          have HSN : Hid (Ln wA (w8.setCell ⟨g, 1, none⟩ (.slice (some ⟨g8, 0, none⟩) (q + 1) c8)) g n (q + 1) (q + 1) (.slice (some ⟨g9, 0, none⟩) (q + 1 + 1) c9) (.slice (some ⟨g8, 0, none⟩) (q + 1) c8)) := Lib.hid (HL9.out.stepM HB1.out HVS.out HLT.out (Nat.le_refl _) hgw8 hn8)
          have hrb := row_grown (HL9.out.next HB1.out).box HVS.out whT.2.2 hgw8
          have z1 : w8.cell? ⟨g, 1, none⟩ = some (.slice am q cm) := hrb.cell (i := 1) (by omega)
          have z2 : w8.frozen? ⟨g, 1, none⟩ = false := hrb.frozen 1
          clear hn8 hgw8 hlt8 hrb hcell HL9 HVS HB1 HLT g1 hwz hq2
          go_wp2
          go_roundw
          case rel => exact ⟨q + 1, _, _, _, _, by omega, by go_num, HSN⟩
          case measure => simp [intOf]; omega
        · have hqK : q = K := by omega
          subst hqK
          have hr0 := HRB.out.of_block (HL.out.below.block _ HSA.out)
          have q0 : wx.cell? ⟨w.heap.size, 0, none⟩ = some (.slice none 0 0) := hr0.cell (i := 0) (by omega)
          have z0 : wx.frozen? ⟨w.heap.size, 0, none⟩ = false := hr0.frozen 0
          have hr1 := hr0.set 0 (.slice ad (q + 1) cd)
          have q1 : (wx.setCell ⟨w.heap.size, 0, none⟩ (.slice ad (q + 1) cd)).cell? ⟨w.heap.size, 1, none⟩ = some (.slice none 0 0) := hr1.cell (i := 1) (by omega)
          have z1 : (wx.setCell ⟨w.heap.size, 0, none⟩ (.slice ad (q + 1) cd)).frozen? ⟨w.heap.size, 1, none⟩ = false := hr1.frozen 1
          have hr2 := hr1.set 1 (.slice am q cm)
          obtain ⟨WF, hWF⟩ : ∃ WF, WF = ((wx.setCell ⟨w.heap.size, 0, none⟩ (.slice ad (q + 1) cd)).setCell ⟨w.heap.size, 1, none⟩ (.slice am q cm)) := ⟨_, rfl⟩
          rw [← hWF] at hr2
          have f0 : WF.cell? ⟨w.heap.size, 0, none⟩ = some (.slice ad (q + 1) cd) := hr2.cell (i := 0) (by omega)
          have f1 : WF.cell? ⟨w.heap.size, 1, none⟩ = some (.slice am q cm) := hr2.cell (i := 1) (by omega)
          have HRC : Hid (RcWh w.heap.size WF.heap.size WF (.slice ad (q + 1) cd) (.slice am q cm) (lensD q) (lensM n q)) := Lib.hid (by
            have h1 := HL.out.rc hK5
            have hs : WF.heap.size = wx.heap.size := by rw [hWF]; simp
            rw [hs]
            refine (h1.same ?_).wider (Nat.le_of_lt HSA.out) (Nat.le_refl _)
            rw [hWF]
            exact (Same.set _ (Or.inl HSA.out)).trans (Same.set _ (Or.inl HSA.out)))
          have HBF : Hid (Below w.heap.size w WF) := Lib.hid (by
            rw [hWF]
            exact ((HB0.out.trans (HL.out.below.mono (Nat.le_of_lt HSA.out))).setCell (Nat.le_refl _) _).setCell (Nat.le_refl _) _)
          have HWF := Lib.hid hWF
          clear hr0 hr1 hr2 hWF
          go_wp2
          rw [← HWF.out]
          refine bodyPost_ret (v := .tuple #[.agg #[.slice ad (q + 1) cd, .slice am q cm], .int .i64 0]) ?_ rfl ?_
          · simp only [results, HRES.out]
            go_simp
          · refine ⟨_, lensO n q, 0, rfl, ⟨ad, cd, am, cm, ?_, ?_⟩, HBF.out, RsOut.of_yes rfl (by rw [HTN.out])⟩
            · show _ = Value.agg #[.slice ad (lensD q).length cd, .slice am (lensM n q).length cm]
              rw [lensD_length, lensM_length]
            · show RcWh w.heap.size WF.heap.size WF (.slice ad (lensD q).length cd) (.slice am (lensM n q).length cm) (lensD q) (lensM n q)
              rw [lensD_length, lensM_length]
              exact HRC.out
    · rw [lensCode_no (fun h => hk h.2)]
      have HN := Lib.hid hn
      have HK := Lib.hid hk
      clear hn hk
      go_enter Try.func16, Try.ntmps16
      go_wp2_with fail
      refine (in_yes HN.out _).mono ?_
      rintro e w' ⟨rfl, rfl⟩
      go_wp2_with fail
      refine (in_no HK.out _).mono ?_
      rintro e w' ⟨rfl, rfl⟩
      go_wp2
      refine bodyPost_ret (v := .tuple #[.agg #[.slice none 0 0, .slice none 0 0], .int .i64 2]) ?_ rfl ?_
      · simp only [results, HRES.out]
        go_simp
      · exact ⟨_, ([], []), 2, rfl, RwWh.nil _ _ _, HBA.out _ _, RsOut.of_no (by decide)⟩
  · rw [lensCode_no (fun h => hn h.1)]
    have HN := Lib.hid hn
    clear hn
    go_enter Try.func16, Try.ntmps16
    go_wp2_with fail
    refine (in_no HN.out _).mono ?_
    rintro e w' ⟨rfl, rfl⟩
    go_wp2
    refine bodyPost_ret (v := .tuple #[.agg #[.slice none 0 0, .slice none 0 0], .int .i64 2]) ?_ rfl ?_
    · simp only [results, HRES.out]
      go_simp
    · exact ⟨_, ([], []), 2, rfl, RwWh.nil _ _ _, HBA.out _ _, RsOut.of_no (by decide)⟩

set_option maxHeartbeats 3200000 in
set_option maxRecDepth 100000 in
theorem spLensComplex_any (n k : Int) (w : World) : Calls Try.prog 15 #[.int .i64 n, .int .i64 k] w (AnsW RwWh (fun o => o = lensO n k.toNat) ([], []) (lensCode n k) w) := by
  have hres : Try.f15.results = #[.cell 4 25, .tmp 5] := by kernel_rfl
  have HRES := Lib.hid hres
  clear hres
  have HBA : Hid (∀ x y, Below w.heap.size w (w.alloc (.cells #[x, y] 25))) := Lib.hid (fun x y => below_alloc1 _ _)
  by_cases hn : 0 ≤ n ∧ n ≤ 9
  · by_cases hk : 0 ≤ k ∧ k ≤ 5
    · rw [lensCode_yes ⟨hn, hk⟩]
      obtain ⟨K, rfl⟩ := Int.eq_ofNat_of_zero_le hk.1
      have hK5 : K ≤ 5 := by omega
      have HN := Lib.hid hn
      have HK := Lib.hid hk
      obtain ⟨hn0, hn9⟩ := hn
      clear hk
      have HTN : Hid ((K : Int).toNat = K) := Lib.hid (by omega)
      obtain ⟨wA, hwA⟩ : ∃ wA, wA = w.alloc (.cells #[.slice none 0 0, .slice none 0 0] 25) := ⟨_, rfl⟩
      have HB0 : Hid (Below w.heap.size w wA) := Lib.hid (by rw [hwA]; exact below_alloc1 _ _)
      have hsA : w.heap.size < wA.heap.size := by rw [hwA]; simp
      have HSA := Lib.hid hsA
      have HRB : Hid (wA.rowIs w.heap.size 25 2 (sel2 (.slice none 0 0) (.slice none 0 0))) := Lib.hid (by rw [hwA]; exact row_two _ _ _ _)
      have HST := Lib.hid (Ln.start2 wA n)
      clear hsA
      go_enter Try.func15, Try.ntmps15
      go_upto_region 1 with fail
      rw [← hwA]
      clear hwA
      go_wp2_with fail
      refine (spin_yes HN.out _).mono ?_
      rintro e w' ⟨rfl, rfl⟩
      go_wp2_with fail
      refine (spin_yes HK.out _).mono ?_
      rintro e w' ⟨rfl, rfl⟩
      go_wp2
      obtain ⟨wB, hwB⟩ : ∃ wB, wB = (((wA.alloc (.cells #[.int .i64 1] 2)).alloc (.cells #[] 44)).alloc (.cells #[.slice (some ⟨wA.heap.size, 0, none⟩) 1 1, .slice (some ⟨wA.heap.size + 1, 0, none⟩) 0 0] 25)) := ⟨_, rfl⟩
      rw [← hwB]
      rw [← hwB] at HST
      obtain ⟨g, hg⟩ : ∃ g, g = (wA.heap.size + 2) := ⟨_, rfl⟩
      have hg2 : g = wA.heap.size + 2 := hg
      rw [← hg] at HST
      simp only [← hg]
      clear hwB hg hg2
      go_loopw [7] (fun i wr => ∃ (q : Nat) (ad am : Option Addr) (cd cm : Nat), q ≤ K ∧ i = .int .i64 q ∧ Hid (Ln wA wr g n q q (.slice ad (q + 1) cd) (.slice am q cm))) (fun i _ => K - (intOf i).toNat)
      case atStart => exact ⟨0, _, _, _, _, Nat.zero_le _, rfl, HST⟩
      case round =>
        clear HST
        obtain ⟨q, ad, am, cd, cm, hq, rfl, HL⟩ := hrel
        have g0 : wr.cell? ⟨g, 0, none⟩ = some (.slice ad (q + 1) cd) := HL.out.box.cell (i := 0) (by omega)
        have g1 : wr.cell? ⟨g, 1, none⟩ = some (.slice am q cm) := HL.out.box.cell (i := 1) (by omega)
        obtain ⟨wx, hwx⟩ : ∃ wx : World, wx = wr := ⟨_, rfl⟩
        subst hwx
        by_cases hlt : q < K
        · have hbe : Below wx.heap.size wx (wx.alloc (.cells #[.int .i64 1] 2)) := below_alloc1 _ _
          have HLE := Lib.hid (HL.out.next hbe)
          have hcell := cell_alloc1 wx (.int .i64 1) 2
          have HDM := Lib.hid HLE.out.dims
          have HC4 : Hid (wA.heap.size ≤ (wx.alloc (.cells #[.int .i64 1] 2)).heap.size) := Lib.hid HLE.out.below.size
          have HC3 : Hid ((lensD q).length ≤ 2097151) := Lib.hid (by rw [lensD_length]; omega)
          have HXE : Hid (lensD (q + 1) = lensD q ++ [1]) := Lib.hid (lensD_succ q)
          clear hbe
          go_wp2_with (at_builtin; refine wpList_appendB1l rfl (some 28) rfl (.tmp 26) (.tmp 27) rfl wA.heap.size (.slice ad (q + 1) cd) (lensD q) rfl HDM.out wx.heap.size rfl 1 hcell HC3.out HC4.out ?_)
          rw [lensD_length]
          intro g9 c9 w9 hn9 hgw hlw
          have HL9 : Hid (Ln wA (w9.setCell ⟨g, 0, none⟩ (.slice (some ⟨g9, 0, none⟩) (q + 1 + 1) c9)) g n (q + 1) q (.slice (some ⟨g9, 0, none⟩) (q + 1 + 1) c9) (.slice am q cm)) := Lib.hid (HLE.out.stepD hgw (by rw [HXE.out]; exact hn9) hlw)
          have hrb := row_grown HLE.out.box HLE.out.dims whT.1 hgw
          have z1 : w9.cell? ⟨g, 0, none⟩ = some (.slice ad (q + 1) cd) := hrb.cell (i := 0) (by omega)
          have z2 : w9.frozen? ⟨g, 0, none⟩ = false := hrb.frozen 0
          have z3 : w9.cell? ⟨g, 1, none⟩ = some (.slice am q cm) := hrb.cell (i := 1) (by omega)
          clear hn9 hgw hlw hrb hcell g0 g1 HLE HL HDM HXE
          obtain ⟨wf, hwf⟩ : ∃ wf, wf = (w9.setCell ⟨g, 0, none⟩ (.slice (some ⟨g9, 0, none⟩) (q + 1 + 1) c9)) := ⟨_, rfl⟩
          go_upto_region 8 with fail
          rw [← hwf]
          rw [← hwf] at HL9
          clear hwf z1 z2 z3
          have g1 : wf.cell? ⟨g, 1, none⟩ = some (.slice am q cm) := HL9.out.box.cell (i := 1) (by omega)
          obtain ⟨zz, hzz⟩ : ∃ zz : Int, zz = (n * ((q : Int) % 2)) := ⟨_, rfl⟩
          have HZZ : Hid (zz = ((q % 2 : Nat) : Int) * n) := Lib.hid (by rw [hzz]; push_cast; rw [Int.mul_comm])
          have hq2 : 0 ≤ (q : Int) % 2 ∧ (q : Int) % 2 ≤ 1 := by omega
          have hwz : IntKind.i64.wrap (n * ((q : Int) % 2)) = zz := by
            rw [hzz]
            refine IntWalk.i64_in _ ?_
            rcases (show (q : Int) % 2 = 0 ∨ (q : Int) % 2 = 1 by omega) with h | h
            · rw [h]; omega
            · rw [h]; omega
          have HB1 : Hid (Below wf.heap.size wf (((wf.alloc (.cells #[.int .i64 zz] 2)).alloc (.cells #[.slice (some ⟨wf.heap.size, 0, none⟩) 1 1] 22)).alloc (.cells #[.slice (some ⟨wf.heap.size + 1, 0, none⟩) 1 1] 44))) := Lib.hid (((below_alloc1 _ _).alloc (by simp) _).alloc (by simp; omega) _)
          have HLT : Hid (LnT (((wf.alloc (.cells #[.int .i64 zz] 2)).alloc (.cells #[.slice (some ⟨wf.heap.size, 0, none⟩) 1 1] 22)).alloc (.cells #[.slice (some ⟨wf.heap.size + 1, 0, none⟩) 1 1] 44)) wA.heap.size (.slice (some ⟨wf.heap.size + 1, 0, none⟩) 1 1) (wf.heap.size + 1) wf.heap.size (((q % 2 : Nat) : Int) * n)) := Lib.hid (by rw [← HZZ.out]; exact LnT.make wf zz HL9.out.below.size)
          obtain ⟨vs, hvs⟩ : ∃ vs, wf.ownsRow wA.heap.size 44 1 (.slice am q cm) q vs := by obtain ⟨vs, _, _, h, _⟩ := HL9.out.maps; exact ⟨vs, h⟩
          have HVS := Lib.hid (owns_below hvs HB1.out)
          have hcell : (((wf.alloc (.cells #[.int .i64 zz] 2)).alloc (.cells #[.slice (some ⟨wf.heap.size, 0, none⟩) 1 1] 22)).alloc (.cells #[.slice (some ⟨wf.heap.size + 1, 0, none⟩) 1 1] 44)).cell? ⟨wf.heap.size + 2, 0, none⟩ = some (.slice (some ⟨wf.heap.size + 1, 0, none⟩) 1 1) := by
            have := cell_alloc1 ((wf.alloc (.cells #[.int .i64 zz] 2)).alloc (.cells #[.slice (some ⟨wf.heap.size, 0, none⟩) 1 1] 22)) (.slice (some ⟨wf.heap.size + 1, 0, none⟩) 1 1) 44
            rwa [show ((wf.alloc (.cells #[.int .i64 zz] 2)).alloc (.cells #[.slice (some ⟨wf.heap.size, 0, none⟩) 1 1] 22)).heap.size = wf.heap.size + 2 by simp] at this
          have HC6 : Hid (wA.heap.size ≤ (((wf.alloc (.cells #[.int .i64 zz] 2)).alloc (.cells #[.slice (some ⟨wf.heap.size, 0, none⟩) 1 1] 22)).alloc (.cells #[.slice (some ⟨wf.heap.size + 1, 0, none⟩) 1 1] 44)).heap.size) := Lib.hid (Nat.le_trans HL9.out.below.size HB1.out.size)
          have HC5 : Hid (q ≤ 2097151) := Lib.hid (by omega)
          have HHZ := Lib.hid hzz
          clear hvs hzz
          go_wp2_with (at_builtin; refine wpList_appendLn rfl (some 39) rfl (.tmp 31) (.tmp 38) rfl wA.heap.size (.slice am q cm) q vs rfl HVS.out (wf.heap.size + 2) rfl (some ⟨wf.heap.size + 1, 0, none⟩) 1 1 hcell HC5.out HC6.out ?_)
          intro g8 c8 w8 hn8 hgw8 hlt8
          have HSN : Hid (Ln wA (w8.setCell ⟨g, 1, none⟩ (.slice (some ⟨g8, 0, none⟩) (q + 1) c8)) g n (q + 1) (q + 1) (.slice (some ⟨g9, 0, none⟩) (q + 1 + 1) c9) (.slice (some ⟨g8, 0, none⟩) (q + 1) c8)) := Lib.hid (HL9.out.stepM HB1.out HVS.out HLT.out (Nat.le_refl _) hgw8 hn8)
          have hrb := row_grown (HL9.out.next HB1.out).box HVS.out whT.2.2 hgw8
          have z1 : w8.cell? ⟨g, 1, none⟩ = some (.slice am q cm) := hrb.cell (i := 1) (by omega)
          have z2 : w8.frozen? ⟨g, 1, none⟩ = false := hrb.frozen 1
          clear hn8 hgw8 hlt8 hrb hcell HL9 HVS HB1 HLT g1 hwz hq2
          go_wp2
          go_roundw
          case rel => exact ⟨q + 1, _, _, _, _, by omega, by go_num, HSN⟩
          case measure => simp [intOf]; omega
        · have hqK : q = K := by omega
          subst hqK
          have hr0 := HRB.out.of_block (HL.out.below.block _ HSA.out)
          have q0 : wx.cell? ⟨w.heap.size, 0, none⟩ = some (.slice none 0 0) := hr0.cell (i := 0) (by omega)
          have z0 : wx.frozen? ⟨w.heap.size, 0, none⟩ = false := hr0.frozen 0
          have hr1 := hr0.set 0 (.slice ad (q + 1) cd)
          have q1 : (wx.setCell ⟨w.heap.size, 0, none⟩ (.slice ad (q + 1) cd)).cell? ⟨w.heap.size, 1, none⟩ = some (.slice none 0 0) := hr1.cell (i := 1) (by omega)
          have z1 : (wx.setCell ⟨w.heap.size, 0, none⟩ (.slice ad (q + 1) cd)).frozen? ⟨w.heap.size, 1, none⟩ = false := hr1.frozen 1
          have hr2 := hr1.set 1 (.slice am q cm)
          obtain ⟨WF, hWF⟩ : ∃ WF, WF = ((wx.setCell ⟨w.heap.size, 0, none⟩ (.slice ad (q + 1) cd)).setCell ⟨w.heap.size, 1, none⟩ (.slice am q cm)) := ⟨_, rfl⟩
          rw [← hWF] at hr2
          have f0 : WF.cell? ⟨w.heap.size, 0, none⟩ = some (.slice ad (q + 1) cd) := hr2.cell (i := 0) (by omega)
          have f1 : WF.cell? ⟨w.heap.size, 1, none⟩ = some (.slice am q cm) := hr2.cell (i := 1) (by omega)
          have HRC : Hid (RcWh w.heap.size WF.heap.size WF (.slice ad (q + 1) cd) (.slice am q cm) (lensD q) (lensM n q)) := Lib.hid (by
            have h1 := HL.out.rc hK5
            have hs : WF.heap.size = wx.heap.size := by rw [hWF]; simp
            rw [hs]
            refine (h1.same ?_).wider (Nat.le_of_lt HSA.out) (Nat.le_refl _)
            rw [hWF]
            exact (Same.set _ (Or.inl HSA.out)).trans (Same.set _ (Or.inl HSA.out)))
          have HBF : Hid (Below w.heap.size w WF) := Lib.hid (by
            rw [hWF]
            exact ((HB0.out.trans (HL.out.below.mono (Nat.le_of_lt HSA.out))).setCell (Nat.le_refl _) _).setCell (Nat.le_refl _) _)
          have HWF := Lib.hid hWF
          clear hr0 hr1 hr2 hWF
          go_wp2
          rw [← HWF.out]
          refine bodyPost_ret (v := .tuple #[.agg #[.slice ad (q + 1) cd, .slice am q cm], .int .i64 0]) ?_ rfl ?_
          · simp only [results, HRES.out]
            go_simp
          · refine ⟨_, lensO n q, 0, rfl, ⟨ad, cd, am, cm, ?_, ?_⟩, HBF.out, RsOut.of_yes rfl (by rw [HTN.out])⟩
            · show _ = Value.agg #[.slice ad (lensD q).length cd, .slice am (lensM n q).length cm]
              rw [lensD_length, lensM_length]
            · show RcWh w.heap.size WF.heap.size WF (.slice ad (lensD q).length cd) (.slice am (lensM n q).length cm) (lensD q) (lensM n q)
              rw [lensD_length, lensM_length]
              exact HRC.out
    · rw [lensCode_no (fun h => hk h.2)]
      have HN := Lib.hid hn
      have HK := Lib.hid hk
      clear hn hk
      go_enter Try.func15, Try.ntmps15
      go_wp2_with fail
      refine (spin_yes HN.out _).mono ?_
      rintro e w' ⟨rfl, rfl⟩
      go_wp2_with fail
      refine (spin_no HK.out _).mono ?_
      rintro e w' ⟨rfl, rfl⟩
      go_wp2
      refine bodyPost_ret (v := .tuple #[.agg #[.slice none 0 0, .slice none 0 0], .int .i64 2]) ?_ rfl ?_
      · simp only [results, HRES.out]
        go_simp
      · exact ⟨_, ([], []), 2, rfl, RwWh.nil _ _ _, HBA.out _ _, RsOut.of_no (by decide)⟩
  · rw [lensCode_no (fun h => hn h.1)]
    have HN := Lib.hid hn
    clear hn
    go_enter Try.func15, Try.ntmps15
    go_wp2_with fail
    refine (spin_no HN.out _).mono ?_
    rintro e w' ⟨rfl, rfl⟩
    go_wp2
    refine bodyPost_ret (v := .tuple #[.agg #[.slice none 0 0, .slice none 0 0], .int .i64 2]) ?_ rfl ?_
    · simp only [results, HRES.out]
      go_simp
    · exact ⟨_, ([], []), 2, rfl, RwWh.nil _ _ _, HBA.out _ _, RsOut.of_no (by decide)⟩

theorem spLensComplexS_any (n k : Int) (w : World) : Calls Try.prog 15 #[.int .i64 n, .int .i64 k] w (AnsS RsWh (fun o => o = lensO n k.toNat) ([], []) (lensCode n k) w) :=
  (spLensComplex_any n k w).mono fun _ _ ⟨u, o, c, he, hr, hb, ho⟩ => ⟨u, o, c, he, hr.rs, hb, ho⟩
end Go.Proofs.Ytiokagnolbddlaa
