/-
  ShiftComplex of the model.
-/
import Derived.Test.YtpdkfidmmjlmnaaShm
import Derived.Test.YtpdkfidmmjlmnaaRwo
import Derived.Test.YtpdkfidmmjlmnaaLs1
import Derived.Test.YtpdkfidmmjlmnaaGwc
import Derived.Test.YtpdkfidmmjlmnaaMpo
import Derived.Test.YtpdkfidmmjlmnaaBlk
import Derived.Deep.Cut
import Derived.Deep.CutRange
namespace Go.Proofs.Ytpdkfidmmjlmnaa
open Go.RowKit

/-- The table of a degree, as the model scales it. -/
def shX (p : Int) (ds : List Int) (ms : List (List (List Int))) (K k : Nat) : List (List Int) := tableOf (cycT ds ms k).length (cycM ds k) (scZ p (shg p K) (cycT ds ms k))
theorem shX_length (p : Int) (ds : List Int) (ms : List (List (List Int))) (K k : Nat) : (shX p ds ms K k).length = (cycT ds ms k).length := by simp [shX, tableOf]
theorem sht_low {p : Int} {ds : List Int} {ms : List (List (List Int))} {K j : Nat} (h : j + 1 < K) : sht p ds ms K j = [] := by
  unfold sht shd
  rw [if_pos (by omega), if_pos h]
  rfl
theorem sht_at {p : Int} {ds : List Int} {ms : List (List (List Int))} (hc : IsCx p ds ms) {K k q : Nat} (hk : k < ds.length) (hq : q + 1 = K + k) : sht p ds ms K q = shX p ds ms K k := by
  unfold sht shX
  by_cases h0 : k = 0
  · subst h0
    have h1 := (cyc_ok hc hk).1
    have h2 := (dimN_le8 hc 0).2
    rw [if_pos (by omega), h1]
    have h3 : shd ds K q = 0 := by unfold shd; rw [if_pos (by omega)]
    have h4 : shd ds K (q + 1) = ds.getD 0 0 := by unfold shd; rw [if_neg (by omega), show q + 1 - K = 0 by omega]
    have h5 : cycM ds 0 = 0 := rfl
    rw [h3, h4, h5, h2]
    exact (tableOf_none _ _).trans (tableOf_none _ _).symm
  · obtain ⟨k', rfl⟩ : ∃ k', k = k' + 1 := ⟨k - 1, by omega⟩
    have e1 : q - K = k' := by omega
    have h2 := (dimN_le8 hc k').2
    have h3 : cycM ds (k' + 1) = dimN ds (k' : Int) := by simp [cycM]
    rw [if_neg (by omega), e1, cycT_succ hc hk, h3, h2]
    rfl
theorem mix_len {X Y : List (List Int)} (h : X.length = Y.length) (q : Nat) (hq : q ≤ Y.length) : (X.take q ++ Y.drop q).length = Y.length := by simp; omega
theorem mix_at {X Y : List (List Int)} (h : X.length = Y.length) {q : Nat} (hq : q < Y.length) (hl : q < (X.take q ++ Y.drop q).length) : (X.take q ++ Y.drop q)[q] = Y[q] := by
  rw [List.getElem_append_right (by simp; omega)]
  simp [h, Nat.min_eq_left (Nat.le_of_lt hq)]
theorem mix_set {X Y : List (List Int)} (h : X.length = Y.length) {q : Nat} (hq : q < Y.length) (y : List Int) (hy : y = X[q]'(by omega)) : (X.take q ++ Y.drop q).set q y = X.take (q + 1) ++ Y.drop (q + 1) := by
  rw [List.set_append_right _ _ (by simp; omega), List.drop_eq_getElem_cons hq]
  have : q - (X.take q).length = 0 := by simp; omega
  rw [this, List.set_cons_zero, List.take_succ_eq_append_getElem (by omega), hy, List.append_assoc]
  rfl
/-- The factor of the model. -/
def shk (K : Nat) : Int := 2 * ((K : Int) % 2) - 1
theorem shk_bd (K : Nat) : -1 ≤ shk K ∧ shk K ≤ 1 := by unfold shk; omega
theorem toL_zv (n : Nat) : toL n Lin.zv = List.replicate n 0 := List.ext_getElem (by simp [toL]) (fun i h1 h2 => by simp [toL, Lin.zv])
theorem sh_row (p : Int) (K : Nat) {c : Nat} {Y : List (List Int)} {q : Nat} (hq : q < Y.length) (hl : (Y[q]).length = c) : toL c (Lin.add p Lin.zv (-(shk K)) (ofL Y[q])) = (tableOf Y.length c (scZ p (shg p K) Y))[q]'(by simpa [tableOf] using hq) := by
  unfold toL
  simp only [tableOf, List.getElem_map, List.getElem_range]
  refine List.map_congr_left fun i hi => ?_
  have hi' : i < (Y[q]).length := by rw [hl]; exact List.mem_range.1 hi
  rw [scZ, getD_of_lt _ hq, Lin.add, Lin.zv, ofL_at hi', getD_of_lt _ hi']
  unfold shg shk
  by_cases h : (K : Int) % 2 = 0
  · rw [if_pos h, h]
    exact congrArg (· % p) (by omega)
  · have h2 : (K : Int) % 2 = 1 := by omega
    rw [if_neg h, h2]
    have e : (p - 1) * (Y[q])[i] = (0 + -(2 * 1 - 1) * (Y[q])[i]) + p * (Y[q])[i] := by rw [Int.sub_mul]; omega
    rw [e, Int.add_mul_emod_self_left]

def ShG (p : Int) (K : Nat) (ds : List Int) (ms : List (List (List Int))) (w : World) (e : Ending) (w' : World) : Prop := ∃ u, e = .returned u ∧ GwC 0 w' u (p, shD ds K, shM p ds ms K) ∧ Below w.heap.size w w'

set_option maxHeartbeats 25600000 in
set_option maxRecDepth 100000 in
theorem l01Shift_any (p : Int) (K : Nat) (dv mv : Value) (ds : List Int) (ms : List (List (List Int))) (w : World) (h : Cx 0 w dv mv ds ms) (hd : ds.length ≤ 1048576) (hc : IsCx p ds ms) (hK : K ≤ 5) :
    Calls Try.prog 121 #[.agg #[.int .i64 p, dv, mv], .int .i64 (K : Int)] w (ShG p K ds ms w) := by
  have hres : Try.f121.results = #[.cell 4 28] := by kernel_rfl
  have HRES := Lib.hid hres
  have HC := Lib.hid hc
  obtain ⟨wa, hwa⟩ : ∃ wa, wa = w.alloc (.cells #[.int .i64 p, dv, mv] 28) := ⟨_, rfl⟩
  obtain ⟨wB, hwB⟩ : ∃ wB, wB = wa.alloc (.cells #[.int .i64 0, .slice none 0 0, .slice none 0 0] 28) := ⟨_, rfl⟩
  have hsa : wa.heap.size = w.heap.size + 1 := by rw [hwa]; simp
  have hs1 : w.heap.size + 2 = wB.heap.size := by rw [hwB]; simp [hsa]
  have HX : Hid (Bx w wB w.heap.size p dv mv ds ms) := Lib.hid (by rw [hwB]; exact (show Bx w wa w.heap.size p dv mv ds ms by rw [hwa]; exact Bx.start _ h).next (below_alloc1 _ _))
  have HR0 : Hid (Rz wB (w.heap.size + 1) 28 #[.int .i64 0, .slice none 0 0, .slice none 0 0]) := Lib.hid (by rw [hwB, ← hsa]; exact Rz.new _ _ _)
  obtain ⟨ad, cap, rfl⟩ := Sl.shape h.dims
  obtain ⟨am, capm, rfl⟩ := Sl.shape h.maps
  have HNB : Hid (∀ W, Below wB.heap.size wB W → Bx w W w.heap.size p (.slice ad ds.length cap) (.slice am ms.length capm) ds ms ∧ Rz W (w.heap.size + 1) 28 #[.int .i64 0, .slice none 0 0, .slice none 0 0]) := Lib.hid (fun W hb => ⟨HX.out.next hb, HR0.out.next hb⟩)
  have c0 := HX.out.c0
  have c1 := HX.out.c1
  have c2 := HX.out.c2
  have hl1 := hc.1.len1
  have hl0 := hc.1.len0
  have hl2 := hc.1.mlen
  have hp2 := hc.1.prime.lo1
  have hp7 := hc.1.prime.hi7
  clear h hc hres HX HR0
  obtain ⟨wp, hwp⟩ : ∃ wp, wp = wB.alloc (.cells #[] 2) := ⟨_, rfl⟩
  obtain ⟨wq, hwq⟩ : ∃ wq, wq = wp.alloc (.cells #[] 41) := ⟨_, rfl⟩
  have hsp : wp.heap.size = wB.heap.size + 1 := by rw [hwp]; simp
  have hsq : wq.heap.size = wB.heap.size + 2 := by rw [hwq]; simp [hsp]
  obtain ⟨wo, hwo⟩ : ∃ wo, wo = wq.alloc (.cells #[.int .i64 p, .slice (some ⟨wB.heap.size, 0, none⟩) 0 0, .slice (some ⟨wB.heap.size + 1, 0, none⟩) 0 0] 28) := ⟨_, rfl⟩
  have HS0 : Hid (Sdo wB wo (wB.heap.size + 1 + 1) p (.slice (some ⟨wB.heap.size, 0, none⟩) 0 0) (.slice (some ⟨wB.heap.size + 1, 0, none⟩) 0 0) [] []) := Lib.hid (by
    have b1 : Below wB.heap.size wB wp := by rw [hwp]; exact below_alloc1 _ _
    have b2 : Below wp.heap.size wp wq := by rw [hwq]; exact below_alloc1 _ _
    have b3 : Below wq.heap.size wq wo := by rw [hwo]; exact below_alloc1 _ _
    have g1 : Gb wB.heap.size wp (.slice (some ⟨wB.heap.size, 0, none⟩) 0 0) [] := by rw [hwp]; exact Gb.new wB (Nat.le_refl _)
    have g2 : Gt wB.heap.size wq (.slice (some ⟨wB.heap.size + 1, 0, none⟩) 0 0) [] := by
      have := Gt.new (base := wB.heap.size) wp (by omega)
      rw [hsp] at this
      rw [hwq]
      exact this
    refine Sdo.start ⟨(b1.trans (b2.mono (by omega))).trans (b3.mono (by omega)), by omega, ?_, (g1.below b2).below b3, g2.below b3⟩
    refine rowIs3 ?_
    have := heap_alloc_new wq (.cells #[.int .i64 p, .slice (some ⟨wB.heap.size, 0, none⟩) 0 0, .slice (some ⟨wB.heap.size + 1, 0, none⟩) 0 0] 28)
    rw [← hwo, hsq] at this
    exact this)
  obtain ⟨g, hg⟩ : ∃ g, g = wB.heap.size + 1 + 1 := ⟨_, rfl⟩
  go_enter Try.func121, Try.ntmps121
  go_upto_region 1 with fail
  rw [← hwa, ← hwB]
  clear hwa hwB hsa
  go_upto_region 2 with fail
  rw [← hwp, ← hwq, ← hwo]
  rw [← hg]
  rw [← hg] at HS0
  clear hwp hwq hwo hsp hsq hg c0 c1 c2
  have hK0 : (0 : Int) ≤ (K : Int) := by omega
  go_wp2
  go_loopw [6] (fun i wr => ∃ (k q : Nat) (a1 a2 : Option Addr) (c1 c2 : Nat), k ≤ K ∧ i = .int .i64 k ∧ Hid (q = k - 1) ∧ Hid (Sdo wB wr g p (.slice a1 k c1) (.slice a2 q c2) ((shD ds K).take k) ((shM p ds ms K).take q))) (fun i _ => K - (intOf i).toNat)
  case atStart => exact ⟨0, 0, _, _, _, _, Nat.zero_le _, rfl, Lib.hid rfl, by simpa using HS0⟩
  case round =>
    clear HS0
    obtain ⟨k, q, a1, a2, cc1, cc2, hk, rfl, HQ, HS⟩ := hrel
    obtain ⟨wx, hwx⟩ : ∃ wx : World, wx = wr := ⟨_, rfl⟩
    subst hwx
    have hqb : q ≤ 20 := by have := HQ.out; omega
    by_cases hlt : k < K
    · have hlk : (k : Int) < (K : Int) := by omega
      obtain ⟨TK, hTK⟩ : ∃ TK, TK = (shD ds K).take k := ⟨_, rfl⟩
      have HSY : Hid (Sdo wB wx g p (.slice a1 k cc1) (.slice a2 q cc2) TK ((shM p ds ms K).take q)) := Lib.hid (by rw [hTK]; exact HS.out)
      have HKL : Hid (TK.length = k) := Lib.hid (by rw [hTK, List.length_take, shD_length]; omega)
      have HXE : Hid ((shD ds K).take (k + 1) = TK ++ [0]) := Lib.hid (by rw [hTK, List.take_succ_eq_append_getElem (by rw [shD_length]; omega)]; simp [shD, shd, hlt])
      clear hTK HS
      have hbe : Below wx.heap.size wx (wx.alloc (.cells #[.int .i64 0] 2)) := below_alloc1 _ _
      have HSE := Lib.hid (HSY.out.next hbe)
      have hcell := cell_alloc1 wx (.int .i64 0) 2
      have HDM := Lib.hid HSE.out.dims
      have hc2 : wB.heap.size ≤ (wx.alloc (.cells #[.int .i64 0] 2)).heap.size := HSE.out.below.size
      have HC4 := Lib.hid hc2
      have hc1 : TK.length ≤ 2097151 := by rw [HKL.out]; omega
      have HC3 := Lib.hid hc1
      have g1 : wx.cell? ⟨g, 1, none⟩ = some (.slice a1 k cc1) := HSY.out.box.cell (i := 1) (by omega)
      clear hc1 hc2 hbe
      go_wp2_with (at_builtin; refine wpList_appendB1l rfl (some 23) rfl (.tmp 21) (.tmp 22) rfl wB.heap.size (.slice a1 k cc1) TK rfl HDM.out wx.heap.size rfl 0 hcell HC3.out HC4.out ?_)
      rw [HKL.out]
      intro g9 c9 w9 hn9 hgw hlw
      have HS9 : Hid (Sdo wB (w9.setCell ⟨g, 1, none⟩ (.slice (some ⟨g9, 0, none⟩) (k + 1) c9)) g p (.slice (some ⟨g9, 0, none⟩) (k + 1) c9) (.slice a2 q cc2) ((shD ds K).take (k + 1)) ((shM p ds ms K).take q)) := Lib.hid (by rw [HXE.out]; exact HSE.out.stepD hgw hn9 (hlw.imp id (fun h => by simpa using h)))
      have hrb := row_grown HSE.out.box HSE.out.dims coT.1 hgw
      have z1 : w9.cell? ⟨g, 1, none⟩ = some (.slice a1 k cc1) := hrb.cell (i := 1) (by omega)
      have z2 : w9.frozen? ⟨g, 1, none⟩ = false := hrb.frozen 1
      have hg9 : g9 < w9.heap.size := (hn9.lt g9 rfl).2
      have HG9 := Lib.hid hg9
      clear hn9 hgw hlw hrb hcell g1 HSE HSY HDM hg9
      by_cases hk00 : k = 0
      · have hz : ¬ (0 : Int) < (k : Int) := by omega
        have HQ2 : Hid (q = k + 1 - 1) := Lib.hid (by have := HQ.out; omega)
        clear hk00
        go_wp2
        go_roundw
        case rel => exact ⟨k + 1, q, _, _, _, _, by omega, by go_num, HQ2, HS9⟩
        case measure => simp [intOf]; omega
      · have hz : (0 : Int) < (k : Int) := by omega
        obtain ⟨wf, hwf⟩ : ∃ wf, wf = (w9.setCell ⟨g, 1, none⟩ (.slice (some ⟨g9, 0, none⟩) (k + 1) c9)) := ⟨_, rfl⟩
        have HGF : Hid (g9 < wf.heap.size) := Lib.hid (by rw [hwf]; simp; exact HG9.out)
        go_upto_region 7 with fail
        rw [← hwf]
        rw [← hwf] at HS9
        clear hwf z1 z2
        have hbu : Below wf.heap.size wf (wf.alloc (.cells #[] 22)) := below_alloc1 _ _
        have HGY : Hid (Gr (some g9) (wf.alloc (.cells #[] 22)) (.slice (some ⟨wf.heap.size, 0, none⟩) 0 0) []) := Lib.hid (Grb.start (Gs.new (base := wf.heap.size) wf (Nat.le_refl _))).gr
        obtain ⟨TQ, hTQ⟩ : ∃ TQ, TQ = (shM p ds ms K).take q := ⟨_, rfl⟩
        have hqk : q + 1 = k := by have := HQ.out; omega
        have HQK := Lib.hid hqk
        have HSU : Hid (Sdo wB (wf.alloc (.cells #[] 22)) g p (.slice (some ⟨g9, 0, none⟩) (k + 1) c9) (.slice a2 q cc2) ((shD ds K).take (k + 1)) TQ) := Lib.hid (by rw [hTQ]; exact HS9.out.next hbu)
        have HQL : Hid (TQ.length = q) := Lib.hid (by rw [hTQ, List.length_take, shM_length]; omega)
        have HXM : Hid ((shM p ds ms K).take (q + 1) = TQ ++ [[]]) := Lib.hid (by rw [hTQ, List.take_succ_eq_append_getElem (by rw [shM_length]; omega)]; simp only [shM, List.getElem_map, List.getElem_range]; rw [sht_low (by omega)])
        have g2' : wf.cell? ⟨g, 2, none⟩ = some (.slice a2 q cc2) := HS9.out.box.cell (i := 2) (by omega)
        clear hTQ hqk HS9 hbu
        have hba : Below (wf.alloc (.cells #[] 22)).heap.size (wf.alloc (.cells #[] 22)) ((wf.alloc (.cells #[] 22)).alloc (.cells #[.slice (some ⟨wf.heap.size, 0, none⟩) 0 0] 41)) := below_alloc1 _ _
        have HSA := Lib.hid (HSU.out.next hba)
        have HMT := Lib.hid HSA.out.maps
        have hcell := cell_alloc1 (wf.alloc (.cells #[] 22)) (.slice (some ⟨wf.heap.size, 0, none⟩) 0 0) 41
        rw [show (wf.alloc (.cells #[] 22)).heap.size = (wf.heap.size + 1) by simp] at hcell
        have HGR := Lib.hid (HGY.out.below hba)
        have hc5 : TQ.length ≤ 2097151 := by rw [HQL.out]; omega
        have HC5 := Lib.hid hc5
        have hc6 : wB.heap.size ≤ ((wf.alloc (.cells #[] 22)).alloc (.cells #[.slice (some ⟨wf.heap.size, 0, none⟩) 0 0] 41)).heap.size := HSA.out.below.size
        have HC6 := Lib.hid hc6
        clear hc5 hc6 hba HSU
        go_wp2_with (at_builtin; refine wpList_appendT1o rfl (some 31) rfl (.tmp 28) (.tmp 30) rfl wB.heap.size (.slice a2 q cc2) TQ rfl (some g9) HMT.out (wf.heap.size + 1) rfl (some ⟨wf.heap.size, 0, none⟩) (0) (0) hcell ([]) HGR.out HC5.out HC6.out ?_)
        rw [HQL.out]
        intro g8 c8 w8 hn8 hgw8
        have HSN : Hid (Sdo wB (w8.setCell ⟨g, 2, none⟩ (.slice (some ⟨g8, 0, none⟩) (q + 1) c8)) g p (.slice (some ⟨g9, 0, none⟩) (k + 1) c9) (.slice (some ⟨g8, 0, none⟩) (q + 1) c8) ((shD ds K).take (k + 1)) ((shM p ds ms K).take (q + 1))) := Lib.hid (by rw [HXM.out]; exact HSA.out.stepM hgw8 hn8)
        obtain ⟨vs8, ho8, _⟩ := HSA.out.maps
        have hrb := row_grown HSA.out.box ho8 coT.2.2 hgw8
        have z1 : w8.cell? ⟨g, 2, none⟩ = some (.slice a2 q cc2) := hrb.cell (i := 2) (by omega)
        have z2 : w8.frozen? ⟨g, 2, none⟩ = false := hrb.frozen 2
        clear hn8 hgw8 hrb hcell HSA HMT ho8 HGR
        have HQ3 : Hid (q + 1 = k + 1 - 1) := Lib.hid (by have := HQK.out; omega)
        go_wp2
        go_roundw
        case rel => exact ⟨k + 1, q + 1, _, _, _, _, by omega, by go_num, HQ3, HSN⟩
        case measure => simp [intOf]; omega
    · have hlk : ¬ (k : Int) < (K : Int) := by omega
      have hkK : k = K := by omega
      subst hkK
      have HS1 : Hid (Sdo wB wx g p (.slice a1 k cc1) (.slice a2 q cc2) ((shD ds k).take k) ((shM p ds ms k).take q)) := Lib.hid HS.out
      have HNK := Lib.hid HQ.out
      clear HS HQ
      go_wp2
      go_loopw [7, 8, 9] (fun i _ _ wr => ∃ (j q n : Nat) (a1 a2 : Option Addr) (c1 c2 : Nat), j ≤ ds.length ∧ i = .int .i64 j ∧ n = k + j ∧ Hid (q = n - 1) ∧ Hid (Sdo wB wr g p (.slice a1 n c1) (.slice a2 q c2) ((shD ds k).take n) ((shM p ds ms k).take q))) (fun i _ _ _ => ds.length - (intOf i).toNat)
      case atStart => exact ⟨0, q, k, _, _, _, _, Nat.zero_le _, rfl, rfl, HNK, HS1⟩
      case round =>
        clear HS1 HNK a1 a2 cc1 cc2 hqb
        obtain ⟨j, q, n, a1, a2, cc1, cc2, hj, rfl, hnj, HQ, HS⟩ := hrel
        obtain ⟨wx, hwx⟩ : ∃ wx : World, wx = wr := ⟨_, rfl⟩
        subst hwx
        have HNJ := Lib.hid hnj
        have hn11 : n ≤ 11 := by omega
        have hqb : q ≤ 20 := by have := HQ.out; omega
        clear hnj
        have c1 := (HNB.out _ HS.out.below).1.c1
        by_cases hlt : j < ds.length
        · have hlj : (j : Int) < (ds.length : Int) := by omega
          have hj0 : (0 : Int) ≤ (j : Int) := by omega
          obtain ⟨x, hx⟩ : ∃ x, x = ds.getD j 0 := ⟨_, rfl⟩
          obtain ⟨TK, hTK⟩ : ∃ TK, TK = (shD ds k).take n := ⟨_, rfl⟩
          have HSY : Hid (Sdo wB wx g p (.slice a1 n cc1) (.slice a2 q cc2) TK ((shM p ds ms k).take q)) := Lib.hid (by rw [hTK]; exact HS.out)
          have HKL : Hid (TK.length = n) := Lib.hid (by rw [hTK, List.length_take, shD_length]; have := HNJ.out; omega)
          have HXE : Hid ((shD ds k).take (n + 1) = TK ++ [x]) := Lib.hid (by rw [hTK, List.take_succ_eq_append_getElem (by rw [shD_length]; have := HNJ.out; omega)]; have hn' := HNJ.out; simp [shD, shd, show ¬ n < k by omega, show n - k = j by omega, hx])
          refine Sl.cases ((HNB.out _ HS.out.below).1.cx.dims) (fun _ _ hx _ => absurd hlt (by simp [hx])) (fun bd od capd hvd _ _ hcld => ?_)
          injection hvd with e1 e2 e3
          clear e2
          subst e1 e3
          obtain ⟨ud, hud, hrd⟩ := hcld j hlt
          have HUX : Hid (∀ W, Below wx.heap.size wx W → W.cell? ⟨bd, od + j, none⟩ = some (.int .i64 x)) := Lib.hid (fun W hb => later hb (Nat.le_refl _) (by rw [hud, hrd, hx, getD_of_lt _ hlt]))
          have HNW : Hid (∀ W, Below wx.heap.size wx W → Bx w W w.heap.size p (.slice (some ⟨bd, od, none⟩) ds.length cap) (.slice am ms.length capm) ds ms ∧ W.cell? ⟨g, 1, none⟩ = some (.slice a1 n cc1)) := Lib.hid (fun W hb => ⟨(HNB.out _ (HSY.out.below.trans (hb.mono HSY.out.below.size))).1, later hb (Nat.le_refl _) (HSY.out.box.cell (i := 1) (by omega))⟩)
          have hsx : wB.heap.size ≤ wx.heap.size := HSY.out.below.size
          have HUB : Hid (∀ W, Below wB.heap.size wB W → W.cell? ⟨bd, od + j, none⟩ = some (.int .i64 x)) := Lib.hid (fun W hb => by
            obtain ⟨u2, hu2, hr2⟩ := Sl.at (HNB.out W hb).1.cx.dims hlt
            rw [hu2, hr2, hx, getD_of_lt _ hlt])
          clear hTK HS hx hud hrd hcld
          go_upto_region 11 with fail
          clear c1
          go_wp2
          refine wp_region_last (fun W => Below wB.heap.size wB W ∧ W.cell? ⟨g, 1, none⟩ = some (.slice a1 n cc1) ∧ W.cell? ⟨bd, od + j, none⟩ = some (.int .i64 x) ∧ W.cell? ⟨w.heap.size, 1, none⟩ = some (.slice (some ⟨bd, od, none⟩) ds.length cap)) 10 (by kernel_rfl) rfl (by kernel_rfl) ?_
          change wpAnyH _ _ _ _ _ _ _ _ wx.drew
          have hbd0 : Below wx.heap.size wx wx.drew := (Below.refl _ _).drew
          obtain ⟨wd, hwd⟩ : ∃ wd, wd = wx.drew := ⟨_, rfl⟩
          rw [← hwd] at hbd0 ⊢
          clear hwd
          have S0 : Below wB.heap.size wB wd ∧ wd.cell? ⟨g, 1, none⟩ = some (.slice a1 n cc1) ∧ wd.cell? ⟨bd, od + j, none⟩ = some (.int .i64 x) ∧ wd.cell? ⟨w.heap.size, 1, none⟩ = some (.slice (some ⟨bd, od, none⟩) ds.length cap) := ⟨HSY.out.below.trans (hbd0.mono hsx), (HNW.out _ hbd0).2, HUX.out _ hbd0, (HNW.out _ hbd0).1.c1⟩
          refine held_take (i := 0) (v := .pointer (some ⟨g, 1, none⟩)) (some 40) rfl rfl (by kernel_rfl) (by kernel_rfl) (by kernel_rfl) (fun _ _ _ h => h) (yieldsIf_run (by kernel_rfl) (fun W _ => by kernel_rfl)) S0 ?_
          refine held_take (i := 1) (v := .slice a1 n cc1) (some 41) rfl rfl (by kernel_rfl) (by kernel_rfl) (by kernel_rfl) (fun _ _ _ h => h) (yieldsIf_cell (by kernel_rfl) rfl (by kernel_rfl) (fun W h => hloadD W h.2.1)) S0 ?_
          refine held_take (i := 2) (v := .pointer (some ⟨w.heap.size, 1, none⟩)) (some 42) rfl rfl (by kernel_rfl) (by kernel_rfl) (by kernel_rfl) (fun _ _ _ h => h) (yieldsIf_run (by kernel_rfl) (fun W _ => by kernel_rfl)) S0 ?_
          refine held_take (i := 3) (v := .slice (some ⟨bd, od, none⟩) ds.length cap) (some 43) rfl rfl (by kernel_rfl) (by kernel_rfl) (by kernel_rfl) (fun _ _ _ h => h) (yieldsIf_cell (by kernel_rfl) rfl (by kernel_rfl) (fun W h => hloadD W h.2.2.2)) S0 ?_
          refine held_take (i := 4) (v := .int .i64 (j : Int)) (some 44) rfl rfl (by kernel_rfl) (by kernel_rfl) (by kernel_rfl) (fun _ _ _ h => h) (yieldsIf_move (by kernel_rfl) rfl (by kernel_rfl)) S0 ?_
          refine held_take (i := 5) (v := .pointer (some ⟨bd, od + j, none⟩)) (some 45) rfl rfl (by kernel_rfl) (by kernel_rfl) (by kernel_rfl) (fun _ _ _ h => h) (yieldsIf_index (by kernel_rfl) rfl (by kernel_rfl) (by kernel_rfl) (hidxI bd od cap hlt)) S0 ?_
          refine held_take (i := 6) (v := .int .i64 x) (some 46) rfl rfl (by kernel_rfl) (by kernel_rfl) (by kernel_rfl) (fun _ _ _ h => h) (yieldsIf_cell (by kernel_rfl) rfl (by kernel_rfl) (fun W h => hload W h.2.2.1)) S0 ?_
          obtain ⟨we, hwe⟩ : ∃ we, we = (wd.alloc (.cells #[.int .i64 x] 2)) := ⟨_, rfl⟩
          have hbe : Below wd.heap.size wd we := by rw [hwe]; exact below_alloc1 _ _
          have hze : we.heap.size = wd.heap.size + 1 := by rw [hwe]; simp
          have hcell : we.cell? ⟨wd.heap.size, 0, none⟩ = some (.int .i64 x) := by rw [hwe]; exact cell_alloc1 wd _ _
          have S1 : Below wB.heap.size wB we ∧ we.cell? ⟨g, 1, none⟩ = some (.slice a1 n cc1) ∧ we.cell? ⟨bd, od + j, none⟩ = some (.int .i64 x) ∧ we.cell? ⟨w.heap.size, 1, none⟩ = some (.slice (some ⟨bd, od, none⟩) ds.length cap) := ⟨S0.1.trans (hbe.mono S0.1.size), later hbe (Nat.le_refl _) S0.2.1, later hbe (Nat.le_refl _) S0.2.2.1, later hbe (Nat.le_refl _) S0.2.2.2⟩
          refine held_mem (i := 7) (v := .slice (some ⟨wd.heap.size, 0, none⟩) 1 1) (w' := we) (some 47) (by kernel_rfl) rfl rfl rfl (by rw [hwe]; go_simp) S1 ?_
          have hse : Below wx.heap.size wx we := hbd0.trans (hbe.mono hbd0.size)
          have HSE := (HSY.out.next hse)
          refine held_call (i := 8) (by kernel_rfl) rfl rfl ?_
          refine wp_appendB1l (some 48) rfl (.tmp 41) (.tmp 47) rfl wB.heap.size (.slice a1 n cc1) TK (by kernel_rfl) HSE.dims wd.heap.size (by kernel_rfl) x hcell (by rw [HKL.out]; omega) S1.1.size ?_
          rw [HKL.out]
          intro g9 c9 w9 hn9 hgw hlw
          have HS9 : Hid (Sdo wB (w9.setCell ⟨g, 1, none⟩ (.slice (some ⟨g9, 0, none⟩) (n + 1) c9)) g p (.slice (some ⟨g9, 0, none⟩) (n + 1) c9) (.slice a2 q cc2) ((shD ds k).take (n + 1)) ((shM p ds ms k).take q)) := Lib.hid (by rw [HXE.out]; exact HSE.stepD hgw hn9 hlw)
          have hrb := row_grown HSE.box HSE.dims coT.1 hgw
          have z1 : w9.cell? ⟨g, 1, none⟩ = some (.slice a1 n cc1) := hrb.cell (i := 1) (by omega)
          have z2 : w9.frozen? ⟨g, 1, none⟩ = false := hrb.frozen 1
          have hg9 : g9 < w9.heap.size := (hn9.lt g9 rfl).2
          have hb9 : Below wB.heap.size wB w9 := S1.1.grown hgw S1.1.size (fun g0 hg0 => (HSE.dims.lt g0 hg0).1)
          have S2 : Below wB.heap.size wB w9 ∧ w9.cell? ⟨g, 1, none⟩ = some (.slice a1 n cc1) ∧ w9.cell? ⟨bd, od + j, none⟩ = some (.int .i64 x) ∧ w9.cell? ⟨w.heap.size, 1, none⟩ = some (.slice (some ⟨bd, od, none⟩) ds.length cap) := ⟨hb9, z1, HUB.out _ hb9, (HNB.out _ hb9).1.c1⟩
          refine ⟨S2, ?_⟩
          refine held_take (i := 9) (v := .pointer (some ⟨g, 1, none⟩)) (some 49) rfl rfl (by kernel_rfl) (by kernel_rfl) (by kernel_rfl) (fun _ _ _ h => h) (yieldsIf_run (by kernel_rfl) (fun W _ => by kernel_rfl)) S2 ?_
          refine held_none (i := 10) (v := .bool false) rfl rfl (by kernel_rfl) (by kernel_rfl) (by kernel_rfl) (fun _ _ _ h => h) (yieldsIf_move (by kernel_rfl) rfl (by kernel_rfl)) S2 ?_
          refine wpAnyH_done (by kernel_rfl) (lastQ_of rfl (by kernel_rfl) ?_) _
          simp only [Act.put, List.setIfInBounds_toArray, List.set_cons_zero, List.set_cons_succ]
          go_simp
          obtain ⟨wf, hwf⟩ : ∃ wf, wf = (w9.setCell ⟨g, 1, none⟩ (.slice (some ⟨g9, 0, none⟩) (n + 1) c9)) := ⟨_, rfl⟩
          have HGF : Hid (g9 < wf.heap.size) := Lib.hid (by rw [hwf]; simpa using hg9)
          rw [← hwf]
          rw [← hwf] at HS9
          clear hwf z1 z2 S0 S1 S2 hb9 hg9 hrb hgw hlw hn9 hse hcell hze hbe hwe hbd0 HSE HSY
          have HNF : Hid (∀ W, Below wf.heap.size wf W → Bx w W w.heap.size p (.slice (some ⟨bd, od, none⟩) ds.length cap) (.slice am ms.length capm) ds ms) := Lib.hid (fun W hb => (HNB.out _ (HS9.out.below.trans (hb.mono HS9.out.below.size))).1)
          obtain ⟨Tt, hTT⟩ : ∃ Tt, Tt = cycT ds ms j := ⟨_, rfl⟩
          obtain ⟨c, hcc⟩ : ∃ c, c = cycM ds j := ⟨_, rfl⟩
          have HCO := Lib.hid (cyc_ok HC.out hlt)
          rw [← hTT, ← hcc] at HCO
          have hc8 : c ≤ 8 := HCO.out.2.2
          have ht8 : Tt.length ≤ 8 := by have := HCO.out.1; have := (dimN_le8 HC.out j).1; omega
          have HTR : Hid (∀ y ∈ Tt, y.length = c) := Lib.hid (fun y hy => by have := (HCO.out.2.1 y hy).1; omega)
          have HXX : Hid (shX p ds ms k j = tableOf Tt.length c (scZ p (shg p k) Tt)) := Lib.hid (by rw [hTT, hcc]; rfl)
          have HMP : Hid (∀ W, Below wf.heap.size wf W → Calls Try.prog 90 #[.agg #[.int .i64 p, .slice (some ⟨bd, od, none⟩) ds.length cap, .slice am ms.length capm], .int .i64 (j : Int)] W (DtR Tt W)) := Lib.hid (fun W hb => (l01Map_any p (j : Int) _ _ ds ms W (HNF.out W hb).cx HC.out).mono (fun e w' ⟨v, he, hv, hb⟩ => ⟨v, he, by rw [hTT]; exact hv, hb⟩))
          have c0 := (HNF.out _ (Below.refl _ _)).c0
          have c1 := (HNF.out _ (Below.refl _ _)).c1
          have c2 := (HNF.out _ (Below.refl _ _)).c2
          clear hTT hcc
          go_wp2_with fail
          refine (HMP.out _ (Below.refl _ _)).mono ?_
          rintro ee w5 ⟨v5, rfl, ht5, hb5⟩
          have HB5 := Lib.hid hb5
          have HT5 := Lib.hid ht5
          have hs5 : wf.heap.size ≤ w5.heap.size := hb5.size
          clear c0 c1 c2 hb5 ht5
          go_wp2_with fail
          refine (l01Rows_off g9 v5 Tt _ (by have := HGF.out; omega) HT5.out (by omega) (fun y hy => by have := HTR.out y hy; omega)).mono ?_
          rintro ee w6 ⟨v6, rfl, hg6, hb6⟩
          have HB6 := Lib.hid (HB5.out.trans (hb6.mono hs5))
          have hs6 : w5.heap.size ≤ w6.heap.size := hb6.size
          obtain ⟨ar, cr, hv6⟩ := Sl.shape hg6.gs.l2
          subst hv6
          have HG6 : Hid (Grb (some g9) w5.heap.size w6 (.slice ar Tt.length cr) ((shX p ds ms k j).take 0 ++ Tt.drop 0)) := Lib.hid (by simpa using hg6)
          clear hg6 hb6
          go_wp2
          obtain ⟨X, hX⟩ : ∃ X, X = shX p ds ms k j := ⟨_, rfl⟩
          have HXL : Hid (X.length = Tt.length) := Lib.hid (by rw [hX, HXX.out]; simp [tableOf])
          have HXD := Lib.hid hX
          rw [← hX] at HG6 HXX
          clear hX
          go_loopw [9] (fun i wr => ∃ r : Nat, r ≤ Tt.length ∧ i = .int .i64 r ∧ Hid (Below wf.heap.size wf wr) ∧ Hid (Grb (some g9) w5.heap.size wr (.slice ar Tt.length cr) (X.take r ++ Tt.drop r))) (fun i _ => Tt.length - (intOf i).toNat)
          case atStart => exact ⟨0, Nat.zero_le _, rfl, HB6, HG6⟩
          case round =>
            clear HG6 HB6
            obtain ⟨r, hr, rfl, HBV, HGV⟩ := hrel
            obtain ⟨wv, hwv⟩ : ∃ wv : World, wv = wr := ⟨_, rfl⟩
            subst hwv
            have hr0 : (0 : Int) ≤ (r : Int) := by omega
            by_cases hlr : r < Tt.length
            · have hlri : (r : Int) < (Tt.length : Int) := by omega
              have hmr : r < (X.take r ++ Tt.drop r).length := by rw [mix_len HXL.out r (by omega)]; exact hlr
              obtain ⟨gr, har⟩ : ∃ gr, ar = some ⟨gr, 0, none⟩ := by
                obtain ⟨vs, ⟨h1, h2⟩, _⟩ := HGV.out
                rcases h2 with ⟨h0, _⟩ | ⟨g2, cap2, cur, hu, _⟩
                · injection h0 with e1 e2 e3
                  omega
                · injection hu with e1 e2 e3
                  exact ⟨g2, e1⟩
              subst har
              obtain ⟨T1, hT1⟩ : ∃ T1, T1 = Tt[r] := ⟨_, rfl⟩
              have hT1l : T1.length = c := by rw [hT1]; exact HTR.out _ (List.getElem_mem hlr)
              have HMD : Hid (Lin.Md p (ofL T1)) := Lib.hid (vecs_md (by omega) HCO.out.2.1 _ (List.mem_map.2 ⟨T1, by rw [hT1]; exact List.getElem_mem hlr, rfl⟩))
              have HTL : Hid (toL c (ofL T1) = T1) := Lib.hid (toL_ofL hT1l)
              obtain ⟨ur, hur, hrr⟩ := Sl.at HGV.out.gs.l2 hmr
              rw [mix_at HXL.out hlr hmr, ← hT1] at hrr
              rw [Nat.zero_add] at hur
              obtain ⟨ax, cx, hus⟩ := Sl.shape hrr
              rw [hT1l] at hus
              subst hus
              have HXR : Hid (toL c (Lin.add p Lin.zv (-(shk k)) (ofL T1)) = X[r]'(by rw [HXL.out]; exact hlr)) := Lib.hid (by simp only [HXX.out]; rw [hT1]; exact sh_row p k hlr (HTR.out _ (List.getElem_mem hlr)))
              have HUR : Hid (∀ W, Below wv.heap.size wv W → W.cell? ⟨gr, r, none⟩ = some (.slice ax c cx) ∧ L1 0 W (.slice ax c cx) T1) := Lib.hid (fun W hb => ⟨later hb (Nat.le_refl _) hur, hrr.below hb⟩)
              have HNV : Hid (∀ W, Below wv.heap.size wv W → Bx w W w.heap.size p (.slice (some ⟨bd, od, none⟩) ds.length cap) (.slice am ms.length capm) ds ms) := Lib.hid (fun W hb => HNF.out W (HBV.out.trans (hb.mono HBV.out.size)))
              have hkb := shk_bd k
              have hk5 : (k : Int) ≤ 5 := by omega
              have hrem : ∀ w, (binOp .rem 2 (.int .i64 (k : Int)) (.int .i64 2)).run Try.prog w = .ok (.int .i64 ((k : Int) % 2)) w := fun w => hremI (by omega) (by omega) (by omega) w
              have hmul : ∀ w, (binOp .mul 2 (.int .i64 2) (.int .i64 ((k : Int) % 2))).run Try.prog w = .ok (.int .i64 (2 * ((k : Int) % 2))) w := hmulA (IntWalk.i64_in _ (by omega))
              have hsub : ∀ w, (binOp .sub 2 (.int .i64 (2 * ((k : Int) % 2))) (.int .i64 1)).run Try.prog w = .ok (.int .i64 (shk k)) w := hsubA (IntWalk.i64_in _ (by unfold shk at hkb; omega))
              have hmk := run_make_row' (P := Try.prog) 22 2 (.int .i64 0) 8 Try.underlying22 Try.infoI rfl .i64 .i64 c (by omega) (by omega)
              have HMK := Lib.hid hmk
              clear hT1 hT1l hur hrr hmk
              go_upto_region 16 with fail
              go_wp2
              refine wp_region_last (fun W => Below wv.heap.size wv W) 20 (by kernel_rfl) rfl (by kernel_rfl) ?_
              have S0 : Below wv.heap.size wv wv.drew := (Below.refl _ _).drew
              change wpAnyH _ _ _ _ _ _ _ _ wv.drew
              obtain ⟨wd, hwd⟩ : ∃ wd, wd = wv.drew := ⟨_, rfl⟩
              rw [← hwd] at S0 ⊢
              clear hwd
              refine held_take (i := 0) (v := .slice (some ⟨gr, 0, none⟩) Tt.length cr) (some 60) rfl rfl (by kernel_rfl) (by kernel_rfl) (by kernel_rfl) (fun _ _ _ h => h) (yieldsIf_move (by kernel_rfl) rfl (by kernel_rfl)) S0 ?_
              refine held_take (i := 1) (v := .int .i64 (r : Int)) (some 61) rfl rfl (by kernel_rfl) (by kernel_rfl) (by kernel_rfl) (fun _ _ _ h => h) (yieldsIf_move (by kernel_rfl) rfl (by kernel_rfl)) S0 ?_
              refine held_take (i := 2) (v := .pointer (some ⟨w.heap.size, 0, none⟩)) (some 62) rfl rfl (by kernel_rfl) (by kernel_rfl) (by kernel_rfl) (fun _ _ _ h => h) (yieldsIf_run (by kernel_rfl) (fun W _ => by kernel_rfl)) S0 ?_
              refine held_take (i := 3) (v := .int .i64 p) (some 63) rfl rfl (by kernel_rfl) (by kernel_rfl) (by kernel_rfl) (fun _ _ _ h => h) (yieldsIf_cell (by kernel_rfl) rfl (by kernel_rfl) (fun W h => hload W (HNV.out W h).c0)) S0 ?_
              refine held_take (i := 4) (v := .slice (some ⟨gr, 0, none⟩) Tt.length cr) (some 64) rfl rfl (by kernel_rfl) (by kernel_rfl) (by kernel_rfl) (fun _ _ _ h => h) (yieldsIf_move (by kernel_rfl) rfl (by kernel_rfl)) S0 ?_
              refine held_take (i := 5) (v := .int .i64 (r : Int)) (some 65) rfl rfl (by kernel_rfl) (by kernel_rfl) (by kernel_rfl) (fun _ _ _ h => h) (yieldsIf_move (by kernel_rfl) rfl (by kernel_rfl)) S0 ?_
              refine held_take (i := 6) (v := .pointer (some ⟨gr, r, none⟩)) (some 66) rfl rfl (by kernel_rfl) (by kernel_rfl) (by kernel_rfl) (fun _ _ _ h => h) (yieldsIf_run (by kernel_rfl) (fun W _ => by go_simp)) S0 ?_
              refine held_take (i := 7) (v := .slice ax c cx) (some 67) rfl rfl (by kernel_rfl) (by kernel_rfl) (by kernel_rfl) (fun _ _ _ h => h) (yieldsIf_cell (by kernel_rfl) rfl (by kernel_rfl) (fun W h => hloadD W (HUR.out W h).1)) S0 ?_
              refine held_take (i := 8) (v := .int .i64 (c : Int)) (some 68) rfl rfl (by kernel_rfl) (by kernel_rfl) (by kernel_rfl) (fun _ _ _ h => h) (yieldsIf_run (by kernel_rfl) (fun W _ => by go_simp)) S0 ?_
              refine held_take (i := 10) (v := .slice (some ⟨gr, 0, none⟩) Tt.length cr) (some 70) rfl rfl (by kernel_rfl) (by kernel_rfl) (by kernel_rfl) (fun _ _ _ h => h) (yieldsIf_move (by kernel_rfl) rfl (by kernel_rfl)) S0 ?_
              refine held_take (i := 11) (v := .int .i64 (r : Int)) (some 71) rfl rfl (by kernel_rfl) (by kernel_rfl) (by kernel_rfl) (fun _ _ _ h => h) (yieldsIf_move (by kernel_rfl) rfl (by kernel_rfl)) S0 ?_
              refine held_take (i := 12) (v := .pointer (some ⟨gr, r, none⟩)) (some 72) rfl rfl (by kernel_rfl) (by kernel_rfl) (by kernel_rfl) (fun _ _ _ h => h) (yieldsIf_run (by kernel_rfl) (fun W _ => by go_simp)) S0 ?_
              refine held_take (i := 13) (v := .slice ax c cx) (some 73) rfl rfl (by kernel_rfl) (by kernel_rfl) (by kernel_rfl) (fun _ _ _ h => h) (yieldsIf_cell (by kernel_rfl) rfl (by kernel_rfl) (fun W h => hloadD W (HUR.out W h).1)) S0 ?_
              refine held_take (i := 14) (v := .int .i64 (k : Int)) (some 74) rfl rfl (by kernel_rfl) (by kernel_rfl) (by kernel_rfl) (fun _ _ _ h => h) (yieldsIf_move (by kernel_rfl) rfl (by kernel_rfl)) S0 ?_
              refine held_take (i := 15) (v := .int .i64 ((k : Int) % 2)) (some 75) rfl rfl (by kernel_rfl) (by kernel_rfl) (by kernel_rfl) (fun _ _ _ h => h) (yieldsIf_bin (by kernel_rfl) rfl (by kernel_rfl) (by kernel_rfl) (fun _ => rfl) hrem) S0 ?_
              refine held_take (i := 16) (v := .int .i64 (2 * ((k : Int) % 2))) (some 76) rfl rfl (by kernel_rfl) (by kernel_rfl) (by kernel_rfl) (fun _ _ _ h => h) (yieldsIf_bin (by kernel_rfl) rfl (by kernel_rfl) (by kernel_rfl) (fun _ => rfl) hmul) S0 ?_
              refine held_take (i := 17) (v := .int .i64 (shk k)) (some 77) rfl rfl (by kernel_rfl) (by kernel_rfl) (by kernel_rfl) (fun _ _ _ h => h) (yieldsIf_bin (by kernel_rfl) rfl (by kernel_rfl) (by kernel_rfl) (fun _ => rfl) hsub) S0 ?_
              obtain ⟨we, hwe⟩ : ∃ we, we = wd.alloc (.cells (madeCells #[.int .i64 0] c) 2) := ⟨_, rfl⟩
              have hbe : Below wd.heap.size wd we := by rw [hwe]; exact below_alloc1 _ _
              have hge : Gb wd.heap.size we (.slice (some ⟨wd.heap.size, 0, none⟩) c c) (List.replicate c 0) := by rw [hwe]; exact madeI wd c (by omega) _ (Nat.le_refl _)
              have SE : Below wv.heap.size wv we := S0.trans (hbe.mono S0.size)
              refine held_make (i := 9) (v := .slice (some ⟨wd.heap.size, 0, none⟩) c c) (w' := we) (x := .int .i64 (c : Int)) (y := .int .i64 (c : Int)) (some 69) 22 (.tmp 68) (.tmp 68) (by kernel_rfl) rfl rfl rfl rfl (by kernel_rfl) (by kernel_rfl) (by rw [hwe]; exact HMK.out wd) SE ?_
              refine held_enter (i := 18) (some 78) (f := 157) (args := #[.int .i64 p, .slice (some ⟨wd.heap.size, 0, none⟩) c c, .slice ax c cx, .int .i64 (shk k)]) (by kernel_rfl) rfl rfl rfl (by kernel_rfl) (l01Less1_any p (shk k) c _ _ Lin.zv (ofL T1) we HC.out.1.prime (by rw [toL_zv]; exact hge.l1) (by rw [HTL.out]; exact (HUR.out _ SE).2) (Lin.zv_md (by omega)) HMD.out ⟨hkb.1, by omega⟩ (by omega)) ?_ (fun c w' h => by obtain ⟨_, h, _⟩ := h; cases h) (fun w' h => by obtain ⟨_, h, _⟩ := h; cases h)
              rintro e4 W4 ⟨u4, he4, hg4, hb4⟩
              injection he4 with he4
              subst he4
              have S4 : Below wv.heap.size wv W4 := SE.trans (hb4.mono SE.size)
              refine ⟨S4, ?_⟩
              rw [HXR.out] at hg4
              obtain ⟨a4, n4, c4, hv4⟩ : ∃ a n c, e4 = .slice a n c := by obtain ⟨a', c', ee⟩ := Sl.shape hg4.l1; exact ⟨a', _, c', ee⟩
              subst hv4
              have hvd : wv.heap.size ≤ wd.heap.size := S0.size
              have hve : wv.heap.size ≤ we.heap.size := SE.size
              have h9v : g9 < wv.heap.size := by have := HGF.out; have := HBV.out.size; omega
              obtain ⟨hput, hfz, ⟨v0, hv0⟩, hgr⟩ := (HGV.out.below S4).put hmr hg4.g1 (hg4.offB (by omega))
              rw [mix_set HXL.out hlr _ rfl] at hput
              refine held_take (i := 19) (v := .pointer (some ⟨gr, r, none⟩)) (some 79) rfl rfl (by kernel_rfl) (by kernel_rfl) (by kernel_rfl) (fun _ _ _ h => h) (yieldsIf_run (by kernel_rfl) (fun W _ => by go_simp)) S4 ?_
              have HBN : Hid (Below wf.heap.size wf (W4.setCell ⟨gr, r, none⟩ (.slice a4 n4 c4))) := Lib.hid ((HBV.out.trans (S4.mono HBV.out.size)).setCell (p := ⟨gr, r, none⟩) (by show wf.heap.size ≤ gr; omega) _)
              have HGN := Lib.hid hput
              refine held_none (i := 20) (v := .bool false) rfl rfl (by kernel_rfl) (by kernel_rfl) (by kernel_rfl) (fun _ _ _ h => h) (yieldsIf_move (by kernel_rfl) rfl (by kernel_rfl)) S4 ?_
              refine wpAnyH_done (by kernel_rfl) (lastQ_of rfl (by kernel_rfl) ?_) _
              simp only [Act.put, List.setIfInBounds_toArray, List.set_cons_zero, List.set_cons_succ]
              go_simp
              obtain ⟨wn, hwn'⟩ : ∃ wn, wn = (W4.setCell ⟨gr, r, none⟩ (.slice a4 n4 c4)) := ⟨_, rfl⟩
              rw [← hwn'] at HBN HGN ⊢
              clear hwn' hput hfz hv0 S0 SE S4 hbe hge hwe hb4 hg4 hrem hmul hsub
              go_wp2
              go_roundw
              case rel => exact ⟨r + 1, by omega, by go_num, HBN, HGN⟩
              case measure => simp [intOf]; omega
            · have hlri : ¬ (r : Int) < (Tt.length : Int) := by omega
              have HGX : Hid (Grb (some g9) w5.heap.size wv (.slice ar Tt.length cr) X) := Lib.hid (by have h0 := HGV.out; rwa [show r = Tt.length by omega, List.drop_length, List.append_nil, List.take_of_length_le (by rw [HXL.out]; exact Nat.le_refl _)] at h0)
              have HSV := Lib.hid (HS9.out.next HBV.out)
              clear HGV
              have hwjk : IntKind.i64.wrap ((j : Int) + (k : Int)) = (j : Int) + (k : Int) := IntWalk.i64_in _ (by omega)
              by_cases h00 : j = 0 ∧ k = 0
              · have hz : ¬ (0 : Int) < (j : Int) + (k : Int) := by omega
                have HQ2 : Hid (q = n + 1 - 1) := Lib.hid (by have := HQ.out; have := HNJ.out; omega)
                have hn2 : n + 1 = k + (j + 1) := by have := HNJ.out; omega
                clear h00
                go_wp2
                go_roundw
                case rel => exact ⟨j + 1, q, n + 1, _, _, _, _, by omega, by go_num, hn2, HQ2, HSV⟩
                case measure => simp [intOf]; omega
              · have hz : (0 : Int) < (j : Int) + (k : Int) := by omega
                have hqn : q + 1 = n := by have := HQ.out; have := HNJ.out; omega
                have HQN := Lib.hid hqn
                obtain ⟨TQ, hTQ⟩ : ∃ TQ, TQ = (shM p ds ms k).take q := ⟨_, rfl⟩
                have HSU : Hid (Sdo wB wv g p (.slice (some ⟨g9, 0, none⟩) (n + 1) c9) (.slice a2 q cc2) ((shD ds k).take (n + 1)) TQ) := Lib.hid (by rw [hTQ]; exact HSV.out)
                have HQL : Hid (TQ.length = q) := Lib.hid (by rw [hTQ, List.length_take, shM_length]; have := HNJ.out; omega)
                have HXM : Hid ((shM p ds ms k).take (q + 1) = TQ ++ [X]) := Lib.hid (by rw [hTQ, List.take_succ_eq_append_getElem (by rw [shM_length]; have := HNJ.out; omega)]; simp only [shM, List.getElem_map, List.getElem_range]; rw [sht_at HC.out hlt (by have := HNJ.out; omega), ← HXD.out])
                have HGY := Lib.hid HGX.out.gr
                have g2' : wv.cell? ⟨g, 2, none⟩ = some (.slice a2 q cc2) := HSU.out.box.cell (i := 2) (by omega)
                clear hTQ hqn HSV HS9 HGX h00
                have hba : Below wv.heap.size wv (wv.alloc (.cells #[.slice ar Tt.length cr] 41)) := below_alloc1 _ _
                have HSA := Lib.hid (HSU.out.next hba)
                have HMT := Lib.hid HSA.out.maps
                have hcell := cell_alloc1 wv (.slice ar Tt.length cr) 41
                have HGR := Lib.hid (HGY.out.below hba)
                have hc5 : TQ.length ≤ 2097151 := by rw [HQL.out]; omega
                have HC5 := Lib.hid hc5
                have hc6 : wB.heap.size ≤ (wv.alloc (.cells #[.slice ar Tt.length cr] 41)).heap.size := HSA.out.below.size
                have HC6 := Lib.hid hc6
                clear hc5 hc6 hba HSU
                go_wp2_with (at_builtin; refine wpList_appendT1o rfl (some 88) rfl (.tmp 85) (.tmp 87) rfl wB.heap.size (.slice a2 q cc2) TQ rfl (some g9) HMT.out wv.heap.size rfl ar (Tt.length) (cr) hcell (X) HGR.out HC5.out HC6.out ?_)
                rw [HQL.out]
                intro g8 c8 w8 hn8 hgw8
                have HSN : Hid (Sdo wB (w8.setCell ⟨g, 2, none⟩ (.slice (some ⟨g8, 0, none⟩) (q + 1) c8)) g p (.slice (some ⟨g9, 0, none⟩) (n + 1) c9) (.slice (some ⟨g8, 0, none⟩) (q + 1) c8) ((shD ds k).take (n + 1)) ((shM p ds ms k).take (q + 1))) := Lib.hid (by rw [HXM.out]; exact HSA.out.stepM hgw8 hn8)
                obtain ⟨vs8, ho8, _⟩ := HSA.out.maps
                have hrb := row_grown HSA.out.box ho8 coT.2.2 hgw8
                have z1 : w8.cell? ⟨g, 2, none⟩ = some (.slice a2 q cc2) := hrb.cell (i := 2) (by omega)
                have z2 : w8.frozen? ⟨g, 2, none⟩ = false := hrb.frozen 2
                clear hn8 hgw8 hrb hcell HSA HMT ho8 HGR
                have HQ3 : Hid (q + 1 = n + 1 - 1) := Lib.hid (by have := HQN.out; omega)
                have hn2 : n + 1 = k + (j + 1) := by have := HNJ.out; omega
                go_wp2
                go_roundw
                case rel => exact ⟨j + 1, q + 1, n + 1, _, _, _, _, by omega, by go_num, hn2, HQ3, HSN⟩
                case measure => simp [intOf]; omega
        · have hlj : ¬ (j : Int) < (ds.length : Int) := by omega
          have hjl : j = ds.length := by omega
          have HSF : Hid (Sdo wB wx g p (.slice a1 n cc1) (.slice a2 q cc2) (shD ds k) (shM p ds ms k)) := Lib.hid (by have h0 := HS.out; rw [List.take_of_length_le (by rw [shD_length]; have := HNJ.out; omega), List.take_of_length_le (by rw [shM_length]; have := HNJ.out; have := HQ.out; omega)] at h0; exact h0)
          have HDL : Hid ((shD ds k).length = n) := Lib.hid (by rw [shD_length]; have := HNJ.out; omega)
          have HML : Hid ((shM p ds ms k).length = q) := Lib.hid (by rw [shM_length]; have := HNJ.out; have := HQ.out; omega)
          clear HS hjl
          have HNF := Lib.hid (HNB.out _ HSF.out.below)
          have y0 : wx.cell? ⟨g, 0, none⟩ = some (.int .i64 p) := HSF.out.box.cell (i := 0) (by omega)
          have y1 : wx.cell? ⟨g, 1, none⟩ = some (.slice a1 n cc1) := HSF.out.box.cell (i := 1) (by omega)
          have y2 : wx.cell? ⟨g, 2, none⟩ = some (.slice a2 q cc2) := HSF.out.box.cell (i := 2) (by omega)
          have HR1 : ∃ x0 x1 x2, wx.heap[w.heap.size + 1]? = some (.cells #[x0, x1, x2] 28) := ⟨_, _, _, HNF.out.2⟩
          obtain ⟨x0, x1, x2, hr⟩ := HR1
          have r0 : wx.rowIs (w.heap.size + 1) 28 3 (sel3 x0 x1 x2) := rowIs3 hr
          have q0 : wx.cell? ⟨w.heap.size + 1, 0, none⟩ = some x0 := r0.cell (i := 0) (by omega)
          have z0 : wx.frozen? ⟨w.heap.size + 1, 0, none⟩ = false := r0.frozen 0
          have r1 := r0.set 0 (.int .i64 p)
          have q1 : (wx.setCell ⟨w.heap.size + 1, 0, none⟩ (.int .i64 p)).cell? ⟨w.heap.size + 1, 1, none⟩ = some x1 := r1.cell (i := 1) (by omega)
          have z1 : (wx.setCell ⟨w.heap.size + 1, 0, none⟩ (.int .i64 p)).frozen? ⟨w.heap.size + 1, 1, none⟩ = false := r1.frozen 1
          have r2 := r1.set 1 (.slice a1 n cc1)
          have q2 : ((wx.setCell ⟨w.heap.size + 1, 0, none⟩ (.int .i64 p)).setCell ⟨w.heap.size + 1, 1, none⟩ (.slice a1 n cc1)).cell? ⟨w.heap.size + 1, 2, none⟩ = some x2 := r2.cell (i := 2) (by omega)
          have z2 : ((wx.setCell ⟨w.heap.size + 1, 0, none⟩ (.int .i64 p)).setCell ⟨w.heap.size + 1, 1, none⟩ (.slice a1 n cc1)).frozen? ⟨w.heap.size + 1, 2, none⟩ = false := r2.frozen 2
          have r3 := r2.set 2 (.slice a2 q cc2)
          obtain ⟨WF, hWF⟩ : ∃ W : World, W = (((wx.setCell ⟨w.heap.size + 1, 0, none⟩ (.int .i64 p)).setCell ⟨w.heap.size + 1, 1, none⟩ (.slice a1 n cc1)).setCell ⟨w.heap.size + 1, 2, none⟩ (.slice a2 q cc2)) := ⟨_, rfl⟩
          have hbWF : ∀ B (w0 : World), B ≤ w.heap.size + 1 → Below B w0 wx → Below B w0 WF := fun B w0 hl hb => by rw [hWF]; exact (((hb.setCell (by show B ≤ w.heap.size + 1; exact hl) _).setCell (by show B ≤ w.heap.size + 1; exact hl) _).setCell (by show B ≤ w.heap.size + 1; exact hl) _)
          have hsWF : ∀ lo hi, w.heap.size + 1 < lo ∨ hi ≤ w.heap.size + 1 → Same lo hi wx WF := fun lo hi hl => by rw [hWF]; exact (((Same.set _ hl).trans (Same.set _ hl)).trans (Same.set _ hl))
          have hzWF : WF.heap.size = wx.heap.size := by rw [hWF]; simp
          rw [← hWF] at r3
          have f0 : WF.cell? ⟨w.heap.size + 1, 0, none⟩ = some (.int .i64 p) := r3.cell (i := 0) (by omega)
          have f1 : WF.cell? ⟨w.heap.size + 1, 1, none⟩ = some (.slice a1 n cc1) := r3.cell (i := 1) (by omega)
          have f2 : WF.cell? ⟨w.heap.size + 1, 2, none⟩ = some (.slice a2 q cc2) := r3.cell (i := 2) (by omega)
          have HWWF := Lib.hid hWF
          clear hr r0 r1 r2 r3 hWF
          have HBF := Lib.hid (hbWF w.heap.size w (by omega) HNF.out.1.below)
          have HGD : Hid (Gb 0 WF (.slice a1 n cc1) (shD ds k)) := Lib.hid (by rw [HWWF.out]; exact (HSF.out.dims.mono (Nat.zero_le _)).off3 HNF.out.2 coT.1 _ _ _)
          have HGM : Hid (Gt 0 WF (.slice a2 q cc2) (shM p ds ms k)) := Lib.hid (by rw [HWWF.out]; exact HSF.out.maps.gt.zero.off3 HNF.out.2 coT _ _ _)
          clear hsWF hbWF hzWF
          go_wp2
          rw [← HWWF.out]
          refine bodyPost_ret (v := .agg #[.int .i64 p, .slice a1 n cc1, .slice a2 q cc2]) ?_ rfl ?_
          · simp only [results, HRES.out]
            go_simp
          · exact ⟨_, rfl, ⟨a1, cc1, a2, cc2, by show _ = Value.agg #[.int .i64 p, .slice _ (shD ds k).length _, .slice _ (shM p ds ms k).length _]; rw [HDL.out, HML.out], by show Gb 0 _ (.slice _ (shD ds k).length _) (shD ds k); rw [HDL.out]; exact HGD.out, by show Gt 0 _ (.slice _ (shM p ds ms k).length _) (shM p ds ms k); rw [HML.out]; exact HGM.out⟩, HBF.out⟩

set_option maxHeartbeats 6400000 in
set_option maxRecDepth 100000 in
theorem spShiftComplex_any (p k : Int) (dv mv : Value) (ds : List Int) (ms : List (List (List Int))) (w : World) (h : Cx 0 w dv mv ds ms) (hd : ds.length ≤ 1048576) (hm : Bd3 1048576 ms) :
    Calls Try.prog 59 #[.agg #[.int .i64 p, dv, mv], .int .i64 k] w (AnsS RsC (fun o => o = shOut p k ds ms) (0, [], []) (shCode p k ds ms) w) := by
  have hres : Try.f59.results = #[.cell 4 28, .tmp 5] := by kernel_rfl
  have HRES := Lib.hid hres
  have HM := Lib.hid hm
  obtain ⟨wa, hwa⟩ : ∃ wa, wa = w.alloc (.cells #[.int .i64 p, dv, mv] 28) := ⟨_, rfl⟩
  obtain ⟨w1, hw1⟩ : ∃ w1, w1 = wa.alloc (.cells #[.int .i64 0, .slice none 0 0, .slice none 0 0] 28) := ⟨_, rfl⟩
  have hsa : wa.heap.size = w.heap.size + 1 := by rw [hwa]; simp
  have hs1 : w.heap.size + 2 ≤ w1.heap.size := by rw [hw1]; simp [hsa]
  have HX : Hid (Bx w w1 w.heap.size p dv mv ds ms) := Lib.hid (by rw [hw1]; exact (show Bx w wa w.heap.size p dv mv ds ms by rw [hwa]; exact Bx.start _ h).next (below_alloc1 _ _))
  have HR0 : Hid (Rz w1 (w.heap.size + 1) 28 #[.int .i64 0, .slice none 0 0, .slice none 0 0]) := Lib.hid (by rw [hw1, ← hsa]; exact Rz.new _ _ _)
  obtain ⟨ad, cap, rfl⟩ := Sl.shape h.dims
  obtain ⟨am, capm, rfl⟩ := Sl.shape h.maps
  have HNX : Hid (∀ W, Below w1.heap.size w1 W → Bx w W w.heap.size p (.slice ad ds.length cap) (.slice am ms.length capm) ds ms ∧ Rz W (w.heap.size + 1) 28 #[.int .i64 0, .slice none 0 0, .slice none 0 0]) := Lib.hid (fun W hb => ⟨HX.out.next hb, HR0.out.next hb⟩)
  have HB0 : Hid (Below w1.heap.size w1 w1) := Lib.hid (Below.refl _ _)
  have c0 := HX.out.c0
  have c1 := HX.out.c1
  have c2 := HX.out.c2
  clear h hm hres HX HR0
  go_enter Try.func59, Try.ntmps59
  go_upto_region 1 with fail
  rw [← hwa, ← hw1]
  clear hwa hw1 hsa
  by_cases hc : ¬ IsCx p ds ms
  · have HC := Lib.hid hc
    have HCODE : Hid (shCode p k ds ms = 1) := Lib.hid (by unfold shCode; rw [if_pos hc])
    clear hc
    go_wp2_with fail
    refine (l01Is_any p _ _ ds ms _ (HNX.out _ HB0.out).1.cx hd HM.out).mono ?_
    rintro ee wA ⟨b, rfl, hb, hbb⟩
    obtain rfl : b = false := bb_no hbb HC.out
    clear hbb
    have HBA := Lib.hid (HB0.out.trans (hb.mono HB0.out.size))
    clear c0 c1 c2
    clear hb
    have c0 := (HNX.out _ HBA.out).1.c0
    have c1 := (HNX.out _ HBA.out).1.c1
    have c2 := (HNX.out _ HBA.out).1.c2
    have HR1 : ∃ x0 x1 x2, wA.heap[w.heap.size + 1]? = some (.cells #[x0, x1, x2] 28) := ⟨_, _, _, (HNX.out _ HBA.out).2⟩
    obtain ⟨x0, x1, x2, hr⟩ := HR1
    have r0 : wA.rowIs (w.heap.size + 1) 28 3 (sel3 x0 x1 x2) := rowIs3 hr
    have q0 : wA.cell? ⟨w.heap.size + 1, 0, none⟩ = some x0 := r0.cell (i := 0) (by omega)
    have z0 : wA.frozen? ⟨w.heap.size + 1, 0, none⟩ = false := r0.frozen 0
    have r1 := r0.set 0 (.int .i64 0)
    have q1 : (wA.setCell ⟨w.heap.size + 1, 0, none⟩ (.int .i64 0)).cell? ⟨w.heap.size + 1, 1, none⟩ = some x1 := r1.cell (i := 1) (by omega)
    have z1 : (wA.setCell ⟨w.heap.size + 1, 0, none⟩ (.int .i64 0)).frozen? ⟨w.heap.size + 1, 1, none⟩ = false := r1.frozen 1
    have r2 := r1.set 1 (.slice none 0 0)
    have q2 : ((wA.setCell ⟨w.heap.size + 1, 0, none⟩ (.int .i64 0)).setCell ⟨w.heap.size + 1, 1, none⟩ (.slice none 0 0)).cell? ⟨w.heap.size + 1, 2, none⟩ = some x2 := r2.cell (i := 2) (by omega)
    have z2 : ((wA.setCell ⟨w.heap.size + 1, 0, none⟩ (.int .i64 0)).setCell ⟨w.heap.size + 1, 1, none⟩ (.slice none 0 0)).frozen? ⟨w.heap.size + 1, 2, none⟩ = false := r2.frozen 2
    have r3 := r2.set 2 (.slice none 0 0)
    obtain ⟨WF, hWF⟩ : ∃ W : World, W = (((wA.setCell ⟨w.heap.size + 1, 0, none⟩ (.int .i64 0)).setCell ⟨w.heap.size + 1, 1, none⟩ (.slice none 0 0)).setCell ⟨w.heap.size + 1, 2, none⟩ (.slice none 0 0)) := ⟨_, rfl⟩
    have hbWF : ∀ B (w0 : World), B ≤ w.heap.size + 1 → Below B w0 wA → Below B w0 WF := fun B w0 hl hb => by rw [hWF]; exact (((hb.setCell (by show B ≤ w.heap.size + 1; exact hl) _).setCell (by show B ≤ w.heap.size + 1; exact hl) _).setCell (by show B ≤ w.heap.size + 1; exact hl) _)
    have hsWF : ∀ lo hi, w.heap.size + 1 < lo ∨ hi ≤ w.heap.size + 1 → Same lo hi wA WF := fun lo hi hl => by rw [hWF]; exact (((Same.set _ hl).trans (Same.set _ hl)).trans (Same.set _ hl))
    have hzWF : WF.heap.size = wA.heap.size := by rw [hWF]; simp
    rw [← hWF] at r3
    have f0 : WF.cell? ⟨w.heap.size + 1, 0, none⟩ = some (.int .i64 0) := r3.cell (i := 0) (by omega)
    have f1 : WF.cell? ⟨w.heap.size + 1, 1, none⟩ = some (.slice none 0 0) := r3.cell (i := 1) (by omega)
    have f2 : WF.cell? ⟨w.heap.size + 1, 2, none⟩ = some (.slice none 0 0) := r3.cell (i := 2) (by omega)
    have HWWF := Lib.hid hWF
    clear hr r0 r1 r2 r3 hWF
    have HBF := Lib.hid (hbWF w.heap.size w (by omega) (HNX.out _ HBA.out).1.below)
    clear hsWF hbWF hzWF
    go_wp2
    rw [← HWWF.out]
    refine bodyPost_ret (v := .tuple #[.agg #[.int .i64 0, .slice none 0 0, .slice none 0 0], .int .i64 1]) ?_ rfl ?_
    · simp only [results, HRES.out]
      go_simp
    · exact ⟨_, (0, [], []), 1, rfl, RsC.nil _, HBF.out, by rw [HCODE.out]; exact RsOut.of_no (by decide)⟩
  have HC := Lib.hid (Classical.not_not.1 hc)
  clear hc
  go_wp2_with fail
  refine (l01Is_any p _ _ ds ms _ (HNX.out _ HB0.out).1.cx hd HM.out).mono ?_
  rintro ee wA ⟨b, rfl, hb, hbb⟩
  obtain rfl : b = true := hbb.2 HC.out
  clear hbb
  have HBA := Lib.hid (HB0.out.trans (hb.mono HB0.out.size))
  clear c0 c1 c2
  clear hb
  have c0 := (HNX.out _ HBA.out).1.c0
  have c1 := (HNX.out _ HBA.out).1.c1
  have c2 := (HNX.out _ HBA.out).1.c2
  by_cases hk : ¬ (0 ≤ k ∧ k ≤ 5)
  · have HK := Lib.hid hk
    have HCODE : Hid (shCode p k ds ms = 2) := Lib.hid (by unfold shCode; rw [if_neg (fun x => x HC.out), if_pos hk])
    clear hk
    go_wp2_with fail
    refine (spin_no HK.out _).mono ?_
    rintro ee w' ⟨rfl, rfl⟩
    have HR1 : ∃ x0 x1 x2, wA.heap[w.heap.size + 1]? = some (.cells #[x0, x1, x2] 28) := ⟨_, _, _, (HNX.out _ HBA.out).2⟩
    obtain ⟨x0, x1, x2, hr⟩ := HR1
    have r0 : wA.rowIs (w.heap.size + 1) 28 3 (sel3 x0 x1 x2) := rowIs3 hr
    have q0 : wA.cell? ⟨w.heap.size + 1, 0, none⟩ = some x0 := r0.cell (i := 0) (by omega)
    have z0 : wA.frozen? ⟨w.heap.size + 1, 0, none⟩ = false := r0.frozen 0
    have r1 := r0.set 0 (.int .i64 0)
    have q1 : (wA.setCell ⟨w.heap.size + 1, 0, none⟩ (.int .i64 0)).cell? ⟨w.heap.size + 1, 1, none⟩ = some x1 := r1.cell (i := 1) (by omega)
    have z1 : (wA.setCell ⟨w.heap.size + 1, 0, none⟩ (.int .i64 0)).frozen? ⟨w.heap.size + 1, 1, none⟩ = false := r1.frozen 1
    have r2 := r1.set 1 (.slice none 0 0)
    have q2 : ((wA.setCell ⟨w.heap.size + 1, 0, none⟩ (.int .i64 0)).setCell ⟨w.heap.size + 1, 1, none⟩ (.slice none 0 0)).cell? ⟨w.heap.size + 1, 2, none⟩ = some x2 := r2.cell (i := 2) (by omega)
    have z2 : ((wA.setCell ⟨w.heap.size + 1, 0, none⟩ (.int .i64 0)).setCell ⟨w.heap.size + 1, 1, none⟩ (.slice none 0 0)).frozen? ⟨w.heap.size + 1, 2, none⟩ = false := r2.frozen 2
    have r3 := r2.set 2 (.slice none 0 0)
    obtain ⟨WF, hWF⟩ : ∃ W : World, W = (((wA.setCell ⟨w.heap.size + 1, 0, none⟩ (.int .i64 0)).setCell ⟨w.heap.size + 1, 1, none⟩ (.slice none 0 0)).setCell ⟨w.heap.size + 1, 2, none⟩ (.slice none 0 0)) := ⟨_, rfl⟩
    have hbWF : ∀ B (w0 : World), B ≤ w.heap.size + 1 → Below B w0 wA → Below B w0 WF := fun B w0 hl hb => by rw [hWF]; exact (((hb.setCell (by show B ≤ w.heap.size + 1; exact hl) _).setCell (by show B ≤ w.heap.size + 1; exact hl) _).setCell (by show B ≤ w.heap.size + 1; exact hl) _)
    have hsWF : ∀ lo hi, w.heap.size + 1 < lo ∨ hi ≤ w.heap.size + 1 → Same lo hi wA WF := fun lo hi hl => by rw [hWF]; exact (((Same.set _ hl).trans (Same.set _ hl)).trans (Same.set _ hl))
    have hzWF : WF.heap.size = wA.heap.size := by rw [hWF]; simp
    rw [← hWF] at r3
    have f0 : WF.cell? ⟨w.heap.size + 1, 0, none⟩ = some (.int .i64 0) := r3.cell (i := 0) (by omega)
    have f1 : WF.cell? ⟨w.heap.size + 1, 1, none⟩ = some (.slice none 0 0) := r3.cell (i := 1) (by omega)
    have f2 : WF.cell? ⟨w.heap.size + 1, 2, none⟩ = some (.slice none 0 0) := r3.cell (i := 2) (by omega)
    have HWWF := Lib.hid hWF
    clear hr r0 r1 r2 r3 hWF
    have HBF := Lib.hid (hbWF w.heap.size w (by omega) (HNX.out _ HBA.out).1.below)
    clear hsWF hbWF hzWF
    go_wp2
    rw [← HWWF.out]
    refine bodyPost_ret (v := .tuple #[.agg #[.int .i64 0, .slice none 0 0, .slice none 0 0], .int .i64 2]) ?_ rfl ?_
    · simp only [results, HRES.out]
      go_simp
    · exact ⟨_, (0, [], []), 2, rfl, RsC.nil _, HBF.out, by rw [HCODE.out]; exact RsOut.of_no (by decide)⟩
  have HK := Lib.hid (Classical.not_not.1 hk)
  clear hk
  have hk0 := HK.out.1
  have hk5 := HK.out.2
  obtain ⟨K, hKe⟩ : ∃ K : Nat, k = (K : Int) := ⟨k.toNat, by omega⟩
  subst hKe
  have hl1 := HC.out.1.len1
  have hl0 := HC.out.1.len0
  go_wp2_with fail
  refine (spin_yes HK.out _).mono ?_
  rintro ee w' ⟨rfl, rfl⟩
  have hwt : IntKind.i64.wrap ((ds.length : Int) + (K : Int)) = (ds.length : Int) + (K : Int) := IntWalk.i64_in _ (by omega)
  by_cases hf : 6 < (ds.length : Int) + (K : Int)
  · have HCODE : Hid (shCode p (K : Int) ds ms = 3) := Lib.hid (by unfold shCode; rw [if_neg (fun x => x HC.out), if_neg (fun x => x HK.out), if_pos (by omega)])
    have HR1 : ∃ x0 x1 x2, wA.heap[w.heap.size + 1]? = some (.cells #[x0, x1, x2] 28) := ⟨_, _, _, (HNX.out _ HBA.out).2⟩
    obtain ⟨x0, x1, x2, hr⟩ := HR1
    have r0 : wA.rowIs (w.heap.size + 1) 28 3 (sel3 x0 x1 x2) := rowIs3 hr
    have q0 : wA.cell? ⟨w.heap.size + 1, 0, none⟩ = some x0 := r0.cell (i := 0) (by omega)
    have z0 : wA.frozen? ⟨w.heap.size + 1, 0, none⟩ = false := r0.frozen 0
    have r1 := r0.set 0 (.int .i64 0)
    have q1 : (wA.setCell ⟨w.heap.size + 1, 0, none⟩ (.int .i64 0)).cell? ⟨w.heap.size + 1, 1, none⟩ = some x1 := r1.cell (i := 1) (by omega)
    have z1 : (wA.setCell ⟨w.heap.size + 1, 0, none⟩ (.int .i64 0)).frozen? ⟨w.heap.size + 1, 1, none⟩ = false := r1.frozen 1
    have r2 := r1.set 1 (.slice none 0 0)
    have q2 : ((wA.setCell ⟨w.heap.size + 1, 0, none⟩ (.int .i64 0)).setCell ⟨w.heap.size + 1, 1, none⟩ (.slice none 0 0)).cell? ⟨w.heap.size + 1, 2, none⟩ = some x2 := r2.cell (i := 2) (by omega)
    have z2 : ((wA.setCell ⟨w.heap.size + 1, 0, none⟩ (.int .i64 0)).setCell ⟨w.heap.size + 1, 1, none⟩ (.slice none 0 0)).frozen? ⟨w.heap.size + 1, 2, none⟩ = false := r2.frozen 2
    have r3 := r2.set 2 (.slice none 0 0)
    obtain ⟨WF, hWF⟩ : ∃ W : World, W = (((wA.setCell ⟨w.heap.size + 1, 0, none⟩ (.int .i64 0)).setCell ⟨w.heap.size + 1, 1, none⟩ (.slice none 0 0)).setCell ⟨w.heap.size + 1, 2, none⟩ (.slice none 0 0)) := ⟨_, rfl⟩
    have hbWF : ∀ B (w0 : World), B ≤ w.heap.size + 1 → Below B w0 wA → Below B w0 WF := fun B w0 hl hb => by rw [hWF]; exact (((hb.setCell (by show B ≤ w.heap.size + 1; exact hl) _).setCell (by show B ≤ w.heap.size + 1; exact hl) _).setCell (by show B ≤ w.heap.size + 1; exact hl) _)
    have hsWF : ∀ lo hi, w.heap.size + 1 < lo ∨ hi ≤ w.heap.size + 1 → Same lo hi wA WF := fun lo hi hl => by rw [hWF]; exact (((Same.set _ hl).trans (Same.set _ hl)).trans (Same.set _ hl))
    have hzWF : WF.heap.size = wA.heap.size := by rw [hWF]; simp
    rw [← hWF] at r3
    have f0 : WF.cell? ⟨w.heap.size + 1, 0, none⟩ = some (.int .i64 0) := r3.cell (i := 0) (by omega)
    have f1 : WF.cell? ⟨w.heap.size + 1, 1, none⟩ = some (.slice none 0 0) := r3.cell (i := 1) (by omega)
    have f2 : WF.cell? ⟨w.heap.size + 1, 2, none⟩ = some (.slice none 0 0) := r3.cell (i := 2) (by omega)
    have HWWF := Lib.hid hWF
    clear hr r0 r1 r2 r3 hWF
    have HBF := Lib.hid (hbWF w.heap.size w (by omega) (HNX.out _ HBA.out).1.below)
    clear hsWF hbWF hzWF
    go_wp2
    rw [← HWWF.out]
    refine bodyPost_ret (v := .tuple #[.agg #[.int .i64 0, .slice none 0 0, .slice none 0 0], .int .i64 3]) ?_ rfl ?_
    · simp only [results, HRES.out]
      go_simp
    · exact ⟨_, (0, [], []), 3, rfl, RsC.nil _, HBF.out, by rw [HCODE.out]; exact RsOut.of_no (by decide)⟩
  have HOK : Hid (ShOk p (K : Int) ds ms) := Lib.hid ⟨HC.out, HK.out, by omega⟩
  go_wp2_with fail
  refine (l01Shift_any p K _ _ ds ms _ (HNX.out _ HBA.out).1.cx hd HC.out (by omega)).mono ?_
  rintro ee wB ⟨u, rfl, ⟨a1, cc1, a2, cc2, hu, hgd, hgm⟩, hb⟩
  have hu : u = .agg #[.int .i64 p, .slice a1 (shD ds K).length cc1, .slice a2 (shM p ds ms K).length cc2] := hu
  subst hu
  have HGD0 : Hid (Gb 0 wB (.slice a1 (shD ds K).length cc1) (shD ds K)) := Lib.hid hgd
  have HGM0 : Hid (Gt 0 wB (.slice a2 (shM p ds ms K).length cc2) (shM p ds ms K)) := Lib.hid hgm
  have HBB := Lib.hid (HBA.out.trans (hb.mono HBA.out.size))
  clear hgd hgm hb c0 c1 c2
  have HNF := Lib.hid (HNX.out _ HBB.out)
  have HR1 : ∃ x0 x1 x2, wB.heap[w.heap.size + 1]? = some (.cells #[x0, x1, x2] 28) := ⟨_, _, _, HNF.out.2⟩
  obtain ⟨x0, x1, x2, hr⟩ := HR1
  have r0 : wB.rowIs (w.heap.size + 1) 28 3 (sel3 x0 x1 x2) := rowIs3 hr
  have q0 : wB.cell? ⟨w.heap.size + 1, 0, none⟩ = some x0 := r0.cell (i := 0) (by omega)
  have z0 : wB.frozen? ⟨w.heap.size + 1, 0, none⟩ = false := r0.frozen 0
  have r1 := r0.set 0 (.int .i64 p)
  have q1 : (wB.setCell ⟨w.heap.size + 1, 0, none⟩ (.int .i64 p)).cell? ⟨w.heap.size + 1, 1, none⟩ = some x1 := r1.cell (i := 1) (by omega)
  have z1 : (wB.setCell ⟨w.heap.size + 1, 0, none⟩ (.int .i64 p)).frozen? ⟨w.heap.size + 1, 1, none⟩ = false := r1.frozen 1
  have r2 := r1.set 1 (.slice a1 (shD ds K).length cc1)
  have q2 : ((wB.setCell ⟨w.heap.size + 1, 0, none⟩ (.int .i64 p)).setCell ⟨w.heap.size + 1, 1, none⟩ (.slice a1 (shD ds K).length cc1)).cell? ⟨w.heap.size + 1, 2, none⟩ = some x2 := r2.cell (i := 2) (by omega)
  have z2 : ((wB.setCell ⟨w.heap.size + 1, 0, none⟩ (.int .i64 p)).setCell ⟨w.heap.size + 1, 1, none⟩ (.slice a1 (shD ds K).length cc1)).frozen? ⟨w.heap.size + 1, 2, none⟩ = false := r2.frozen 2
  have r3 := r2.set 2 (.slice a2 (shM p ds ms K).length cc2)
  obtain ⟨WF, hWF⟩ : ∃ W : World, W = (((wB.setCell ⟨w.heap.size + 1, 0, none⟩ (.int .i64 p)).setCell ⟨w.heap.size + 1, 1, none⟩ (.slice a1 (shD ds K).length cc1)).setCell ⟨w.heap.size + 1, 2, none⟩ (.slice a2 (shM p ds ms K).length cc2)) := ⟨_, rfl⟩
  have hbWF : ∀ B (w0 : World), B ≤ w.heap.size + 1 → Below B w0 wB → Below B w0 WF := fun B w0 hl hb => by rw [hWF]; exact (((hb.setCell (by show B ≤ w.heap.size + 1; exact hl) _).setCell (by show B ≤ w.heap.size + 1; exact hl) _).setCell (by show B ≤ w.heap.size + 1; exact hl) _)
  have hsWF : ∀ lo hi, w.heap.size + 1 < lo ∨ hi ≤ w.heap.size + 1 → Same lo hi wB WF := fun lo hi hl => by rw [hWF]; exact (((Same.set _ hl).trans (Same.set _ hl)).trans (Same.set _ hl))
  have hzWF : WF.heap.size = wB.heap.size := by rw [hWF]; simp
  rw [← hWF] at r3
  have f0 : WF.cell? ⟨w.heap.size + 1, 0, none⟩ = some (.int .i64 p) := r3.cell (i := 0) (by omega)
  have f1 : WF.cell? ⟨w.heap.size + 1, 1, none⟩ = some (.slice a1 (shD ds K).length cc1) := r3.cell (i := 1) (by omega)
  have f2 : WF.cell? ⟨w.heap.size + 1, 2, none⟩ = some (.slice a2 (shM p ds ms K).length cc2) := r3.cell (i := 2) (by omega)
  have HWWF := Lib.hid hWF
  clear hr r0 r1 r2 r3 hWF
  have HBF := Lib.hid (hbWF w.heap.size w (by omega) HNF.out.1.below)
  have HGD : Hid (Gb 0 WF (.slice a1 (shD ds K).length cc1) (shD ds K)) := Lib.hid (by rw [HWWF.out]; exact HGD0.out.off3 HNF.out.2 coT.1 _ _ _)
  have HGM : Hid (Gt 0 WF (.slice a2 (shM p ds ms K).length cc2) (shM p ds ms K)) := Lib.hid (by rw [HWWF.out]; exact HGM0.out.off3 HNF.out.2 coT _ _ _)
  clear hsWF hbWF hzWF
  go_wp2
  rw [← HWWF.out]
  refine bodyPost_ret (v := .tuple #[.agg #[.int .i64 p, .slice a1 (shD ds K).length cc1, .slice a2 (shM p ds ms K).length cc2], .int .i64 0]) ?_ rfl ?_
  · simp only [results, HRES.out]
    go_simp
  · exact ⟨_, shOut p (K : Int) ds ms, 0, rfl, ⟨a1, cc1, a2, cc2, rfl, ⟨HGD.out.l1, HGM.out.l3⟩⟩, HBF.out, RsOut.of_yes HOK.out.code rfl⟩
end Go.Proofs.Ytpdkfidmmjlmnaa
