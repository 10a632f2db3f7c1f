/-
  ReduceModulo of the model, by contracts.
-/
import Derived.Test.YtiokagnolbddlaaRdm
import Derived.Test.YtiokagnolbddlaaGq
import Derived.Test.YtiokagnolbddlaaDuS
import Derived.Test.YtiokagnolbddlaaDww
namespace Go.Proofs.Ytiokagnolbddlaa
open Go.RowKit

set_option maxHeartbeats 1600000 in
theorem l07Code_any (p : Int) (dv mv : Value) (ds : List Int) (ms : List (List (List Int))) (w : World) (h : Wh 0 w dv mv ds ms) (hb : WhB 1048576 ds ms) :
    Calls Try.prog 77 #[.agg #[dv, mv], .int .i64 p] w (BR (.int .i64 (rdCode p ds ms)) w) := by
  obtain ⟨⟨ad, cap, rfl⟩, am, capm, rfl⟩ := h.shapes
  have H := Lib.hid h
  have HBD := Lib.hid hb
  clear h hb
  obtain ⟨w1, hw1⟩ : ∃ w1, w1 = w.alloc (.cells #[.slice ad ds.length cap, .slice am ms.length capm] 25) := ⟨_, rfl⟩
  have HB1 : Hid (Below w.heap.size w w1) := Lib.hid (by rw [hw1]; exact (Below.refl _ _).alloc (Nat.le_refl _) _)
  have c0 : w1.cell? ⟨w.heap.size, 0, none⟩ = some (.slice ad ds.length cap) := by rw [hw1]; simp
  have c1 : w1.cell? ⟨w.heap.size, 1, none⟩ = some (.slice am ms.length capm) := by rw [hw1]; simp
  by_cases hc : WhOk ds ms
  · have HC := Lib.hid hc
    by_cases hp : IsP p
    · have HP := Lib.hid hp
      rw [rdCode_0 hc hp]
      clear hc hp
      go_enter Try.func77, Try.ntmps77
      go_upto_region 1 with fail
      rw [← hw1]
      clear hw1
      go_wp2_with fail
      refine (l07Is_any _ _ ds ms _ (H.out.below HB1.out) HBD.out).mono ?_
      rintro e w2 ⟨bb, rfl, hb2, hbb⟩
      obtain rfl : bb = true := hbb.2 HC.out
      have HB2 := Lib.hid (HB1.out.trans (hb2.mono HB1.out.size))
      clear hbb hb2 c0 c1
      go_wp2_with fail
      refine (spprime_yes HP.out _).mono ?_
      rintro e w' ⟨rfl, rfl⟩
      go_wp2
      go_ret
      exact ⟨rfl, HB2.out⟩
    · have HP := Lib.hid hp
      rw [rdCode_2 hc hp]
      clear hc hp
      go_enter Try.func77, Try.ntmps77
      go_upto_region 1 with fail
      rw [← hw1]
      clear hw1
      go_wp2_with fail
      refine (l07Is_any _ _ ds ms _ (H.out.below HB1.out) HBD.out).mono ?_
      rintro e w2 ⟨bb, rfl, hb2, hbb⟩
      obtain rfl : bb = true := hbb.2 HC.out
      have HB2 := Lib.hid (HB1.out.trans (hb2.mono HB1.out.size))
      clear hbb hb2 c0 c1
      go_wp2_with fail
      refine (spprime_no HP.out _).mono ?_
      rintro e w' ⟨rfl, rfl⟩
      go_wp2
      go_ret
      exact ⟨rfl, HB2.out⟩
  · have HC := Lib.hid hc
    rw [rdCode_1 hc]
    clear hc
    go_enter Try.func77, Try.ntmps77
    go_upto_region 1 with fail
    rw [← hw1]
    clear hw1
    go_wp2_with fail
    refine (l07Is_any _ _ ds ms _ (H.out.below HB1.out) HBD.out).mono ?_
    rintro e w2 ⟨bb, rfl, hb2, hbb⟩
    obtain rfl : bb = false := bbw_no hbb HC.out
    have HB2 := Lib.hid (HB1.out.trans (hb2.mono HB1.out.size))
    clear hbb hb2 c0 c1
    go_wp2
    go_ret
    exact ⟨rfl, HB2.out⟩

set_option maxHeartbeats 6400000 in
set_option maxRecDepth 100000 in
theorem spReduceModulo_any (p : Int) (dv mv : Value) (ds : List Int) (ms : List (List (List Int))) (w : World) (h : Wh 0 w dv mv ds ms) (hb : WhB 1048576 ds ms) :
    Calls Try.prog 26 #[.agg #[dv, mv], .int .i64 p] w (AnsS RsC (fun o => o = rdO p ds ms) (0, [], []) (rdCode p ds ms) w) := by
  obtain ⟨⟨ad, cap, rfl⟩, am, capm, rfl⟩ := h.shapes
  have HBD := Lib.hid hb
  have hres : Try.f26.results = #[.cell 4 38, .tmp 5] := by kernel_rfl
  have HRES := Lib.hid hres
  obtain ⟨w1, hw1⟩ : ∃ w1, w1 = (w.alloc (.cells #[.slice ad ds.length cap, .slice am ms.length capm] 25)).alloc (.cells #[.int .i64 0, .slice none 0 0, .slice none 0 0] 38) := ⟨_, rfl⟩
  have HX1 : Hid (BxWh w w1 w.heap.size (.slice ad ds.length cap) (.slice am ms.length capm) ds ms) := Lib.hid (by rw [hw1]; exact (BxWh.start 25 h).next (below_alloc1 _ _))
  have HB1 : Hid (Below w.heap.size w w1) := Lib.hid HX1.out.below
  have HS1 : Hid (w.heap.size + 1 < w1.heap.size) := Lib.hid (by rw [hw1]; simp)
  have HR0 : Hid (∃ x y z, w1.heap[w.heap.size + 1]? = some (.cells #[x, y, z] 38)) := Lib.hid ⟨_, _, _, by rw [hw1]; have := heap_alloc_new (w.alloc (.cells #[.slice ad ds.length cap, .slice am ms.length capm] 25)) (.cells #[.int .i64 0, .slice none 0 0, .slice none 0 0] 38); simpa using this⟩
  have c0 := HX1.out.c0
  have c1 := HX1.out.c1
  have HCO := Lib.hid (fun W (hW : Below w1.heap.size w1 W) => l07Code_any p _ _ ds ms W (HX1.out.next hW).cx HBD.out)
  clear hres h hb
  obtain ⟨cc, hcc⟩ : ∃ cc, cc = rdCode p ds ms := ⟨_, rfl⟩
  rw [← hcc] at HCO
  have HCC := Lib.hid hcc
  rw [← hcc]
  clear hcc
  go_enter Try.func26, Try.ntmps26
  go_upto_region 1 with fail
  rw [← hw1]
  clear hw1
  go_wp2_with fail
  refine (HCO.out _ (Below.refl _ _)).mono ?_
  rintro e w2 ⟨rfl, hb2⟩
  have HX2 := Lib.hid (HX1.out.next hb2)
  have HB2 := Lib.hid hb2
  have HS2 : Hid (w.heap.size + 1 < w2.heap.size) := Lib.hid (by have := HS1.out; have := hb2.size; omega)
  have HR2 : Hid (∃ x y z, w2.heap[w.heap.size + 1]? = some (.cells #[x, y, z] 38)) := Lib.hid (by obtain ⟨x, y, z, hh⟩ := HR0.out; exact ⟨x, y, z, by rw [hb2.block (w.heap.size + 1) HS1.out]; exact hh⟩)
  clear hb2 c0 c1 HCO HR0
  by_cases hz : cc = 0
  · subst hz
    obtain ⟨hcx, hpp⟩ := rdCode_zero HCC.out.symm
    have HP := Lib.hid hpp
    have HC := Lib.hid hcx
    have hml := hcx.1.mlen
    have hl6 := hcx.1.len1
    have hl1 := hcx.1.len0
    clear hcx hpp
    have c0 := HX2.out.c0
    have c1 := HX2.out.c1
    go_wp2_with fail
    refine (l01Own_any _ ds _ HX2.out.cx.fd HBD.out.bd).mono ?_
    rintro e w3 ⟨u3, rfl, hg3, hb3⟩
    obtain ⟨a3, c3, hus⟩ := Sl.shape hg3.l1
    subst hus
    have HG3 : Hid (Gb w2.heap.size w3 (.slice a3 ds.length c3) ds) := Lib.hid hg3
    have HB3 := Lib.hid hb3
    have hs3 : w2.heap.size ≤ w3.heap.size := hb3.size
    clear hg3 hb3 c0 c1
    obtain ⟨wb, hwb⟩ : ∃ wb, wb = w3.alloc (.cells #[] 44) := ⟨_, rfl⟩
    obtain ⟨wc, hwc⟩ : ∃ wc, wc = wb.alloc (.cells #[.int .i64 p, .slice a3 ds.length c3, .slice (some ⟨w3.heap.size, 0, none⟩) 0 0] 38) := ⟨_, rfl⟩
    have hsb : wb.heap.size = w3.heap.size + 1 := by rw [hwb]; simp
    have HS0 : Hid (Sd w2 wc (w3.heap.size + 1) p (.slice a3 ds.length c3) (.slice (some ⟨w3.heap.size, 0, none⟩) 0 0) ds []) := Lib.hid (by
      have b2 : Below w3.heap.size w3 wb := by rw [hwb]; exact below_alloc1 _ _
      have b3 : Below wb.heap.size wb wc := by rw [hwc]; exact below_alloc1 _ _
      have g2 : Gt w2.heap.size wb (.slice (some ⟨w3.heap.size, 0, none⟩) 0 0) [] := by
        rw [hwb]
        exact Gt.new (base := w2.heap.size) w3 hs3
      refine ⟨(HB3.out.trans (b2.mono hs3)).trans (b3.mono (by omega)), by omega, ?_, (HG3.out.below b2).below b3, g2.below b3⟩
      refine rowIs3 ?_
      have := heap_alloc_new wb (.cells #[.int .i64 p, .slice a3 ds.length c3, .slice (some ⟨w3.heap.size, 0, none⟩) 0 0] 38)
      rw [← hwc, hsb] at this
      exact this)
    obtain ⟨g, hg⟩ : ∃ g, g = w3.heap.size + 1 := ⟨_, rfl⟩
    go_upto_region 5 with fail
    rw [← hwb, ← hwc]
    rw [← hg]
    rw [← hg] at HS0
    clear hwb hwc hsb hg
    go_wp2
    go_loopw [8, 9, 10, 11, 12] (fun i _ _ _ _ wr => ∃ (k : Nat) (a2 : Option Addr) (c2 : Nat), k ≤ ms.length ∧ i = .int .i64 k ∧ Hid (Sd w2 wr g p (.slice a3 ds.length c3) (.slice a2 k c2) ds ((rdM p ms).take k))) (fun i _ _ _ _ _ => ms.length - (intOf i).toNat)
    case atStart => exact ⟨0, _, _, Nat.zero_le _, rfl, by simpa using HS0⟩
    case round =>
      clear HS0
      obtain ⟨k, a2, c2, hk, rfl, HS⟩ := hrel
      obtain ⟨wx, hwx⟩ : ∃ wx : World, wx = wr := ⟨_, rfl⟩
      subst hwx
      have HXR := Lib.hid (HX2.out.next HS.out.below)
      have c1 := HXR.out.c1
      by_cases hlt : k < ms.length
      · have hki : (k : Int) < (ms.length : Int) := by omega
        refine Sl.cases HXR.out.cx.fm (fun _ _ hx _ => absurd hlt (by simp [hx])) (fun bm om capm2 hv _ hposm hclm => ?_)
        injection hv with e1 _ e3
        subst e1 e3
        obtain ⟨ut, hut, hrt⟩ := hclm k hlt
        obtain ⟨t, ht⟩ : ∃ t, t = ms[k] := ⟨_, rfl⟩
        rw [← ht] at hrt
        have HTB : Hid (t.length ≤ 1048576 ∧ ∀ x ∈ t, x.length ≤ 1048576) := Lib.hid (by rw [ht]; exact HBD.out.bm.2 _ (List.getElem_mem hlt))
        have HTR := Lib.hid hrt
        have HTK : Hid ((rdM p ms).take (k + 1) = (rdM p ms).take k ++ [rdT p t]) := Lib.hid (by rw [rdM_take hlt, ht])
        clear hclm hrt ht hposm
        go_wp2_with fail
        refine (l01Rows_q ut t _ HTR.out HTB.out.1 HTB.out.2).mono ?_
        rintro e w5 ⟨u5, rfl, ⟨vs, hq5⟩, hb5⟩
        obtain ⟨a5, c5, hus⟩ := Sl.shape hq5.gs.l2
        subst hus
        have HQ0 : Hid (Gqv wx.heap.size w5 (.slice a5 t.length c5) vs (rdK p t 0 0)) := Lib.hid (by rw [← rdK_start]; exact hq5)
        have HB5 := Lib.hid hb5
        have hvl : vs.length = t.length := hq5.len
        have htl : t.length ≤ 1048576 := HTB.out.1
        clear hq5 hb5 c1 hut
        go_wp2
        go_loopw [10, 11, 12] (fun i _ _ wr => ∃ (i0 : Nat), i0 ≤ t.length ∧ i = .int .i64 i0 ∧ Hid (Below wx.heap.size wx wr) ∧ Hid (Gqv wx.heap.size wr (.slice a5 t.length c5) vs (rdK p t i0 0))) (fun i _ _ _ => t.length - (intOf i).toNat)
        case atStart => exact ⟨0, Nat.zero_le _, rfl, HB5, HQ0⟩
        case round =>
          clear HQ0 HB5
          obtain ⟨i0, hi0, rfl, HB6, HQ⟩ := hrel
          obtain ⟨wy, hwy⟩ : ∃ wy : World, wy = wr := ⟨_, rfl⟩
          subst hwy
          by_cases hlti : i0 < t.length
          · have hii : (i0 : Int) < (t.length : Int) := by omega
            have hiv : i0 < vs.length := by omega
            obtain ⟨rv, hrv⟩ : ∃ rv, rv = vs[i0] := ⟨_, rfl⟩
            have hrow := HQ.out.rows i0 hiv (by rw [rdK_length]; exact hlti)
            rw [← hrv] at hrow
            obtain ⟨ar, cr, hus⟩ := Sl.shape hrow.l1
            rw [rdK_row _ hlti] at hus
            obtain ⟨nr, hnr⟩ : ∃ nr, nr = (t[i0]).length := ⟨_, rfl⟩
            rw [← hnr] at hus
            subst hus
            have HRV := Lib.hid hrv
            have HNR := Lib.hid hnr
            have hnb : nr ≤ 1048576 := by rw [hnr]; exact HTB.out.2 _ (List.getElem_mem _)
            have hcr : ∃ gu, a5 = some ⟨gu, 0, none⟩ := by
              rcases HQ.out.own.2 with ⟨e, e0⟩ | ⟨gu, cu, cur, e, _⟩
              · rw [rdK_length] at e0; omega
              · rw [rdK_length] at e
                injection e with e
                exact ⟨gu, e⟩
            obtain ⟨gu, rfl⟩ := hcr
            have hcell : wy.cell? ⟨gu, i0, none⟩ = some (.slice ar nr cr) := by
              have h1 := HQ.out.own
              rw [rdK_length] at h1
              have := World.ownsRow.cellAt h1 i0 (by omega)
              rw [this, List.getElem?_eq_getElem hiv, ← HRV.out]
            clear hrv hnr hrow
            go_wp2
            clear hcell
            go_loopw [12] (fun j wr => ∃ (q : Nat), q ≤ nr ∧ j = .int .i64 q ∧ Hid (Below wx.heap.size wx wr) ∧ Hid (Gqv wx.heap.size wr (.slice (some ⟨gu, 0, none⟩) t.length c5) vs (rdK p t i0 q))) (fun j _ => nr - (intOf j).toNat)
            case atStart => exact ⟨0, Nat.zero_le _, rfl, HB6, HQ⟩
            case round =>
              clear HQ HB6
              obtain ⟨q, hq, rfl, HB7, HQ⟩ := hrel
              obtain ⟨wz, hwz⟩ : ∃ wz : World, wz = wr := ⟨_, rfl⟩
              subst hwz
              by_cases hltq : q < nr
              · have hqi : (q : Int) < (nr : Int) := by omega
                have hk1 : i0 < (rdK p t i0 q).length := by rw [rdK_length]; exact hlti
                have hqt : q < (t[i0]).length := by rw [← HNR.out]; exact hltq
                have hk2 : q < ((rdK p t i0 q)[i0]).length := by rw [rdK_row hk1 hlti]; exact hqt
                have hrow := HQ.out.rows i0 hiv hk1
                rw [← HRV.out] at hrow
                obtain ⟨gr, hgr, _⟩ := hrow.block (by omega)
                subst hgr
                obtain ⟨x, hx⟩ : ∃ x, x = (t[i0])[q] := ⟨_, rfl⟩
                have hnum : wz.cell? ⟨gr, q, none⟩ = some (.int .i64 x) := by
                  have h1 := hrow
                  have h2 := h1.1
                  have h3 : nr = ((rdK p t i0 q)[i0]).length := by rw [rdK_row hk1 hlti]; exact HNR.out
                  have h4 : wz.ownsRow wx.heap.size 2 1 (.slice (some ⟨gr, 0, none⟩) nr cr) nr (((rdK p t i0 q)[i0]).map (Value.int .i64)) := by
                    have h5 : wz.ownsRow wx.heap.size 2 1 (.slice (some ⟨gr, 0, none⟩) nr cr) ((rdK p t i0 q)[i0]).length (((rdK p t i0 q)[i0]).map (Value.int .i64)) := hrow
                    rwa [← h3] at h5
                  have := World.ownsRow.cellAt h4 q (by omega)
                  rw [this, List.getElem?_map, List.getElem?_eq_getElem hk2, rdK_now hlti hqt hk1 hk2, hx]
                  rfl
                obtain ⟨hput, hfz, hgl⟩ := HQ.out.put hk1 (show vs[i0]'(by rw [HQ.out.len]; exact hk1) = .slice (some ⟨gr, 0, none⟩) nr cr from HRV.out.symm) hk2 (x % p)
                have HN : Hid (Gqv wx.heap.size (wz.setCell ⟨gr, q, none⟩ (.int .i64 (x % p))) (.slice (some ⟨gu, 0, none⟩) t.length c5) vs (rdK p t i0 (q + 1))) := Lib.hid (by
                  rw [hx, rdK_put hlti hqt hk1] at hput
                  rw [hx]
                  exact hput)
                have HB8 : Hid (Below wx.heap.size wx (wz.setCell ⟨gr, q, none⟩ (.int .i64 (x % p)))) := Lib.hid (HB7.out.setCell hgl _)
                have HX := Lib.hid hx
                clear hput hrow hx hgl
                go_wp2_with fail
                refine (l01Mod_any p x _ HP.out).mono ?_
                rintro e w' ⟨rfl, rfl⟩
                go_wp2
                go_roundw
                case rel => exact ⟨q + 1, by omega, by go_num, HB8, HN⟩
                case measure => simp [intOf]; omega
              · have hqi : ¬ (q : Int) < (nr : Int) := by omega
                have hqn : q = nr := by omega
                have HN : Hid (Gqv wx.heap.size wz (.slice (some ⟨gu, 0, none⟩) t.length c5) vs (rdK p t (i0 + 1) 0)) := Lib.hid (by have := HQ.out; rw [hqn, HNR.out, rdK_next hlti] at this; exact this)
                clear hqn
                go_wp2
                go_roundw
                case rel => exact ⟨i0 + 1, by omega, by go_num, HB7, HN⟩
                case measure => simp [intOf]; omega
          · have hii : ¬ (i0 : Int) < (t.length : Int) := by omega
            have hie : i0 = t.length := by omega
            have HGS : Hid (Gs 0 wy (.slice a5 t.length c5) (rdT p t)) := Lib.hid (by have := HQ.out.gs.mono (Nat.zero_le _); rw [hie, ← rdK_done] at this; exact this)
            clear hie
            obtain ⟨TK, hTK⟩ : ∃ TK, TK = (rdM p ms).take k := ⟨_, rfl⟩
            have HSY : Hid (Sd w2 wy g p (.slice a3 ds.length c3) (.slice a2 k c2) ds TK) := Lib.hid (by rw [hTK]; exact HS.out.next HB6.out)
            have g2 : wy.cell? ⟨g, 2, none⟩ = some (.slice a2 k c2) := HSY.out.box.cell (i := 2) (by omega)
            have hba : Below wy.heap.size wy (wy.alloc (.cells #[.slice a5 t.length c5] 44)) := below_alloc1 _ _
            have HSE := Lib.hid (HSY.out.next hba)
            have HGU := Lib.hid (HGS.out.below hba)
            have hcell := cell_alloc1 wy (.slice a5 t.length c5) 44
            have HC4 : Hid (w2.heap.size ≤ (wy.alloc (.cells #[.slice a5 t.length c5] 44)).heap.size) := Lib.hid HSE.out.below.size
            have HKL : Hid (TK.length = k) := Lib.hid (by rw [hTK, List.length_take, rdM_length]; omega)
            have HC3 : Hid (TK.length ≤ 2097151) := Lib.hid (by rw [HKL.out]; omega)
            have HTK' : Hid ((rdM p ms).take (k + 1) = TK ++ [rdT p t]) := Lib.hid (by rw [HTK.out, hTK])
            have HGM := Lib.hid HSE.out.maps
            clear hba HQ HB6 hTK
            go_wp2_with (at_builtin; refine wpList_appendT1 rfl (some 68) rfl (.tmp 65) (.tmp 67) rfl w2.heap.size (.slice a2 k c2) TK rfl HGM.out wy.heap.size rfl a5 t.length c5 hcell (rdT p t) HGU.out HC3.out HC4.out ?_)
            rw [HKL.out]
            intro g9 c9 w9 hn hgw
            have HS9 : Hid (Sd w2 (w9.setCell ⟨g, 2, none⟩ (.slice (some ⟨g9, 0, none⟩) (k + 1) c9)) g p (.slice a3 ds.length c3) (.slice (some ⟨g9, 0, none⟩) (k + 1) c9) ds ((rdM p ms).take (k + 1))) := Lib.hid (by rw [HTK'.out]; exact HSE.out.stepM hgw hn)
            obtain ⟨vs9, ho9, _⟩ := HSE.out.maps
            have hrb := row_grown HSE.out.box ho9 coT.2.2 hgw
            have z1 : w9.cell? ⟨g, 2, none⟩ = some (.slice a2 k c2) := hrb.cell (i := 2) (by omega)
            have z2 : w9.frozen? ⟨g, 2, none⟩ = false := hrb.frozen 2
            clear hn hgw hrb ho9 hcell g2
            go_wp2
            go_roundw
            case rel => exact ⟨k + 1, _, _, by omega, by go_num, HS9⟩
            case measure => simp [intOf]; omega
      · have hki : ¬ (k : Int) < (ms.length : Int) := by omega
        obtain rfl : k = ms.length := by omega
        have HF : Hid (Sd w2 wx g p (.slice a3 ds.length c3) (.slice a2 ms.length c2) ds (rdM p ms)) := Lib.hid (by have := HS.out; rwa [List.take_of_length_le (by rw [rdM_length]; exact Nat.le_refl _)] at this)
        clear HS
        have g0 : wx.cell? ⟨g, 0, none⟩ = some (.int .i64 p) := HF.out.box.cell (i := 0) (by omega)
        have g1 : wx.cell? ⟨g, 1, none⟩ = some (.slice a3 ds.length c3) := HF.out.box.cell (i := 1) (by omega)
        have g2 : wx.cell? ⟨g, 2, none⟩ = some (.slice a2 ms.length c2) := HF.out.box.cell (i := 2) (by omega)
        obtain ⟨x, y, z, hr⟩ := HR2.out
        have hrow : wx.rowIs (w.heap.size + 1) 38 3 (sel3 x y z) := rowIs3 (by rw [HF.out.below.block (w.heap.size + 1) HS2.out]; exact hr)
        have q0 : wx.cell? ⟨w.heap.size + 1, 0, none⟩ = some x := hrow.cell (i := 0) (by omega)
        have z0 : wx.frozen? ⟨w.heap.size + 1, 0, none⟩ = false := hrow.frozen 0
        have r1 := hrow.set 0 (.int .i64 p)
        have q1 : (wx.setCell ⟨w.heap.size + 1, 0, none⟩ (.int .i64 p)).cell? ⟨w.heap.size + 1, 1, none⟩ = some y := r1.cell (i := 1) (by omega)
        have z1 : (wx.setCell ⟨w.heap.size + 1, 0, none⟩ (.int .i64 p)).frozen? ⟨w.heap.size + 1, 1, none⟩ = false := r1.frozen 1
        have r2 := r1.set 1 (.slice a3 ds.length c3)
        have q2 : ((wx.setCell ⟨w.heap.size + 1, 0, none⟩ (.int .i64 p)).setCell ⟨w.heap.size + 1, 1, none⟩ (.slice a3 ds.length c3)).cell? ⟨w.heap.size + 1, 2, none⟩ = some z := r2.cell (i := 2) (by omega)
        have z2 : ((wx.setCell ⟨w.heap.size + 1, 0, none⟩ (.int .i64 p)).setCell ⟨w.heap.size + 1, 1, none⟩ (.slice a3 ds.length c3)).frozen? ⟨w.heap.size + 1, 2, none⟩ = false := r2.frozen 2
        have r3 := r2.set 2 (.slice a2 ms.length c2)
        obtain ⟨WF, hWF⟩ : ∃ W : World, W = (((wx.setCell ⟨w.heap.size + 1, 0, none⟩ (.int .i64 p)).setCell ⟨w.heap.size + 1, 1, none⟩ (.slice a3 ds.length c3)).setCell ⟨w.heap.size + 1, 2, none⟩ (.slice a2 ms.length c2)) := ⟨_, rfl⟩
        have HGF : Hid (Gb w2.heap.size WF (.slice a3 ds.length c3) ds ∧ Gt w2.heap.size WF (.slice a2 ms.length c2) (rdM p ms)) := Lib.hid (by
          rw [hWF]
          exact ⟨((HF.out.dims.off hrow coT.1 _ _).off r1 coT.1 _ _).off r2 coT.1 _ _, ((HF.out.maps.off hrow coT _ _).off r1 coT _ _).off r2 coT _ _⟩)
        have HB : Hid (Below w.heap.size w WF) := Lib.hid (by
          rw [hWF]
          exact (((HX2.out.below.trans (HF.out.below.mono HX2.out.below.size)).setCell (by show w.heap.size ≤ w.heap.size + 1; omega) _).setCell (by show w.heap.size ≤ w.heap.size + 1; omega) _).setCell (by show w.heap.size ≤ w.heap.size + 1; omega) _)
        rw [← hWF] at r3
        have f0 : WF.cell? ⟨w.heap.size + 1, 0, none⟩ = some (.int .i64 p) := r3.cell (i := 0) (by omega)
        have f1 : WF.cell? ⟨w.heap.size + 1, 1, none⟩ = some (.slice a3 ds.length c3) := r3.cell (i := 1) (by omega)
        have f2 : WF.cell? ⟨w.heap.size + 1, 2, none⟩ = some (.slice a2 ms.length c2) := r3.cell (i := 2) (by omega)
        have HWF := Lib.hid hWF
        clear hr hrow r1 r2 r3 hWF
        go_wp2
        rw [← HWF.out]
        refine bodyPost_ret (v := .tuple #[.agg #[.int .i64 p, .slice a3 ds.length c3, .slice a2 ms.length c2], .int .i64 0]) ?_ rfl ?_
        · simp only [results, HRES.out]
          go_simp
        · refine ⟨_, rdO p ds ms, 0, rfl, ⟨a3, c3, a2, c2, ?_, ?_⟩, HB.out, RsOut.of_yes rfl rfl⟩
          · show _ = Value.agg #[.int .i64 p, .slice a3 ds.length c3, .slice a2 (rdM p ms).length c2]
            rw [rdM_length]
          · show Cx 0 WF (.slice a3 ds.length c3) (.slice a2 (rdM p ms).length c2) ds (rdM p ms)
            rw [rdM_length]
            exact ⟨HGF.out.1.l1, HGF.out.2.l3⟩
  · have hne2 : (cc != 0) = true := by simp [hz]
    have hne3 : (cc == 0) = false := by simp [hz]
    have HNE := Lib.hid hz
    clear hz
    obtain ⟨x, y, z, hr⟩ := HR2.out
    have hrow : w2.rowIs (w.heap.size + 1) 38 3 (sel3 x y z) := rowIs3 hr
    have q0 : w2.cell? ⟨w.heap.size + 1, 0, none⟩ = some x := hrow.cell (i := 0) (by omega)
    have z0 : w2.frozen? ⟨w.heap.size + 1, 0, none⟩ = false := hrow.frozen 0
    have r1 := hrow.set 0 (.int .i64 0)
    have q1 : (w2.setCell ⟨w.heap.size + 1, 0, none⟩ (.int .i64 0)).cell? ⟨w.heap.size + 1, 1, none⟩ = some y := r1.cell (i := 1) (by omega)
    have z1 : (w2.setCell ⟨w.heap.size + 1, 0, none⟩ (.int .i64 0)).frozen? ⟨w.heap.size + 1, 1, none⟩ = false := r1.frozen 1
    have r2 := r1.set 1 (.slice none 0 0)
    have q2 : ((w2.setCell ⟨w.heap.size + 1, 0, none⟩ (.int .i64 0)).setCell ⟨w.heap.size + 1, 1, none⟩ (.slice none 0 0)).cell? ⟨w.heap.size + 1, 2, none⟩ = some z := r2.cell (i := 2) (by omega)
    have z2 : ((w2.setCell ⟨w.heap.size + 1, 0, none⟩ (.int .i64 0)).setCell ⟨w.heap.size + 1, 1, none⟩ (.slice none 0 0)).frozen? ⟨w.heap.size + 1, 2, none⟩ = false := r2.frozen 2
    have r3 := r2.set 2 (.slice none 0 0)
    obtain ⟨WF, hWF⟩ : ∃ W : World, W = (((w2.setCell ⟨w.heap.size + 1, 0, none⟩ (.int .i64 0)).setCell ⟨w.heap.size + 1, 1, none⟩ (.slice none 0 0)).setCell ⟨w.heap.size + 1, 2, none⟩ (.slice none 0 0)) := ⟨_, rfl⟩
    have HB : Hid (Below w.heap.size w WF) := Lib.hid (by
      rw [hWF]
      exact (((HX2.out.below).setCell (by show w.heap.size ≤ w.heap.size + 1; omega) _).setCell (by show w.heap.size ≤ w.heap.size + 1; omega) _).setCell (by show w.heap.size ≤ w.heap.size + 1; omega) _)
    rw [← hWF] at r3
    have f0 : WF.cell? ⟨w.heap.size + 1, 0, none⟩ = some (.int .i64 0) := r3.cell (i := 0) (by omega)
    have f1 : WF.cell? ⟨w.heap.size + 1, 1, none⟩ = some (.slice none 0 0) := r3.cell (i := 1) (by omega)
    have f2 : WF.cell? ⟨w.heap.size + 1, 2, none⟩ = some (.slice none 0 0) := r3.cell (i := 2) (by omega)
    have HWF := Lib.hid hWF
    clear hr hrow r1 r2 r3 hWF
    go_wp2
    rw [← HWF.out]
    refine bodyPost_ret (v := .tuple #[.agg #[.int .i64 0, .slice none 0 0, .slice none 0 0], .int .i64 cc]) ?_ rfl ?_
    · simp only [results, HRES.out]
      go_simp
    · refine ⟨_, (0, [], []), cc, rfl, RsC.nil _, HB.out, ?_⟩
      exact RsOut.of_no HNE.out
end Go.Proofs.Ytiokagnolbddlaa
