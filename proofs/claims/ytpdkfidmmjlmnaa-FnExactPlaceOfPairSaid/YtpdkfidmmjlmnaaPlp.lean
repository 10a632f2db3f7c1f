/-
  impl.PlaceOfPair by contract.
-/
import Derived.Test.YtpdkfidmmjlmnaaTno
import Derived.Test.YtpdkfidmmjlmnaaEnd
import Derived.Maps.OwnOps
import Derived.Maps.OwnSet
namespace Go.Proofs.Ytpdkfidmmjlmnaa
open Go.RowKit

/-- What PlaceOfPair answers for the pair q. -/
structure PlO (p p2 : Int) (ds : List Int) (ms : List (List (List Int))) (ds2 : List Int) (ms2 : List (List (List Int))) (q : PV) (x c : Int) : Prop where
  good : prCode p p2 ds ms ds2 ms2 = 0 → q ∈ tsA (bsL ds ds.length) (bsL ds2 ds2.length) (bsL ds ds.length).length → x = (plc (tsA (bsL ds ds.length) (bsL ds2 ds2.length) (bsL ds ds.length).length) q : Int) ∧ c = 0
  range : prCode p p2 ds ms ds2 ms2 = 0 → q ∉ tsA (bsL ds ds.length) (bsL ds2 ds2.length) (bsL ds ds.length).length → x = 0 ∧ c = 2
  bad : prCode p p2 ds ms ds2 ms2 ≠ 0 → x = 0 ∧ c = prCode p p2 ds ms ds2 ms2
theorem PlO.unique {p p2 : Int} {ds : List Int} {ms : List (List (List Int))} {ds2 : List Int} {ms2 : List (List (List Int))} {q : PV} {x c y d : Int} (h : PlO p p2 ds ms ds2 ms2 q x c) (k : PlO p p2 ds ms ds2 ms2 q y d) : x = y ∧ c = d := by
  by_cases h0 : prCode p p2 ds ms ds2 ms2 = 0
  · by_cases hq : q ∈ tsA (bsL ds ds.length) (bsL ds2 ds2.length) (bsL ds ds.length).length
    · obtain ⟨a, b⟩ := h.good h0 hq
      obtain ⟨a', b'⟩ := k.good h0 hq
      exact ⟨a.trans a'.symm, b.trans b'.symm⟩
    · obtain ⟨a, b⟩ := h.range h0 hq
      obtain ⟨a', b'⟩ := k.range h0 hq
      exact ⟨a.trans a'.symm, b.trans b'.symm⟩
  · obtain ⟨a, b⟩ := h.bad h0
    obtain ⟨a', b'⟩ := k.bad h0
    exact ⟨a.trans a'.symm, b.trans b'.symm⟩

set_option maxHeartbeats 3200000 in
set_option maxRecDepth 100000 in
theorem placeOfPair_any (p p2 i a j b : Int) (dv mv dv2 mv2 : Value) (ds : List Int) (ms : List (List (List Int))) (ds2 : List Int) (ms2 : List (List (List Int))) (w : World) (h : Cx 0 w dv mv ds ms) (h2 : Cx 0 w dv2 mv2 ds2 ms2) (hd : ds.length ≤ 1048576) (hm : Bd3 1048576 ms) (hd2 : ds2.length ≤ 1048576) (hm2 : Bd3 1048576 ms2) (hw : Wf4 ((i, a), (j, b))) :
    Calls Try.prog 66 #[.agg #[.int .i64 p, dv, mv], .agg #[.int .i64 p2, dv2, mv2], .int .i64 i, .int .i64 a, .int .i64 j, .int .i64 b] w (fun e w' => ∃ x c : Int, e = .returned (.tuple #[.int .i64 x, .int .i64 c]) ∧ Below w.heap.size w w' ∧ PlO p p2 ds ms ds2 ms2 ((i, a), (j, b)) x c) := by
  obtain ⟨ad, cap, rfl⟩ := Sl.shape h.dims
  obtain ⟨am, capm, rfl⟩ := Sl.shape h.maps
  obtain ⟨ad2, cap2, rfl⟩ := Sl.shape h2.dims
  obtain ⟨am2, capm2, rfl⟩ := Sl.shape h2.maps
  obtain ⟨k1, k2⟩ := bx_two (p := p) (p2 := p2) 28 h h2
  have HX0 := Lib.hid k1
  have HY0 := Lib.hid k2
  have HM := Lib.hid hm
  have HM2 := Lib.hid hm2
  obtain ⟨w1, hw1⟩ : ∃ w1, w1 = ((w.alloc (.cells #[.int .i64 p, .slice ad ds.length cap, .slice am ms.length capm] 28)).alloc (.cells #[.int .i64 p2, .slice ad2 ds2.length cap2, .slice am2 ms2.length capm2] 28)) := ⟨_, rfl⟩
  rw [← hw1] at HX0 HY0
  have c0 := HX0.out.c0
  have c1 := HX0.out.c1
  have c2 := HX0.out.c2
  have d0 := HY0.out.c0
  have d1 := HY0.out.c1
  have d2 := HY0.out.c2
  obtain ⟨w2, hw2⟩ : ∃ w2, w2 = w1.alloc (.cells #[.int .i64 p, .slice ad ds.length cap, .slice am ms.length capm, .int .i64 p2, .slice ad2 ds2.length cap2, .slice am2 ms2.length capm2] 28) := ⟨_, rfl⟩
  have hr2 : Row2 w2 w1.heap.size p p2 (.slice ad ds.length cap) (.slice am ms.length capm) (.slice ad2 ds2.length cap2) (.slice am2 ms2.length capm2) := by
    rw [hw2]
    exact ⟨by simp, by simp, by simp, by simp, by simp, by simp⟩
  have hb2 : Below w1.heap.size w1 w2 := by rw [hw2]; exact below_alloc1 _ _
  have HX2 := Lib.hid (HX0.out.next hb2)
  have HY2 := Lib.hid (HY0.out.next hb2)
  have HCK := Lib.hid (checkPrimes2_any p p2 w1.heap.size _ _ _ _ ds ms ds2 ms2 w2 hr2 HX2.out.cx HY2.out.cx hd hm hd2 hm2)
  clear hr2 hb2
  obtain ⟨ec, hec⟩ : ∃ ec, ec = prCode p p2 ds ms ds2 ms2 := ⟨_, rfl⟩
  rw [← hec] at HCK
  have HEC := Lib.hid hec
  clear h h2 hm hm2 k1 k2 hec
  go_enter Try.func66, Try.ntmps66
  go_upto_region 1 with fail
  rw [← hw1]
  clear hw1
  go_wp2_with fail
  rw [← hw2]
  clear hw2
  refine HCK.out.mono ?_
  rintro ee w3 ⟨rfl, hb3⟩
  have HX3 := Lib.hid (HX2.out.next hb3)
  have HY3 := Lib.hid (HY2.out.next hb3)
  clear hb3 c0 c1 c2 d0 d1 d2 HX0 HY0 HX2 HY2 HCK
  have HN3 : Hid (∀ W, Below w3.heap.size w3 W → Bx w W w.heap.size p (.slice ad ds.length cap) (.slice am ms.length capm) ds ms ∧ Bx w W (w.heap.size + 1) p2 (.slice ad2 ds2.length cap2) (.slice am2 ms2.length capm2) ds2 ms2) := Lib.hid (fun W hb => ⟨HX3.out.next hb, HY3.out.next hb⟩)
  have hs3 := HX3.out.below.size
  by_cases h0 : ec = 0
  · subst h0
    have HE := Lib.hid (prCode_zero HEC.out.symm)
    have c0 := (HN3.out _ (Below.refl _ _)).1.c0
    have c1 := (HN3.out _ (Below.refl _ _)).1.c1
    have c2 := (HN3.out _ (Below.refl _ _)).1.c2
    have d0 := (HN3.out _ (Below.refl _ _)).2.c0
    have d1 := (HN3.out _ (Below.refl _ _)).2.c1
    have d2 := (HN3.out _ (Below.refl _ _)).2.c2
    have HTO := Lib.hid (tensorOf_any p p2 _ _ _ _ ds ms ds2 ms2 w3 HX3.out.cx HY3.out.cx HE.out.x HE.out.y)
    go_wp2_with fail
    refine HTO.out.mono ?_
    rintro ee w4 ⟨G, mb, N, base, n, f, rfl, _, _, _, _, ⟨D, hown, hD⟩, hb4⟩
    have HX4 := Lib.hid (HX3.out.next hb4)
    have hkey : keyOf Try.prog 115 (pv i a j b) = some (keyV ((i, a), (j, b))) := keyOf_pv hw.a hw.b hw.c hw.d
    have hz := zeroI' w4
    by_cases hq : ((i, a), (j, b)) ∈ tsA (bsL ds ds.length) (bsL ds2 ds2.length) (bsL ds ds.length).length
    · have hh := hD.yes ((i, a), (j, b)) hw hq
      have hhas : Maps.has D (keyV ((i, a), (j, b))) = true := Maps.has_true_of_atKey hh
      have HQ := Lib.hid hq
      have HH := Lib.hid hh
      clear hh hq hb4 HTO c0 c1 c2 d0 d1 d2
      have HFD : Hid ((Instr.field 110 (.agg #[.int .i64 p, .slice ad ds.length cap, .slice am ms.length capm, .int .i64 p2, .slice ad2 ds2.length cap2, .slice am2 ms2.length capm2, .slice (some ⟨G, 0, none⟩) N N, .map (some mb)]) 3).run Try.prog w4 = .ok (.map (some mb)) w4) := Lib.hid (by kernel_rfl)
      go_wp2
      rw [HFD.out]
      go_wp2_with (at_lookup; refine wpList_lookup_own_ok_int w4 rfl _ _ 108 rfl 115 2 .i64 Try.keyedPr Try.underlying108 Try.underlying2 hz mb n D rfl hown (pv i a j b) (keyV ((i, a), (j, b))) rfl hkey ?_; intro c hat hwc)
      have hc : c = (plc (tsA (bsL ds ds.length) (bsL ds2 ds2.length) (bsL ds ds.length).length) ((i, a), (j, b)) : Int) := by have := HH.out (.lit (.int .i64 0)); rw [this] at hat; injection hat with e; injection e with _ e; exact e.symm
      have HCV := Lib.hid hc
      clear hc hat hwc hown hkey hz
      go_ret2
      have he := HEC.out.symm
      exact ⟨c, 0, rfl, HX4.out.below, ⟨fun _ _ => ⟨HCV.out, rfl⟩, fun _ h => absurd HQ.out h, fun h => absurd he h⟩⟩
    · have hh := hD.no ((i, a), (j, b)) hw hq
      have hhas : Maps.has D (keyV ((i, a), (j, b))) = false := Maps.has_false_of_atKey hh
      have HQ := Lib.hid hq
      have HH := Lib.hid hh
      clear hh hq hb4 HTO c0 c1 c2 d0 d1 d2
      have HFD : Hid ((Instr.field 110 (.agg #[.int .i64 p, .slice ad ds.length cap, .slice am ms.length capm, .int .i64 p2, .slice ad2 ds2.length cap2, .slice am2 ms2.length capm2, .slice (some ⟨G, 0, none⟩) N N, .map (some mb)]) 3).run Try.prog w4 = .ok (.map (some mb)) w4) := Lib.hid (by kernel_rfl)
      go_wp2
      rw [HFD.out]
      go_wp2_with (at_lookup; refine wpList_lookup_own_ok_int w4 rfl _ _ 108 rfl 115 2 .i64 Try.keyedPr Try.underlying108 Try.underlying2 hz mb n D rfl hown (pv i a j b) (keyV ((i, a), (j, b))) rfl hkey ?_; intro c hat hwc)
      clear hat hwc hown hkey hz
      go_ret2
      have he := HEC.out.symm
      exact ⟨0, 2, rfl, HX4.out.below, ⟨fun _ h => absurd h HQ.out, fun _ _ => ⟨rfl, rfl⟩, fun h => absurd he h⟩⟩
  · have hne2 : (ec != 0) = true := by simp [h0]
    have hne3 : (ec == 0) = false := by simp [h0]
    have HNE := Lib.hid h0
    clear h0
    go_wp2
    go_ret2
    have he := HNE.out
    have he2 := HEC.out
    refine ⟨0, ec, rfl, HX3.out.below, ⟨fun h => ?_, fun h => ?_, fun _ => ⟨rfl, he2⟩⟩⟩
    · rw [← he2] at h; exact absurd h he
    · rw [← he2] at h; exact absurd h he
end Go.Proofs.Ytpdkfidmmjlmnaa
