/-
  Meets of spaces: both sides by their contracts.
-/
import Derived.Test.YtpdkfidmmjlmnaaMeM
import Derived.Test.YtpdkfidmmjlmnaaQb
namespace Go.Proofs.Ytpdkfidmmjlmnaa
open Go.RowKit

def MeetS (p : Int) (A B : List Lin.V) (v : Lin.V) : Prop := Lin.Sp p A v ∧ Lin.Sp p B v
theorem owns_of_row {W : World} {g n : Nat} {X : Nat → Int} (h : W.rowIs g 2 n (fun i => .int .i64 (X i))) (hn : n ≤ maxLen) : W.ownsRow 0 2 1 (.slice (some ⟨g, 0, none⟩) n n) n (((List.range n).map X).map (Value.int .i64)) := by
  obtain ⟨C, hb, hs, hc⟩ := h
  refine ⟨by simp, Or.inr ⟨g, n, C, rfl, Nat.zero_le _, hb, Nat.le_refl _, hn, by omega, ?_⟩⟩
  rw [Nat.mul_one, List.take_of_length_le (by simp [hs])]
  refine List.ext_getElem (by simp [hs]) fun i h1 h2 => ?_
  have hi : i < n := by simpa [hs] using h1
  have := hc i hi
  rw [Array.getElem?_eq_getElem (by omega)] at this
  injection this with this
  simp [this]
def ApG (p : Int) (c : Nat) (v : List Int) (t : List (List Int)) (w : World) (e : Ending) (w' : World) : Prop := ∃ u, e = .returned u ∧ G1 w' u (apT p c v t) ∧ Below w.heap.size w w'
theorem Ap.doneG {w wr : World} {p : Int} {c : Nat} {v : List Int} {t : List (List Int)} (hc : c ≤ 1048576) (ok : ApOk p c v t) (h : Ap w wr 2 p c v t v.length 0) : G1 wr (.slice (some ⟨w.heap.size, 0, none⟩) c c) (apT p c v t) := by
  have hl := apTo_length ok (Nat.le_refl _)
  have h1 : wr.rowIs w.heap.size 2 c (fun i => .int .i64 ((apT p c v t).getD i 0)) := h.row.congr (fun j _ => by simp [apCell, apT])
  have h2 := owns_of_row h1 (by unfold maxLen; omega)
  have hlen : (apT p c v t).length = c := hl
  have e : (List.range c).map (fun i => (apT p c v t).getD i 0) = apT p c v t := List.ext_getElem (by simp [hlen]) fun i a b => by
    simp only [List.getElem_map, List.getElem_range]
    exact getD_of_lt _ b
  rw [e] at h2
  unfold G1
  rw [hlen]
  exact h2

set_option maxHeartbeats 3200000 in
theorem l01ApplyG_any (p : Int) (c : Nat) (va vt : Value) (v : List Int) (t : List (List Int)) (w : World) (ok : ApOk p c v t) (ha : L1 0 w va v) (ht : L2 0 w vt t) (hv : v.length ≤ 1048576) (hc : c ≤ 1048576) :
    Calls Try.prog 89 #[.int .i64 p, vt, va, .int .i64 c] w (ApG p c v t w) := by
  have hmk := run_make_row' (P := Try.prog) 22 2 (.int .i64 0) 8 Try.underlying22 Try.infoI rfl .i64 .i64 c (by omega) (by omega)
  have hp0 := ok.prime.lo
  have hp1 := ok.prime.hi
  have OK := Lib.hid ok
  clear ok
  refine Sl.cases ha (fun ad cap hx hv' => ?_) (fun b o cap hv' _ hpos hcl => ?_)
  · subst hx hv'
    clear ha ht
    go_enter Try.func89, Try.ntmps89
    go_wp2
    refine wp_loop_rounds 1 ?_
    rw [rounds_succ]
    go_wp2
    go_ret
    exact ⟨_, rfl, Ap.doneG (by omega) OK.out (Ap.start _ _ _ _ _ _), (Below.refl _ _).alloc (Nat.le_refl _) _⟩
  · refine Sl.cases ht (fun ad2 cap2 hx2 hv2 => absurd OK.out.len (by subst hx2; simp only [List.length_nil]; omega)) (fun b2 o2 cap2 hv2 _ hpos2 hcl2 => ?_)
    subst hv' hv2
    clear ha ht
    have hlen := OK.out.len
    have HC := Lib.hid hcl
    have HC2 := Lib.hid hcl2
    clear hcl hcl2
    go_enter Try.func89, Try.ntmps89
    go_wp2
    clear hmk
    go_loopw [10, 11] (fun i _ wr => ∃ (k : Nat), k ≤ v.length ∧ i = .int .i64 k ∧ Ap w wr 2 p c v t k 0) (fun i _ _ => v.length - (intOf i).toNat)
    case atStart => exact ⟨0, Nat.zero_le _, rfl, Ap.start _ _ _ _ _ _⟩
    case round =>
      obtain ⟨k, hk, rfl, HA⟩ := hrel
      by_cases hlt2 : k < v.length
      · have hlt3 : k < t.length := by omega
        obtain ⟨u, hu, hr⟩ := HC.out k hlt2
        obtain ⟨u2, hu2, hr2⟩ := HC2.out k hlt3
        have hnum := OK.out.num hlt2
        have hrow := OK.out.row hlt2
        rw [getD_of_lt _ hlt2] at hnum
        rw [getD_of_lt _ hlt3] at hrow
        obtain ⟨f, hf⟩ : ∃ f, f = v[k] := ⟨_, rfl⟩
        obtain ⟨ys, hy⟩ : ∃ ys, ys = t[k] := ⟨_, rfl⟩
        rw [← hf] at hnum
        rw [← hy] at hrow hr2
        obtain ⟨hf0, hf1⟩ := hnum
        have HU : Hid (w.cell? ⟨b, o + k, none⟩ = some (.int .i64 f)) := Lib.hid (by rw [hu, hr, hf])
        have HU2 := Lib.hid hu2
        have HF := Lib.hid hf
        have HY := Lib.hid hy
        have HROW := Lib.hid hrow
        have HR2 := Lib.hid hr2
        have HA' := Lib.hid HA
        clear hf hy hrow HA hu hr hu2 hr2
        obtain ⟨wo, hwo⟩ : ∃ wo : World, wo = wr := ⟨_, rfl⟩
        have HWO := Lib.hid hwo
        clear hwo
        go_wp2
        go_loopw [11] (fun i wr => ∃ (q : Nat), q ≤ c ∧ i = .int .i64 q ∧ Ap w wr 2 p c v t k q) (fun i _ => c - (intOf i).toNat)
        case atStart => exact ⟨0, Nat.zero_le _, rfl, HA'.out⟩
        case round =>
          obtain ⟨q, hq, rfl, HB⟩ := hrel
          by_cases hlt4 : q < c
          · have hl5 : q < ys.length := by have := HROW.out.1; omega
            refine Sl.cases HR2.out (fun ad3 cap3 hx3 hv3 => absurd hl5 (by subst hx3; simp)) (fun b3 o3 cap3 hv3 _ hpos3 hcl3 => ?_)
            obtain ⟨u3, hu3, hr3⟩ := hcl3 q hl5
            have hx := HROW.out.2 _ (List.getElem_mem hl5)
            obtain ⟨x, hxx⟩ : ∃ x, x = ys[q] := ⟨_, rfl⟩
            obtain ⟨a, haa⟩ : ∃ a, a = (apTo p c v t k).getD q 0 := ⟨_, rfl⟩
            have hab := apTo_mod OK.out (Nat.le_of_lt hlt2) q
            have hac := HB.cell hlt4
            have hfz := HB.row.frozen q
            rw [← haa] at hab hac
            rw [← hxx] at hx
            obtain ⟨hx0, hx1⟩ := hx
            obtain ⟨ha0, ha1⟩ := hab
            have hu' : wr.cell? ⟨b, o + k, none⟩ = some (.int .i64 f) := by rw [HB.below.cell (p := ⟨b, o + k, none⟩) (cell_lt HU.out)]; exact HU.out
            have hu2' : wr.cell? ⟨b2, o2 + k, none⟩ = some (.slice (some ⟨b3, o3, none⟩) ys.length cap3) := by rw [HB.below.cell (p := ⟨b2, o2 + k, none⟩) (cell_lt HU2.out)]; rw [HU2.out, hv3]
            have hu3' : wr.cell? ⟨b3, o3 + q, none⟩ = some (.int .i64 x) := by rw [HB.below.cell (p := ⟨b3, o3 + q, none⟩) (cell_lt hu3), hu3, hr3, hxx]
            have m0 : 0 ≤ f * x := Int.mul_nonneg hf0 hx0
            have m1 : f * x ≤ 36 := Int.le_trans (Int.mul_le_mul (show f ≤ 6 by omega) (show x ≤ 6 by omega) hx0 (by omega)) (by omega)
            have HS := Lib.hid (HB.step OK.out hlt2 hlt4 (x := (a + f * x) % p) (by rw [haa, HF.out, hxx, getD_of_lt _ hlt2, getD_of_lt _ hlt3, ← HY.out, getD_of_lt _ hl5]))
            clear HB hu3 hr3 haa hxx hv3 hcl3
            go_wp2
            go_region
            all_goals go_wp2
            all_goals go_roundw
            case rel => exact ⟨q + 1, by omega, by go_num, HS.out.drew⟩
            case measure => simp [intOf]; omega
          · have HB' := Lib.hid HB
            have hqc : Hid (q = c) := Lib.hid (by omega)
            clear HB
            go_wp2
            go_roundw
            case rel => exact ⟨k + 1, by omega, by go_num, Ap.next (by have := HB'.out; rwa [hqc.out] at this)⟩
            case measure => simp [intOf]; omega
      · have hkk : k = v.length := by omega
        subst hkk
        have HA' := Lib.hid HA
        clear HA
        go_wp2
        go_ret
        exact ⟨_, rfl, Ap.doneG (by omega) OK.out HA'.out, HA'.out.below⟩

set_option maxHeartbeats 1600000 in
set_option maxRecDepth 100000 in
theorem meetSpace_any (p : Int) (n : Nat) (sa sb : Value) (A B : List Lin.V) (w : World) (hp : IsP p) (hn : n ≤ 40) (hA : Vs 0 w sa A) (hB : Vs 0 w sb B) (hAm : ∀ u ∈ A, Lin.Md p u) (hAw : ∀ u ∈ A, Lin.Wd n u) (hBm : ∀ u ∈ B, Lin.Md p u) (hBw : ∀ u ∈ B, Lin.Wd n u) (hla : A.length ≤ 1048575) (hlb : B.length ≤ 1048575) :
    Calls Try.prog 113 #[.int .i64 p, .int .i64 n, sa, sb] w (VsR (SpF p n (MeetS p A B)) w) := by
  have HP := Lib.hid hp
  have HAM := Lib.hid hAm
  have HAW := Lib.hid hAw
  have HBM := Lib.hid hBm
  have HBW := Lib.hid hBw
  have HB := Lib.hid hB
  have HX := Lib.hid (annihilator_any p n sa A w hp hA hAm hAw hn hla)
  clear hp hA hB hAm hAw hBm hBw
  go_enter Try.func113, Try.ntmps113
  go_wp2_with fail
  refine HX.out.mono ?_
  rintro e w1 ⟨s1, X, rfl, hb1, ho1, hx1⟩
  have HB1 := Lib.hid hb1
  have HO1 := Lib.hid (ho1.vs.lower (Nat.zero_le _))
  have HX1 := Lib.hid hx1
  have hxl := hx1.short
  have HY := Lib.hid (annihilator_any p n sb B w1 HP.out (HB.out.below hb1) HBM.out HBW.out hn hlb)
  clear hb1 ho1 hx1 HX
  go_wp2_with fail
  refine HY.out.mono ?_
  rintro e w2 ⟨s2, Y, rfl, hb2, ho2, hy2⟩
  have HB2 := Lib.hid (HB1.out.trans (hb2.mono HB1.out.size))
  have HO2 := Lib.hid (ho2.vs.lower (Nat.zero_le _))
  have HO1' := Lib.hid (HO1.out.below hb2)
  have HY2 := Lib.hid hy2
  have hyl := hy2.short
  clear hb2 ho2 hy2 HY HB1 HO1
  obtain ⟨aa, ca, hs1⟩ := Vs.shape HO1'.out
  obtain ⟨ab, cb, hs2⟩ := Vs.shape HO2.out
  subst hs1 hs2
  have hba : Below w2.heap.size w2 (w2.alloc (.cells #[.slice aa X.length ca, .slice ab Y.length cb] 86)) := below_alloc1 _ _
  have HBA := Lib.hid (HB2.out.trans (hba.mono HB2.out.size))
  have h0 : (w2.alloc (.cells #[.slice aa X.length ca, .slice ab Y.length cb] 86)).cell? ⟨w2.heap.size, 0, none⟩ = some (.slice aa X.length ca) := by
    unfold World.cell?
    rw [heap_alloc_new w2 _]
    rfl
  have h1 : (w2.alloc (.cells #[.slice aa X.length ca, .slice ab Y.length cb] 86)).cell? ⟨w2.heap.size, 1, none⟩ = some (.slice ab Y.length cb) := by
    unfold World.cell?
    rw [heap_alloc_new w2 _]
    rfl
  have HC := Lib.hid (concat_any w2.heap.size _ _ X Y _ h0 h1 (HO1'.out.below hba) (HO2.out.below hba) (by omega))
  clear hba h0 h1
  go_wp2_with fail
  refine HC.out.mono ?_
  rintro e w3 ⟨s3, M, rfl, hb3, ho3, rfl⟩
  have HB3 := Lib.hid (HBA.out.trans (hb3.mono HBA.out.size))
  have HO3 := Lib.hid (ho3.vs.lower (Nat.zero_le _))
  clear hb3 ho3 HC
  have HZ := Lib.hid (annihilator_any p n s3 (X ++ Y) w3 HP.out HO3.out (fun u hu => by
    rcases List.mem_append.1 hu with h | h
    · exact HX1.out.1.md u h
    · exact HY2.out.1.md u h) (fun u hu => by
    rcases List.mem_append.1 hu with h | h
    · exact HX1.out.2.1 u h
    · exact HY2.out.2.1 u h) hn (by rw [List.length_append]; omega))
  go_wp2_with fail
  refine HZ.out.mono ?_
  rintro e w4 ⟨s4, R, rfl, hb4, ho4, hr4⟩
  have hs3 := HB3.out.size
  have HB4 := Lib.hid (HB3.out.trans (hb4.mono HB3.out.size))
  have HO4 := Lib.hid ho4
  have HR4 := Lib.hid hr4
  clear hb4 ho4 hr4 HZ
  go_wp2
  go_ret
  exact ⟨_, R, rfl, HB4.out, ⟨HO4.out.1, HO4.out.2.imp id (fun ⟨g, cap, cur, h1, h2, h3⟩ => ⟨g, cap, cur, h1, Nat.le_trans hs3 h2, h3⟩)⟩, HR4.out.congr (fun v => meet_ann HP.out HAM.out HAW.out HBM.out HBW.out HX1.out HY2.out v)⟩

set_option maxHeartbeats 1600000 in
theorem meetOfSpaces_any (p n : Int) (va vb : Value) (a b : List (List Int)) (w : World) (ha : L2 0 w va a) (hb : L2 0 w vb b) (hma : Bd2 1048576 a) (hmb : Bd2 1048576 b) :
    Calls Try.prog 55 #[.int .i64 p, .int .i64 n, va, vb] w (SpW p n.toNat (MeetS p (a.map ofL) (b.map ofL)) (spsCode p n [a, b]) w) := by
  have HLA := Lib.hid ha
  have HLB := Lib.hid hb
  have HA := Lib.hid (areSpaceRows_any p n va a w ha hma)
  have HB := Lib.hid (areSpaceRows_any p n vb b w hb hmb)
  clear ha hb hma hmb
  by_cases hoa : SpOk p n a
  · have HAY : Hid (Calls Try.prog 106 #[.int .i64 p, .int .i64 n, va] w (QW (.bool true) w)) := Lib.hid (bw_yes HA.out hoa)
    have HOA := Lib.hid hoa
    clear HA
    by_cases hob : SpOk p n b
    · have HBY : Hid (Calls Try.prog 106 #[.int .i64 p, .int .i64 n, vb] w (QW (.bool true) w)) := Lib.hid (bw_yes HB.out hob)
      have HOB := Lib.hid hob
      have hn := hoa.2.1
      have hla := hoa.2.2.1
      have hlb := hob.2.2.1
      obtain ⟨n, rfl⟩ := Int.eq_ofNat_of_zero_le hn.1
      have hn40 : n ≤ 40 := by omega
      clear HB hoa hob hn
      go_enter Try.func55, Try.ntmps55
      go_wp2_with fail
      refine HAY.out.mono ?_
      rintro e w' ⟨rfl, rfl⟩
      clear HAY
      go_wp2_with fail
      refine HBY.out.mono ?_
      rintro e w' ⟨rfl, rfl⟩
      clear HBY
      go_wp2_with fail
      refine (vectorsOf_any va a _ HLA.out (by omega) HOA.out.short).mono ?_
      rintro e w1 ⟨s1, M, rfl, hb1, ho1, rfl⟩
      have HB1 := Lib.hid hb1
      have HO1 := Lib.hid (ho1.vs.lower (Nat.zero_le _))
      clear hb1 ho1
      go_wp2_with fail
      refine (vectorsOf_any vb b _ (HLB.out.below HB1.out) (by omega) HOB.out.short).mono ?_
      rintro e w2 ⟨s2, M, rfl, hb2, ho2, rfl⟩
      have HB2 := Lib.hid (HB1.out.trans (hb2.mono HB1.out.size))
      have HO2 := Lib.hid (ho2.vs.lower (Nat.zero_le _))
      have HO1' := Lib.hid (HO1.out.below hb2)
      clear hb2 ho2 HB1 HO1
      go_wp2_with fail
      refine (meetSpace_any p n s1 s2 _ _ _ HOA.out.1 hn40 HO1'.out HO2.out HOA.out.md (fun u hu => by simpa using HOA.out.wd u hu) HOB.out.md (fun u hu => by simpa using HOB.out.wd u hu) (by rw [List.length_map]; omega) (by rw [List.length_map]; omega)).mono ?_
      rintro e w3 ⟨s3, R, rfl, hb3, ho3, hr⟩
      have HB3 := Lib.hid (HB2.out.trans (hb3.mono HB2.out.size))
      have HO3 := Lib.hid (ho3.vs.lower (Nat.zero_le _))
      have HR := Lib.hid hr
      have hlr2 : R.length ≤ 80 := by have := hr.short; omega
      clear hb3 ho3 hr HB2 HO2 HO1'
      go_wp2_with fail
      refine (rowsOf_any n s3 R _ HO3.out hn40 (by omega)).mono ?_
      rintro e w4 ⟨u4, rfl, ht4, hb4⟩
      have HT4 := Lib.hid ht4
      have hs4 : w.heap.size ≤ w3.heap.size := HB3.out.size
      have HB4 := Lib.hid (HB3.out.trans (hb4.mono HB3.out.size))
      clear hb4 ht4 HB3 HO3
      go_wp2
      go_ret2
      refine ⟨u4, R.map (toL n), 0, rfl, HT4.out.wider hs4, HB4.out, ?_⟩
      rw [spsCode_ok (spsTwo.2 ⟨HOA.out, HOB.out⟩)]
      have hh := HR.out
      exact ⟨fun _ => ⟨R, hh.1, hh.2.1, hh.2.2, rfl⟩, fun hh => absurd rfl hh, rfl⟩
    · have HNO := Lib.hid hob
      have HBN : Hid (Calls Try.prog 106 #[.int .i64 p, .int .i64 n, vb] w (QW (.bool false) w)) := Lib.hid (bw_no HB.out hob)
      clear HB hob hoa
      go_enter Try.func55, Try.ntmps55
      go_wp2_with fail
      refine HAY.out.mono ?_
      rintro e w' ⟨rfl, rfl⟩
      clear HAY
      go_wp2_with fail
      refine HBN.out.mono ?_
      rintro e w' ⟨rfl, rfl⟩
      go_wp2
      go_ret2
      refine ⟨_, [], 2, rfl, TW.nil _ _ _, Below.refl _ _, ?_⟩
      rw [spsCode_no (fun h => HNO.out (spsTwo.1 h).2)]
      exact SpOut.of_no (by decide)
  · have HNO := Lib.hid hoa
    have HAN : Hid (Calls Try.prog 106 #[.int .i64 p, .int .i64 n, va] w (QW (.bool false) w)) := Lib.hid (bw_no HA.out hoa)
    clear HA HB hoa
    go_enter Try.func55, Try.ntmps55
    go_wp2_with fail
    refine HAN.out.mono ?_
    rintro e w' ⟨rfl, rfl⟩
    go_wp2
    go_ret2
    refine ⟨_, [], 2, rfl, TW.nil _ _ _, Below.refl _ _, ?_⟩
    rw [spsCode_no (fun h => HNO.out (spsTwo.1 h).1)]
    exact SpOut.of_no (by decide)


def MeetR (p : Int) (n : Nat) (A B : List Lin.V) (w : World) (e : Ending) (w' : World) : Prop :=
  ∃ (u : Value) (R : List Lin.V), e = .returned u ∧ Gs w.heap.size w' u (R.map (toL n)) ∧ Below w.heap.size w w' ∧ SpF p n (MeetS p A B) R
theorem img_wd {p : Int} {n : Nat} {E : List Lin.V} (hE : ∀ u ∈ E, Lin.Wd n u) (x : Lin.V) : Lin.Wd n (img p E.length (rowsV E) x) := fun j hj => by
  simp only [img]
  rw [Lin.dot_nil (fun i hi => by
    simp only [Lin.col]
    rw [rowsV_at hi, hE _ (List.getElem_mem hi) j hj, Int.zero_mul])]
  simp

theorem Gs.rowsAt {base : Nat} {w : World} {u : Value} {tb : List (List Int)} (h : Gs base w u tb) : ∃ vs, RowsAt w u tb vs ∧ ∀ k (h1 : k < vs.length) (h2 : k < tb.length), G1 w vs[k] tb[k] := by
  obtain ⟨vs, ho, hr⟩ := h
  have hvl : vs.length = tb.length := by have := ho.1; omega
  refine ⟨vs, ⟨hvl, fun k h1 h2 => (hr k h1 h2).l1, fun x hx => ?_, ?_⟩, hr⟩
  · obtain ⟨k, hk, rfl⟩ := List.getElem_of_mem hx
    obtain ⟨ad, cap, e⟩ := Sl.shape (hr k hk (by omega)).l1
    rw [e]
    rfl
  · have ho' := ho
    rcases ho'.2 with ⟨h0, h1⟩ | ⟨g, cap, cur, hv, _, _, _⟩
    · exact ⟨none, 0, by rw [h0, h1], fun h2 => absurd h2 (by omega)⟩
    · refine ⟨_, cap, hv, fun _ => ⟨_, rfl, fun j x hj => ?_⟩⟩
      rw [hv] at ho
      have hjl : j < vs.length := (List.getElem?_eq_some_iff.1 hj).1
      rw [Addr.add_mid, Nat.zero_add, World.ownsRow.cellAt ho j (by omega)]
      exact hj

set_option maxHeartbeats 6400000 in
set_option maxRecDepth 100000 in
theorem l01Meet_any (p : Int) (n : Nat) (va vb : Value) (A B : List Lin.V) (w : World) (hp : IsP p) (hn : n ≤ 40) (ha : L2 0 w va (A.map (toL n))) (hb : L2 0 w vb (B.map (toL n))) (hAm : ∀ u ∈ A, Lin.Md p u) (hAw : ∀ u ∈ A, Lin.Wd n u) (hBm : ∀ u ∈ B, Lin.Md p u) (hBw : ∀ u ∈ B, Lin.Wd n u) (hla : A.length ≤ 1048575) (hlb : B.length ≤ 1048575) :
    Calls Try.prog 112 #[.int .i64 p, .int .i64 n, va, vb] w (MeetR p n A B w) := by
  have HP := Lib.hid hp
  have hp1 := hp.lo1
  have HA := Lib.hid ha
  have HB := Lib.hid hb
  have HAM := Lib.hid hAm
  have HAW := Lib.hid hAw
  have HBM := Lib.hid hBm
  have HBW := Lib.hid hBw
  have HE1 := Lib.hid (l01Echelon_any p n va A w hp ha hAm hAw (by omega) hla)
  clear hp ha hb hAm hAw hBm hBw
  go_enter Try.func112, Try.ntmps112
  go_wp2_with fail
  refine HE1.out.mono ?_
  rintro e w1 ⟨u1, EA, rfl, hg1, hb1, hr1, _⟩
  have HB1 := Lib.hid hb1
  have HG1 := Lib.hid hg1.l2
  have HR1 := Lib.hid hr1
  have hal := red_length hr1.red hr1.wd
  obtain ⟨a1, c1, hv1⟩ := Sl.shape hg1.l2
  rw [List.length_map] at hv1
  subst hv1
  have hs1 : w.heap.size ≤ w1.heap.size := hb1.size
  have hba1 : Below w1.heap.size w1 (w1.alloc (.cells #[] 22)) := below_alloc1 _ _
  have HB1a := Lib.hid hba1
  have HOWN := Lib.hid (World.ownsRow_made (base := w1.heap.size) (e := 22) (size := 1) w1 #[] 0 (Nat.le_refl _) (by unfold maxLen; omega) (by simp))
  have HE2 := Lib.hid (l01Echelon_any p n va A (w1.alloc (.cells #[] 22)) HP.out (HA.out.below (hb1.trans (hba1.mono hs1))) HAM.out HAW.out (by omega) hla)
  clear hg1 hb1 hr1 hba1 HE1
  go_wp2_with fail
  refine HE2.out.mono ?_
  rintro e w2 ⟨u2, EA2, rfl, hg2, hb2, hr2, _⟩
  obtain rfl : EA2 = EA := HR1.out.unique hp1 hr2 (Lin.Eqv.refl _ _)
  have HK2 := Lib.hid (HB1a.out.trans (hb2.mono HB1a.out.size))
  have HOWN2 := Lib.hid (owns_below HOWN.out hb2)
  obtain ⟨vs1, hvs1, hrs1⟩ := hg2.rowsAt
  have HVS1 := Lib.hid hvs1
  have HRS1 := Lib.hid hrs1
  obtain ⟨a2, c2, hv2⟩ := Sl.shape hg2.l2
  rw [List.length_map] at hv2
  subst hv2
  have hlm : (EA2.map (toL n)).length = EA2.length := List.length_map _
  clear hg2 hb2 hr2 HE2 hvs1 hrs1 HOWN HB1a
  go_wp2_with (at_builtin; refine wpList_appendT rfl (some 21) rfl (.tmp 17) (.tmp 20) rfl w1.heap.size 0 _ _ [] (EA2.map (toL n)) vs1 rfl rfl HOWN2.out HVS1.out ?c1 ?c2 ?_)
  case c1 => rw [hlm]; omega
  case c2 => exact HK2.out.size
  rw [List.nil_append]
  intro v3 w3 ho3 hg3
  have HK3 : Hid (Below w1.heap.size w1 w3) := Lib.hid (HK2.out.grown hg3 HK2.out.size (fun g hg => ((World.ownsRow.lt HOWN2.out) g hg).1))
  have HOWN3 : Hid (w3.ownsRow w1.heap.size 22 1 v3 EA2.length vs1) := Lib.hid (by rw [hlm, Nat.zero_add] at ho3; exact ho3)
  have HRS3 : Hid (∀ k (h1 : k < vs1.length) (h2 : k < (EA2.map (toL n)).length), G1 w3 vs1[k] (EA2.map (toL n))[k]) := Lib.hid (fun k h1 h2 => owns_grown (HRS1.out k h1 h2) HOWN2.out (by decide) hg3)
  have HE3 := Lib.hid (l01Echelon_any p n vb B w3 HP.out (HB.out.below (HB1.out.trans (HK3.out.mono hs1))) HBM.out HBW.out (by omega) hlb)
  clear ho3 hg3 HOWN2 HVS1 HRS1 HK2
  go_wp2_with fail
  refine HE3.out.mono ?_
  rintro e w4 ⟨u4, EB, rfl, hg4, hb4, hr4, _⟩
  have HK4 := Lib.hid (HK3.out.trans (hb4.mono HK3.out.size))
  have HR4 := Lib.hid hr4
  have hbl := red_length hr4.red hr4.wd
  have HOWN4 := Lib.hid (owns_below HOWN3.out hb4)
  have HRS4 : Hid (∀ k (h1 : k < vs1.length) (h2 : k < (EA2.map (toL n)).length), G1 w4 vs1[k] (EA2.map (toL n))[k]) := Lib.hid (fun k h1 h2 => (HRS3.out k h1 h2).below hb4)
  obtain ⟨vs2, hvs2, hrs2⟩ := hg4.rowsAt
  have HVS2 := Lib.hid hvs2
  have HRS2 := Lib.hid hrs2
  obtain ⟨a4, c4, hv4⟩ := Sl.shape hg4.l2
  rw [List.length_map] at hv4
  subst hv4
  have hlm2 : (EB.map (toL n)).length = EB.length := List.length_map _
  clear hg4 hb4 hr4 HE3 hvs2 hrs2 HOWN3 HRS3 HK3
  go_wp2_with (at_builtin; refine wpList_appendT rfl (some 26) rfl (.tmp 22) (.tmp 25) rfl w1.heap.size EA2.length _ _ vs1 (EB.map (toL n)) vs2 rfl rfl HOWN4.out HVS2.out ?c1 ?c2 ?_)
  case c1 => rw [hlm2]; omega
  case c2 => exact HK4.out.size
  intro v5 w5 ho5 hg5
  have HK5 : Hid (Below w1.heap.size w1 w5) := Lib.hid (HK4.out.grown hg5 HK4.out.size (fun g hg => ((World.ownsRow.lt HOWN4.out) g hg).1))
  have HL5 : Hid (L2 0 w5 v5 ((EA2 ++ EB).map (toL n))) := Lib.hid (by
    rw [List.map_append]
    have hvl1 : vs1.length = EA2.length := by have := HOWN4.out.1; omega
    have hvl2 := HVS2.out.len
    refine sl_of_owns ho5 (Nat.zero_le _) (by simp) (fun k h1 h2 => ?_)
    by_cases e : k < vs1.length
    · rw [List.getElem_append_left e, List.getElem_append_left (by omega)]
      exact G1.l1 (owns_grown (HRS4.out k e (by omega)) HOWN4.out (by decide) hg5)
    · rw [List.getElem_append_right (by omega), List.getElem_append_right (by omega)]
      have h3 : k - vs1.length < vs2.length := by rw [List.length_append] at h2; omega
      have := G1.l1 (owns_grown (HRS2.out (k - vs1.length) h3 (by omega)) HOWN4.out (by decide) hg5)
      simpa [hvl1] using this)
  clear ho5 hg5 HOWN4 HVS2 HRS2 HRS4 HK4
  have HG5 := Lib.hid (HG1.out.below HK5.out)
  obtain ⟨N, hN⟩ : ∃ N, N = (EA2 ++ EB).length := ⟨_, rfl⟩
  have HN := Lib.hid hN
  have hNl : Hid (N = EA2.length + EB.length) := Lib.hid (by rw [hN, List.length_append])
  have hN1 : EA2.length ≤ N := by have := hNl.out; omega
  have hN2 : N ≤ 80 := by have := hNl.out; omega
  obtain ⟨a5, c5, hv5⟩ := Sl.shape HL5.out
  rw [List.length_map, ← hN] at hv5
  subst hv5
  have HTR : Hid (∀ r ∈ (EA2 ++ EB).map (toL n), RowOk p (n : Int) r) := Lib.hid (fun r hr => by
    obtain ⟨u, hu, rfl⟩ := List.mem_map.1 hr
    have hm : Lin.Md p u := by
      rcases List.mem_append.1 hu with h | h
      · exact HR1.out.red.md u h
      · exact HR4.out.red.md u h
    refine ⟨by rw [toL_length], fun x hx => ?_⟩
    obtain ⟨i, _, rfl⟩ := List.mem_map.1 hx
    have := hm i
    omega)
  have HKER := Lib.hid (l01Kernel_any p N n (.slice a5 N c5) ((EA2 ++ EB).map (toL n)) w5 HP.out HL5.out (by rw [List.length_map, HN.out]) HTR.out (by omega) (by omega))
  clear hN
  go_wp2_with fail
  refine HKER.out.mono ?_
  rintro e w6 ⟨u6, SS, rfl, hg6, hb6, hs6⟩
  have HK6 := Lib.hid (HK5.out.trans (hb6.mono HK5.out.size))
  have HG6 := Lib.hid hg6
  have HEA6 := Lib.hid (HG5.out.below hb6)
  have HSS := Lib.hid hs6
  have hsl := hs6.short
  obtain ⟨a6, c6, hv6⟩ := Sl.shape hg6.l2
  rw [List.length_map] at hv6
  subst hv6
  have hw6 : w.heap.size ≤ w6.heap.size := Nat.le_trans hs1 HK6.out.size
  have HW6 := Lib.hid (HB1.out.trans (HK6.out.mono hs1))
  have HOWN6 := Lib.hid (World.ownsRow_made (base := w6.heap.size) (e := 22) (size := 1) w6 #[] 0 (Nat.le_refl _) (by unfold maxLen; omega) (by simp))
  obtain ⟨f, hf⟩ : ∃ f : Lin.V → Lin.V, f = fun s => img p EA2.length (rowsV EA2) s := ⟨_, rfl⟩
  have HF := Lib.hid hf
  clear hg6 hb6 hs6 HKER HG5 HL5 hf hlm hlm2
  go_wp2
  go_loopw [12, 13] (fun ov i wr => ∃ (k : Nat), k ≤ SS.length ∧ i = .int .i64 k ∧ Hid (Below w6.heap.size w6 wr) ∧ Hid (Gs w6.heap.size wr ov (((SS.take k).map f).map (toL n)))) (fun _ i _ => SS.length - (intOf i).toNat)
  case atStart => exact ⟨0, Nat.zero_le _, rfl, Lib.hid (below_alloc1 _ _), Lib.hid ⟨[], by simpa using HOWN6.out, fun k h1 _ => absurd h1 (Nat.not_lt_zero _)⟩⟩
  case round =>
    clear HOWN6
    obtain ⟨k, hk, rfl, HBX, HGO⟩ := hrel
    obtain ⟨wy, hwy⟩ : ∃ wy : World, wy = wr := ⟨_, rfl⟩
    subst hwy
    have hsy : w6.heap.size ≤ wy.heap.size := HBX.out.size
    obtain ⟨ao, co, hov⟩ := Sl.shape HGO.out.l2
    rw [List.length_map, List.length_map, List.length_take, Nat.min_eq_left hk] at hov
    subst hov
    by_cases hlt : k < SS.length
    · obtain ⟨s, hs⟩ : ∃ s, s = SS[k] := ⟨_, rfl⟩
      have HSE : Hid (SS.take (k + 1) = SS.take k ++ [s]) := Lib.hid (by rw [hs]; exact List.take_succ_eq_append_getElem hlt)
      have HSM : Hid (Lin.Md p s) := Lib.hid (by rw [hs]; exact HSS.out.1.md _ (List.getElem_mem hlt))
      have hN0 : 0 < N := by omega
      obtain ⟨b, c2, hvv, g, cy, hcy, hcap, hrow⟩ := HG6.out.row (k := k) (by rw [List.length_map]; exact hlt) (by rw [List.getElem_map, toL_length]; exact hN0)
      rw [List.getElem_map, toL_length, ← hs] at hrow
      rw [List.getElem_map, toL_length] at hcy hcap
      rw [List.length_map] at hvv
      obtain ⟨rfl, rfl⟩ : a6 = some ⟨b, 0, none⟩ ∧ c6 = c2 := by simpa using hvv
      have hcy2 := later HBX.out (Nat.le_refl _) hcy
      obtain ⟨g3, o3, cy3, huv, hcells⟩ := l1_toL hrow.l1 hN0
      obtain ⟨rfl, rfl, rfl⟩ : g = g3 ∧ o3 = 0 ∧ cy = cy3 := by
        injection huv with e1 _ e3
        injection e1 with e1
        injection e1 with e1 e2
        exact ⟨e1, e2.symm, e3⟩
      have HHEAD : Hid (L1 0 w6 (.slice (some ⟨g, 0, none⟩) EA2.length cy) (toL EA2.length s)) := Lib.hid (by
        by_cases h0 : EA2.length = 0
        · rw [h0]
          exact Or.inl ⟨rfl, _, _, rfl⟩
        · exact Or.inr ⟨g, 0, cy, by rw [toL_length], Nat.zero_le _, by rw [toL_length]; omega, fun i hi => by
            rw [toL_length] at hi
            exact ⟨_, hcells i (by omega), by rw [toL_get]; rfl⟩⟩)
      have HOK : Hid (ApOk p n (toL EA2.length s) (EA2.map (toL n))) := Lib.hid ⟨HP.out, by rw [toL_length, List.length_map]; exact Nat.le_refl _, fun x hx => by
        obtain ⟨i, _, rfl⟩ := List.mem_map.1 hx
        have := HSM.out i
        omega, fun r hr => HTR.out r (by rw [List.map_append]; exact List.mem_append_left _ hr)⟩
      have HAP := Lib.hid (l01ApplyG_any p n _ _ (toL EA2.length s) (EA2.map (toL n)) wy HOK.out (HHEAD.out.below HBX.out) (HEA6.out.below HBX.out) (by rw [toL_length]; omega) (by omega))
      have hcap1 : (EA2.length : Int) ≤ (cy : Int) := by omega
      have hcap2 : EA2.length ≤ cy := by omega
      have h0a : (0 : Int) ≤ (EA2.length : Int) := by omega
      clear hs hvv hcy hrow huv hcells hcap
      go_wp2_with fail
      refine HAP.out.mono ?_
      rintro e w7 ⟨u7, rfl, hg7, hb7⟩
      have hg7' : G1 w7 u7 (toL n (f s)) := by
        have h := hg7
        rw [apT_img HOK.out rfl] at h
        rw [HF.out]
        exact h
      obtain ⟨a7, c7, hv7⟩ := l1_slice hg7'.l1
      subst hv7
      have hba : Below w7.heap.size w7 (w7.alloc (.cells #[.slice a7 n c7] 22)) := below_alloc1 _ _
      have HG7 := Lib.hid (hg7'.below hba)
      have HGO7 := Lib.hid ((HGO.out.below hb7).below hba)
      have hcell7 := cell_alloc1 w7 (.slice a7 n c7) 22
      have hs7 : wy.heap.size ≤ w7.heap.size := hb7.size
      have HB7 := Lib.hid ((HBX.out.trans (hb7.mono hsy)).trans (hba.mono (show w6.heap.size ≤ w7.heap.size by omega)))
      clear hg7 hg7' hb7 hba HAP hcy2 hcap1 hcap2 h0a
      go_wp2_with (at_builtin; refine wpList_appendG rfl (some 52) rfl (.tmp 39) (.tmp 51) rfl w6.heap.size _ (((SS.take k).map f).map (toL n)) rfl HGO7.out w7.heap.size rfl a7 n c7 hcell7 _ HG7.out ?c1 ?c2 ?_)
      case c1 => rw [List.length_map, List.length_map, List.length_take]; omega
      case c2 => simp; omega
      intro v8 w8 hg8 hgr8
      have HG8 : Hid (Gs w6.heap.size w8 v8 (((SS.take (k + 1)).map f).map (toL n))) := Lib.hid (by
        rw [HSE.out, List.map_append, List.map_append]
        exact hg8)
      have HB8 : Hid (Below w6.heap.size w6 w8) := Lib.hid (HB7.out.grown hgr8 (by simp; omega) (fun g hg => (HGO7.out.lt g hg).1))
      clear hg8 hgr8 hcell7
      go_wp2
      go_roundw
      case rel => exact ⟨k + 1, by omega, by go_num, HB8, HG8⟩
      case measure => simp [intOf]; omega
    · have hkk : Hid (SS.take k = SS) := Lib.hid (List.take_of_length_le (by omega))
      have HFM : Hid (∀ x ∈ (SS.take k).map f, Lin.Md p x) := Lib.hid (fun x hx => by
        obtain ⟨s, _, rfl⟩ := List.mem_map.1 hx
        rw [HF.out]
        exact img_md (by omega) _ _ _)
      have HFW : Hid (∀ x ∈ (SS.take k).map f, Lin.Wd n x) := Lib.hid (fun x hx => by
        obtain ⟨s, _, rfl⟩ := List.mem_map.1 hx
        rw [HF.out]
        exact img_wd HR1.out.wd s)
      have HECH := Lib.hid (l01Echelon_any p n (.slice ao k co) ((SS.take k).map f) wy HP.out HGO.out.l2 HFM.out HFW.out (by omega) (by rw [List.length_map, List.length_take]; omega))
      go_wp2_with fail
      refine HECH.out.mono ?_
      rintro e w9 ⟨u9, R, rfl, hg9, hb9, hr9, _⟩
      have HW9 := Lib.hid (HW6.out.trans ((HBX.out.trans (hb9.mono hsy)).mono hw6))
      have HG9 := Lib.hid (hg9.mono (show w.heap.size ≤ wy.heap.size by omega))
      have HR9 := Lib.hid hr9
      clear hg9 hb9 hr9 HECH
      go_wp2
      go_ret
      refine ⟨_, R, rfl, HG9.out, HW9.out, HR9.out.red, HR9.out.wd, fun x => ?_⟩
      rw [HR9.out.eqv x, hkk.out]
      have hss := HSS.out
      rw [HN.out] at hss
      rw [meet_span hp1 HR1.out.red HR4.out.red HR1.out.wd HR4.out.wd hss (O := SS.map f) (fun y => by
        rw [HF.out]
        simp only [List.mem_map]
        exact ⟨fun ⟨s, h1, h2⟩ => ⟨s, h1, h2.symm⟩, fun ⟨s, h1, h2⟩ => ⟨s, h1, h2.symm⟩⟩) x]
      exact and_congr (HR1.out.eqv x) (HR4.out.eqv x)

set_option maxHeartbeats 1600000 in
theorem spMeetOfSpaces_any (p n : Int) (va vb : Value) (a b : List (List Int)) (w : World) (ha : L2 0 w va a) (hb : L2 0 w vb b) (hma : Bd2 1048576 a) (hmb : Bd2 1048576 b) :
    Calls Try.prog 54 #[.int .i64 p, .int .i64 n, va, vb] w (SpS p n.toNat (MeetS p (a.map ofL) (b.map ofL)) (spsCode p n [a, b]) w) := by
  obtain ⟨ada, capa, rfl⟩ := Sl.shape ha
  obtain ⟨adb, capb, rfl⟩ := Sl.shape hb
  have hba := below_alloc1 w (.cells #[.slice ada a.length capa, .slice adb b.length capb] 41)
  have HB := Lib.hid hba
  have HL : Hid (L3 0 (w.alloc (.cells #[.slice ada a.length capa, .slice adb b.length capb] 41)) (.slice (some ⟨w.heap.size, 0, none⟩) 2 2) [a, b]) := Lib.hid (Or.inr ⟨w.heap.size, 0, 2, rfl, Nat.zero_le _, by simp, fun k hk => by
    match k, hk with
    | 0, _ => exact ⟨.slice ada a.length capa, by unfold World.cell?; rw [heap_alloc_new w _]; rfl, ha.below hba⟩
    | 1, _ => exact ⟨.slice adb b.length capb, by unfold World.cell?; rw [heap_alloc_new w _]; rfl, hb.below hba⟩⟩)
  have HVA := Lib.hid (ha.below hba)
  have HVB := Lib.hid (hb.below hba)
  have HM : Hid (Bd3 1048576 [a, b]) := Lib.hid ⟨by simp, fun r hr => by
    rcases List.mem_cons.1 hr with rfl | hr
    · exact hma
    · rw [List.mem_singleton.1 hr]; exact hmb⟩
  clear ha hb hma hmb hba
  have HSP := Lib.hid (l01Spaces_any p n _ [a, b] _ HL.out HM.out)
  by_cases hok : SpsOk p n [a, b]
  · have HOK := Lib.hid (spsTwo.1 hok)
    have HSO := Lib.hid hok
    have hn := HOK.out.1.2.1
    have hla := HOK.out.1.2.2.1
    have hlb := HOK.out.2.2.2.1
    obtain ⟨n, rfl⟩ := Int.eq_ofNat_of_zero_le hn.1
    have hn40 : n ≤ 40 := by omega
    clear hok hn
    go_enter Try.func54, Try.ntmps54
    go_wp2_with fail
    refine HSP.out.mono ?_
    rintro e w1 ⟨rfl, hb1⟩
    rw [spsCode_ok HSO.out]
    have HB1 := Lib.hid (HB.out.trans (hb1.mono (by simp)))
    have HVA1 := Lib.hid (HVA.out.below hb1)
    have HVB1 := Lib.hid (HVB.out.below hb1)
    clear hb1 HSP
    have HTA := Lib.hid (rows_toL (n := n) (fun r hr => HOK.out.1.row hr))
    have HTB := Lib.hid (rows_toL (n := n) (fun r hr => HOK.out.2.row hr))
    go_wp2_with fail
    refine (l01Meet_any p n _ _ (a.map ofL) (b.map ofL) w1 HOK.out.1.1 hn40 (by rw [HTA.out]; exact HVA1.out) (by rw [HTB.out]; exact HVB1.out) HOK.out.1.md (fun u hu => by simpa using HOK.out.1.wd u hu) HOK.out.2.md (fun u hu => by simpa using HOK.out.2.wd u hu) (by rw [List.length_map]; omega) (by rw [List.length_map]; omega)).mono ?_
    rintro e w2 ⟨u2, R, rfl, hg2, hb2, hr2⟩
    have HG2 := Lib.hid hg2.l2
    have HB2 := Lib.hid (HB1.out.trans (hb2.mono HB1.out.size))
    have HR2 := Lib.hid hr2
    clear hg2 hb2 hr2
    go_wp2
    go_ret2
    refine ⟨u2, R.map (toL n), 0, rfl, HG2.out, HB2.out, ?_⟩
    rw [spsCode_ok HSO.out]
    have hh := HR2.out
    exact ⟨fun _ => ⟨R, hh.1, hh.2.1, hh.2.2, rfl⟩, fun hh => absurd rfl hh, rfl⟩
  · have HNO := Lib.hid hok
    clear hok
    go_enter Try.func54, Try.ntmps54
    go_wp2_with fail
    refine HSP.out.mono ?_
    rintro e w1 ⟨rfl, hb1⟩
    rw [spsCode_no HNO.out]
    have HB1 := Lib.hid (HB.out.trans (hb1.mono (by simp)))
    clear hb1 HSP
    go_wp2
    go_ret2
    refine ⟨_, [], 2, rfl, nil2 _, HB1.out, ?_⟩
    rw [spsCode_no HNO.out]
    exact SpOut.of_no (by decide)

end Go.Proofs.Ytpdkfidmmjlmnaa
