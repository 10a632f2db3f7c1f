/-
  ZeroFamily of both sides by contracts.
-/
import Derived.Test.YtpdkfidmmjlmnaaRw
import Derived.Test.YtpdkfidmmjlmnaaGt
import Derived.Test.YtpdkfidmmjlmnaaEnd
import Derived.Test.YtpdkfidmmjlmnaaEnb
namespace Go.Proofs.Ytpdkfidmmjlmnaa
open Go.RowKit

def zeroT (r c : Nat) : List (List Int) := tableOf r c fun _ _ => 0
/-- The family of zeros. -/
def zeroAt (ds ds2 : List Int) (s : Int) (n : Nat) : List (List Int) := zeroT (ds.getD n 0).toNat (dimZ ds2 ((n : Int) + s)).toNat
def zeroF (ds ds2 : List Int) (s : Int) (m : Nat) : List (List (List Int)) := (List.range m).map (zeroAt ds ds2 s)
theorem zeroF_length (ds ds2 : List Int) (s : Int) (m : Nat) : (zeroF ds ds2 s m).length = m := by simp [zeroF]
theorem zeroF_at (ds ds2 : List Int) (s : Int) {m k : Nat} (h : k < m) : (zeroF ds ds2 s m)[k]'(by rw [zeroF_length]; exact h) = zeroAt ds ds2 s k := by simp [zeroF]
theorem zeroF_succ (ds ds2 : List Int) (s : Int) (m : Nat) : zeroF ds ds2 s (m + 1) = zeroF ds ds2 s m ++ [zeroAt ds ds2 s m] := by simp [zeroF, List.range_succ]
theorem zeroT_rows (r c : Nat) : zeroT r c = List.replicate r (List.replicate c 0) := by
  simp [zeroT, tableOf, List.map_const']
theorem dimZ_8 {p : Int} {ds : List Int} {ms : List (List (List Int))} (h : IsCx p ds ms) (n : Int) : 0 ≤ dimZ ds n ∧ dimZ ds n ≤ 8 := by
  unfold dimZ
  by_cases hr : 0 ≤ n ∧ n ≤ (ds.length : Int) - 1
  · rw [if_pos hr]
    exact h.1.dim _
  · rw [if_neg hr]
    omega
theorem zeroF_bd {p p2 : Int} {ds : List Int} {ms : List (List (List Int))} {ds2 : List Int} {ms2 : List (List (List Int))} (h : IsCx p ds ms) (h2 : IsCx p2 ds2 ms2) (s : Int) : Bd3 1048576 (zeroF ds ds2 s ds.length) := by
  have h1 := h.1.len1
  refine ⟨by rw [zeroF_length]; omega, fun t ht => ?_⟩
  obtain ⟨n, hn, rfl⟩ := List.mem_map.1 ht
  have hd8 := h.1.dim n
  have hd9 := dimZ_8 h2 ((n : Int) + s)
  unfold zeroAt
  rw [zeroT_rows]
  refine ⟨by rw [List.length_replicate]; omega, fun r hr => ?_⟩
  rw [(List.mem_replicate.1 hr).2]
  simp only [Bd1, List.length_replicate]
  omega
open Classical in
noncomputable def zfCode (p p2 s : Int) (ds : List Int) (ms : List (List (List Int))) (ds2 : List Int) (ms2 : List (List (List Int))) : Int := if endCode p p2 ds ms ds2 ms2 = 0 then (if 0 ≤ s ∧ s ≤ 1 then 0 else 2) else endCode p p2 ds ms ds2 ms2
theorem zfCode_zero {p p2 s : Int} {ds : List Int} {ms : List (List (List Int))} {ds2 : List Int} {ms2 : List (List (List Int))} (h : zfCode p p2 s ds ms ds2 ms2 = 0) : EndOk p p2 ds ms ds2 ms2 ∧ 0 ≤ s ∧ s ≤ 1 := by
  unfold zfCode at h
  by_cases h0 : endCode p p2 ds ms ds2 ms2 = 0
  · rw [if_pos h0] at h
    by_cases h1 : 0 ≤ s ∧ s ≤ 1
    · exact ⟨endCode_zero h0, h1⟩
    · rw [if_neg h1] at h
      cases h
  · rw [if_neg h0] at h
    exact absurd h h0
def Fam3R (out : List (List (List Int))) (w : World) (e : Ending) (w' : World) : Prop := ∃ u, e = .returned u ∧ Rw3 w.heap.size w'.heap.size w' u out ∧ Below w.heap.size w w'
def Fam3D (n : Nat) (out : List (List (List Int))) (w : World) (e : Ending) (w' : World) : Prop := ∃ g, e = .returned (.slice (some ⟨g, 0, none⟩) n n) ∧ w.heap.size ≤ g ∧ Rw3 w.heap.size w'.heap.size w' (.slice (some ⟨g, 0, none⟩) n n) out ∧ Below w.heap.size w w'
theorem Fam3D.r {n : Nat} {out : List (List (List Int))} {w : World} {e : Ending} {w' : World} (h : Fam3D n out w e w') : Fam3R out w e w' := by
  obtain ⟨g, he, _, hr, hb⟩ := h
  exact ⟨_, he, hr, hb⟩
def Gt3R (out : List (List (List Int))) (w : World) (e : Ending) (w' : World) : Prop := ∃ u, e = .returned u ∧ Gt w.heap.size w' u out ∧ Below w.heap.size w w'

/-- Dimensions of at most six degrees, each at most 8. -/
structure DsOk (ds : List Int) : Prop where
  len1 : ds.length ≤ 6
  dims : ∀ d ∈ ds, 0 ≤ d ∧ d ≤ 8
theorem DsOk.dim {ds : List Int} (h : DsOk ds) (k : Nat) : 0 ≤ ds.getD k 0 ∧ ds.getD k 0 ≤ 8 := by
  by_cases e : k < ds.length
  · rw [getD_of_lt _ e]
    exact h.dims _ (List.getElem_mem e)
  · rw [List.getD_eq_getElem?_getD, List.getElem?_eq_none (by omega)]
    simp
theorem DsOk.dimZ {ds : List Int} (h : DsOk ds) (n : Int) : 0 ≤ dimZ ds n ∧ dimZ ds n ≤ 8 := by
  unfold Go.Proofs.Ytpdkfidmmjlmnaa.dimZ
  by_cases hr : 0 ≤ n ∧ n ≤ (ds.length : Int) - 1
  · rw [if_pos hr]
    exact h.dim _
  · rw [if_neg hr]
    omega
theorem IsCx.dsOk {p : Int} {ds : List Int} {ms : List (List (List Int))} (h : IsCx p ds ms) : DsOk ds := ⟨h.1.len1, h.1.dims⟩

set_option maxHeartbeats 3200000 in
set_option maxRecDepth 100000 in
theorem zeroFamilyD_any (p p2 s : Int) (dv mv dv2 mv2 : Value) (ds : List Int) (ms : List (List (List Int))) (ds2 : List Int) (ms2 : List (List (List Int))) (w : World) (h : Cx 0 w dv mv ds ms) (h2 : Cx 0 w dv2 mv2 ds2 ms2) (hcx : DsOk ds) (hcy : DsOk ds2) (hs : -1 ≤ s ∧ s ≤ 2) :
    Calls Try.prog 143 #[.agg #[.int .i64 p, dv, mv], .agg #[.int .i64 p2, dv2, mv2], .int .i64 s] w (Fam3D ds.length (zeroF ds ds2 s ds.length) w) := by
  obtain ⟨ad, cap, rfl⟩ := Sl.shape h.dims
  obtain ⟨am, capm, rfl⟩ := Sl.shape h.maps
  obtain ⟨ad2, cap2, rfl⟩ := Sl.shape h2.dims
  obtain ⟨am2, capm2, rfl⟩ := Sl.shape h2.maps
  obtain ⟨k1, k2⟩ := bx_two (p := p) (p2 := p2) 28 h h2
  have HX0 := Lib.hid k1
  have HY0 := Lib.hid k2
  have HCX := Lib.hid hcx
  have HCY := Lib.hid hcy
  have hl6 := hcx.len1
  have hl7 := hcy.len1
  obtain ⟨hs0, hs1⟩ := hs
  have hmk := run_make_row' (P := Try.prog) 23 41 (.slice none 0 0) 24 Try.underlying23 Try.infoSS rfl .i64 .i64 ds.length (by omega) (by omega)
  obtain ⟨w1, hw1⟩ : ∃ w1, w1 = ((w.alloc (.cells #[.int .i64 p, .slice ad ds.length cap, .slice am ms.length capm] 28)).alloc (.cells #[.int .i64 p2, .slice ad2 ds2.length cap2, .slice am2 ms2.length capm2] 28)) := ⟨_, rfl⟩
  rw [← hw1] at HX0 HY0
  have c0 := HX0.out.c0
  have c1 := HX0.out.c1
  have c2 := HX0.out.c2
  have hs1w : w.heap.size < w1.heap.size := HX0.out.lt
  clear h h2 k1 k2 hcx hcy
  go_enter Try.func143, Try.ntmps143
  go_upto_region 1 with fail
  rw [← hw1]
  clear hw1
  go_wp2
  clear hmk c0 c1 c2
  go_loopw [17] (fun i wr => ∃ (k : Nat) (f : Nat → Value) (b : Nat → Nat), k ≤ ds.length ∧ i = .int .i64 k ∧ Hid (Below w1.heap.size w1 wr) ∧ Hid (Fill3 wr w1.heap.size ds.length k f b (zeroF ds ds2 s ds.length))) (fun i _ => ds.length - (intOf i).toNat)
  case atStart => exact ⟨0, _, _, Nat.zero_le _, rfl, Lib.hid (below_alloc1 _ _), Lib.hid (Fill3.start (World.rowIs_made w1 _ _ _) (by simp) _)⟩
  case round =>
    obtain ⟨k, f, b, hk, rfl, HB, HF⟩ := hrel
    obtain ⟨wx, hwx⟩ : ∃ wx : World, wx = wr := ⟨_, rfl⟩
    subst hwx
    by_cases hlt : k < ds.length
    · have hX := HX0.out.next HB.out
      have hY := HY0.out.next HB.out
      have HYY := Lib.hid hY
      have hcx0 := hX.cx
      have d0 := hY.c0
      have d1 := hY.c1
      have d2 := hY.c2
      have hdim := HCX.out.dim k
      obtain ⟨c, hc⟩ := Int.eq_ofNat_of_zero_le hdim.1
      have hc8 : c ≤ 8 := by omega
      have hz := HCY.out.dimZ ((k : Int) + s)
      obtain ⟨c2, hc2⟩ := Int.eq_ofNat_of_zero_le hz.1
      have hc28 : c2 ≤ 8 := by omega
      refine Sl.cases hcx0.dims (fun _ _ hx _ => absurd hlt (by simp [hx])) (fun bd od capd hvd _ _ hcl => ?_)
      injection hvd with e1 e2 e3
      clear e2
      subst e1 e3
      obtain ⟨u, hu, hru⟩ := hcl k hlt
      have hu2 : wx.cell? ⟨bd, od + k, none⟩ = some (.int .i64 (c : Int)) := by rw [hu, hru, ← hc, getD_of_lt _ hlt]
      have HT : Hid ((zeroF ds ds2 s ds.length)[k]'(by rw [zeroF_length]; exact hlt) = tableOf c c2 fun _ _ => 0) := Lib.hid (by
        rw [zeroF_at ds ds2 s hlt, zeroAt, hc, hc2]
        rfl)
      have HDA : Hid (∀ W, Below wx.heap.size wx W → Calls Try.prog 117 #[.agg #[.int .i64 p2, .slice ad2 ds2.length cap2, .slice am2 ms2.length capm2], .int .i64 ((k : Int) + s)] W (BR (.int .i64 (c2 : Int)) W)) := Lib.hid (fun W h => by
        have := dimAt_any p2 ((k : Int) + s) _ _ ds2 ms2 W (HYY.out.next h).cx (by omega)
        rwa [hc2] at this)
      have hrow := HF.out.row.cell hlt
      have hfro := HF.out.row.frozen k
      have hlr := HF.out.row.lt
      clear hu hru hcl hcx0 hX hY hdim hc hz hc2
      go_wp2_with fail
      refine (HDA.out _ (Below.refl _ _)).mono ?_
      rintro e w2 ⟨rfl, hb2⟩
      have HB2 := Lib.hid (HB.out.trans (hb2.mono HB.out.size))
      have HF2 := Lib.hid (HF.out.below hb2)
      have hrow2 := HF2.out.row.cell hlt
      have hfro2 := HF2.out.row.frozen k
      have hlr2 := HF2.out.row.lt
      clear hb2 hrow hfro hu2 HDA d0 d1 d2 hlr
      go_wp2_with fail
      refine (zeroTable_any c c2 _ (by omega) (by omega)).mono ?_
      rintro e w3 ⟨rfl, hm3⟩
      have HB3 := Lib.hid (HB2.out.trans (hm3.below.mono HB2.out.size))
      have HS3 := Lib.hid (HF2.out.step hm3.below (by rw [zeroF_length]; exact hlt) (by rw [HT.out]; exact hm3.rw2 (Nat.le_refl _) (by omega) (by omega)))
      have hrow3 := later hm3.below (Nat.le_refl _) hrow2
      have hfro3 : w3.frozen? ⟨w1.heap.size, k, none⟩ = false := (HF2.out.row.of_block (hm3.below.block _ hlr2)).frozen k
      have HB4 : Hid (Below w1.heap.size w1 (w3.setCell ⟨w1.heap.size, k, none⟩ (.slice (some ⟨w2.heap.size, 0, none⟩) c c))) := Lib.hid (HB3.out.setCell (Nat.le_refl _) _)
      clear hm3 hrow2 hfro2 HT
      go_wp2
      go_roundw
      case rel => exact ⟨k + 1, _, _, by omega, by go_num, HB4, HS3⟩
      case measure => simp [intOf]; omega
    · have HKE : Hid (k = ds.length) := Lib.hid (by omega)
      have HXX := Lib.hid (HX0.out.next HB.out)
      go_wp2
      go_ret
      have hf := HF.out
      rw [HKE.out] at hf
      exact ⟨w1.heap.size, rfl, Nat.le_of_lt hs1w, (hf.rw3 (by rw [zeroF_length]) (by omega)).wider (Nat.le_of_lt hs1w) (Nat.le_refl _), HXX.out.below⟩

theorem zeroFamily_any (p p2 s : Int) (dv mv dv2 mv2 : Value) (ds : List Int) (ms : List (List (List Int))) (ds2 : List Int) (ms2 : List (List (List Int))) (w : World) (h : Cx 0 w dv mv ds ms) (h2 : Cx 0 w dv2 mv2 ds2 ms2) (hcx : IsCx p ds ms) (hcy : IsCx p2 ds2 ms2) (hs : -1 ≤ s ∧ s ≤ 1) :
    Calls Try.prog 143 #[.agg #[.int .i64 p, dv, mv], .agg #[.int .i64 p2, dv2, mv2], .int .i64 s] w (Fam3R (zeroF ds ds2 s ds.length) w) := (zeroFamilyD_any p p2 s dv mv dv2 mv2 ds ms ds2 ms2 w h h2 hcx.dsOk hcy.dsOk ⟨hs.1, by have := hs.2; omega⟩).mono fun _ _ h => h.r

set_option maxHeartbeats 3200000 in
set_option maxRecDepth 100000 in
theorem zeroFamilyOf_any (p p2 s : Int) (dv mv dv2 mv2 : Value) (ds : List Int) (ms : List (List (List Int))) (ds2 : List Int) (ms2 : List (List (List Int))) (w : World) (h : Cx 0 w dv mv ds ms) (h2 : Cx 0 w dv2 mv2 ds2 ms2) (hd : ds.length ≤ 1048576) (hm : Bd3 1048576 ms) (hd2 : ds2.length ≤ 1048576) (hm2 : Bd3 1048576 ms2) :
    Calls Try.prog 77 #[.agg #[.int .i64 p, dv, mv], .agg #[.int .i64 p2, dv2, mv2], .int .i64 s] w (AnsW Rw3 (fun out => out = zeroF ds ds2 s ds.length) [] (zfCode p p2 s ds ms ds2 ms2) w) := by
  obtain ⟨ad, cap, rfl⟩ := Sl.shape h.dims
  obtain ⟨am, capm, rfl⟩ := Sl.shape h.maps
  obtain ⟨ad2, cap2, rfl⟩ := Sl.shape h2.dims
  obtain ⟨am2, capm2, rfl⟩ := Sl.shape h2.maps
  obtain ⟨k1, k2⟩ := bx_two (p := p) (p2 := p2) 28 h h2
  have HX0 := Lib.hid k1
  have HY0 := Lib.hid k2
  have HM := Lib.hid hm
  have HM2 := Lib.hid hm2
  obtain ⟨w1, hw1⟩ : ∃ w1, w1 = ((w.alloc (.cells #[.int .i64 p, .slice ad ds.length cap, .slice am ms.length capm] 28)).alloc (.cells #[.int .i64 p2, .slice ad2 ds2.length cap2, .slice am2 ms2.length capm2] 28)) := ⟨_, rfl⟩
  rw [← hw1] at HX0 HY0
  have c0 := HX0.out.c0
  have c1 := HX0.out.c1
  have c2 := HX0.out.c2
  have d0 := HY0.out.c0
  have d1 := HY0.out.c1
  have d2 := HY0.out.c2
  obtain ⟨w2, hw2⟩ : ∃ w2, w2 = w1.alloc (.cells #[.int .i64 p, .slice ad ds.length cap, .slice am ms.length capm, .int .i64 p2, .slice ad2 ds2.length cap2, .slice am2 ms2.length capm2] 28) := ⟨_, rfl⟩
  have hr2 : Row2 w2 w1.heap.size p p2 (.slice ad ds.length cap) (.slice am ms.length capm) (.slice ad2 ds2.length cap2) (.slice am2 ms2.length capm2) := by
    rw [hw2]
    exact ⟨by simp, by simp, by simp, by simp, by simp, by simp⟩
  have hb2 : Below w1.heap.size w1 w2 := by rw [hw2]; exact below_alloc1 _ _
  have HX2 := Lib.hid (HX0.out.next hb2)
  have HY2 := Lib.hid (HY0.out.next hb2)
  have HCK := Lib.hid (checkEnds2_any p p2 w1.heap.size _ _ _ _ ds ms ds2 ms2 w2 hr2 HX2.out.cx HY2.out.cx hd hm hd2 hm2)
  obtain ⟨ec, hec⟩ : ∃ ec, ec = endCode p p2 ds ms ds2 ms2 := ⟨_, rfl⟩
  rw [← hec] at HCK
  have HEC := Lib.hid hec
  clear h h2 hm hm2 k1 k2 hr2 hb2 hec
  go_enter Try.func77, Try.ntmps77
  go_upto_region 1 with fail
  rw [← hw1]
  clear hw1
  go_wp2_with fail
  rw [← hw2]
  clear hw2
  refine HCK.out.mono ?_
  rintro e w3 ⟨rfl, hb3⟩
  have HX3 := Lib.hid (HX2.out.next hb3)
  have HY3 := Lib.hid (HY2.out.next hb3)
  clear hb3 c0 c1 c2 d0 d1 d2 HX0 HY0 HX2 HY2 HCK
  by_cases h0 : ec = 0
  · subst h0
    by_cases hs : 0 ≤ s ∧ s ≤ 1
    · obtain ⟨hE⟩ : Nonempty (EndOk p p2 ds ms ds2 ms2) := ⟨endCode_zero HEC.out.symm⟩
      have HZ := Lib.hid (zeroFamily_any p p2 s _ _ _ _ ds ms ds2 ms2 w3 HX3.out.cx HY3.out.cx hE.x hE.y ⟨by omega, by omega⟩)
      have HS := Lib.hid hs
      have HC0 : Hid (zfCode p p2 s ds ms ds2 ms2 = 0) := Lib.hid (by unfold zfCode; rw [if_pos HEC.out.symm, if_pos hs])
      have c0 := HX3.out.c0
      have c1 := HX3.out.c1
      have c2 := HX3.out.c2
      have d0 := HY3.out.c0
      have d1 := HY3.out.c1
      have d2 := HY3.out.c2
      clear hs hE
      go_wp2_with fail
      refine (in_yes HS.out _).mono ?_
      rintro e w' ⟨rfl, rfl⟩
      go_wp2_with fail
      refine HZ.out.mono ?_
      rintro e w4 ⟨u, rfl, hrw, hb4⟩
      have HR := Lib.hid hrw
      have HX4 := Lib.hid (HX3.out.next hb4)
      have hs3 := HX3.out.below.size
      clear hrw hb4 c0 c1 c2 d0 d1 d2 HZ
      go_wp2
      go_ret2
      exact ⟨u, _, 0, rfl, HR.out.wider hs3 (Nat.le_refl _), HX4.out.below, RsOut.of_yes HC0.out rfl⟩
    · have HS := Lib.hid hs
      have HC0 : Hid (zfCode p p2 s ds ms ds2 ms2 = 2) := Lib.hid (by unfold zfCode; rw [if_pos HEC.out.symm, if_neg hs])
      clear hs
      go_wp2_with fail
      refine (in_no HS.out _).mono ?_
      rintro e w' ⟨rfl, rfl⟩
      go_wp2
      go_ret2
      refine ⟨_, [], 2, rfl, Rw3.nil _ _ _, HX3.out.below, ?_⟩
      rw [HC0.out]
      exact RsOut.of_no (by decide)
  · have hne2 : (ec != 0) = true := by simp [h0]
    have hne3 : (ec == 0) = false := by simp [h0]
    have HNE := Lib.hid h0
    have HC0 : Hid (zfCode p p2 s ds ms ds2 ms2 = ec) := Lib.hid (by unfold zfCode; rw [← HEC.out, if_neg h0])
    clear h0
    go_wp2
    go_ret2
    refine ⟨_, [], ec, rfl, Rw3.nil _ _ _, HX3.out.below, ?_⟩
    rw [HC0.out]
    exact RsOut.of_no HNE.out

theorem rowIs_zero (w : World) (c : Nat) : Gb w.heap.size (w.alloc (.cells (madeCells #[.int .i64 0] c) 2)) (.slice (some ⟨w.heap.size, 0, none⟩) c c) (List.replicate c 0) ∨ maxLen < c := by
  by_cases hc : c ≤ maxLen
  · exact Or.inl (gb_row (World.rowIs_made w (.int .i64 0) c 2) (by simp) (fun i hi => by simp) hc (Nat.le_refl _))
  · exact Or.inr (by omega)
theorem gb_zero (w : World) (c : Nat) (hc : c ≤ 1048576) : Gb w.heap.size (w.alloc (.cells (madeCells #[.int .i64 0] c) 2)) (.slice (some ⟨w.heap.size, 0, none⟩) c c) (List.replicate c 0) := by
  rcases rowIs_zero w c with h | h
  · exact h
  · unfold maxLen at h
    omega

set_option maxHeartbeats 6400000 in
set_option maxRecDepth 100000 in
theorem l04Zero_any (p p2 s : Int) (dv mv dv2 mv2 : Value) (ds : List Int) (ms : List (List (List Int))) (ds2 : List Int) (ms2 : List (List (List Int))) (w : World) (h : Cx 0 w dv mv ds ms) (h2 : Cx 0 w dv2 mv2 ds2 ms2) (hcx : IsCx p ds ms) (hcy : IsCx p2 ds2 ms2) (hs : -1 ≤ s ∧ s ≤ 1) :
    Calls Try.prog 141 #[.agg #[.int .i64 p, dv, mv], .agg #[.int .i64 p2, dv2, mv2], .int .i64 s] w (Gt3R (zeroF ds ds2 s ds.length) w) := by
  obtain ⟨ad, cap, rfl⟩ := Sl.shape h.dims
  obtain ⟨am, capm, rfl⟩ := Sl.shape h.maps
  obtain ⟨ad2, cap2, rfl⟩ := Sl.shape h2.dims
  obtain ⟨am2, capm2, rfl⟩ := Sl.shape h2.maps
  obtain ⟨k1, k2⟩ := bx_two (p := p) (p2 := p2) 28 h h2
  have HX0 := Lib.hid k1
  have HY0 := Lib.hid k2
  have HCX := Lib.hid hcx
  have HCY := Lib.hid hcy
  have hl6 := hcx.1.len1
  have hl7 := hcy.1.len1
  obtain ⟨hs0, hs1⟩ := hs
  obtain ⟨w1, hw1⟩ : ∃ w1, w1 = ((w.alloc (.cells #[.int .i64 p, .slice ad ds.length cap, .slice am ms.length capm] 28)).alloc (.cells #[.int .i64 p2, .slice ad2 ds2.length cap2, .slice am2 ms2.length capm2] 28)) := ⟨_, rfl⟩
  rw [← hw1] at HX0 HY0
  have c1 := HX0.out.c1
  have hs1w : w.heap.size < w1.heap.size := HX0.out.lt
  have HT0 := Lib.hid (Gt.new (base := w.heap.size) w1 (by omega))
  have HNX : Hid (∀ W, Below w1.heap.size w1 W → Bx w W w.heap.size p (.slice ad ds.length cap) (.slice am ms.length capm) ds ms) := Lib.hid (fun W h => HX0.out.next h)
  have HNY : Hid (∀ W, Below w1.heap.size w1 W → Bx w W (w.heap.size + 1) p2 (.slice ad2 ds2.length cap2) (.slice am2 ms2.length capm2) ds2 ms2) := Lib.hid (fun W h => HY0.out.next h)
  clear h h2 k1 k2 hcx hcy
  go_enter Try.func141, Try.ntmps141
  go_upto_region 1 with fail
  rw [← hw1]
  clear hw1
  go_wp2
  clear c1
  have HTA : Hid (Gt w1.heap.size (w1.alloc (.cells #[] 41)) (.slice (some ⟨w1.heap.size, 0, none⟩) 0 0) []) := Lib.hid (Gt.new (base := w1.heap.size) w1 (Nat.le_refl _))
  go_loopw [7, 8, 9, 10] (fun ov i _ _ wr => ∃ (k : Nat), k ≤ ds.length ∧ i = .int .i64 k ∧ Hid (Below w1.heap.size w1 wr) ∧ Hid (Gt w1.heap.size wr ov (zeroF ds ds2 s k))) (fun _ i _ _ _ => ds.length - (intOf i).toNat)
  case atStart => exact ⟨0, Nat.zero_le _, rfl, Lib.hid (below_alloc1 _ _), Lib.hid (by simpa [zeroF] using HTA.out)⟩
  case round =>
    clear HTA HT0
    obtain ⟨k, hk, rfl, HB, HG⟩ := hrel
    obtain ⟨wx, hwx⟩ : ∃ wx : World, wx = wr := ⟨_, rfl⟩
    subst hwx
    have hX := HNX.out _ HB.out
    have c1 := hX.c1
    have HXX := Lib.hid hX
    clear hX
    obtain ⟨ao, co, hov⟩ := Sl.shape HG.out.l3
    rw [zeroF_length] at hov
    subst hov
    have hsx : w1.heap.size ≤ wx.heap.size := HB.out.size
    by_cases hlt : k < ds.length
    · have hdim := HCX.out.1.dim k
      obtain ⟨c, hc⟩ := Int.eq_ofNat_of_zero_le hdim.1
      have hc8 : c ≤ 8 := by omega
      have hz := dimZ_8 HCY.out ((k : Int) + s)
      obtain ⟨c2, hc2⟩ := Int.eq_ofNat_of_zero_le hz.1
      have hc28 : c2 ≤ 8 := by omega
      have HDK : Hid (∀ W, Below w1.heap.size w1 W → ∃ bd od capd, (Value.slice ad ds.length cap) = .slice (some ⟨bd, od, none⟩) ds.length capd ∧ W.cell? ⟨bd, od + k, none⟩ = some (.int .i64 (c : Int))) := Lib.hid (fun W h => by
        refine Sl.cases (HNX.out W h).cx.dims (fun _ _ hx _ => absurd hlt (by simp [hx])) (fun bd od capd hvd _ _ hcl => ?_)
        obtain ⟨u, hu, hru⟩ := hcl k hlt
        exact ⟨bd, od, capd, hvd, by rw [hu, hru, ← hc, getD_of_lt _ hlt]⟩)
      obtain ⟨bd, od, capd, hvd, _⟩ := HDK.out _ HB.out
      injection hvd with e1 e2 e3
      clear e2
      subst e1 e3
      have HDC : Hid (∀ W, Below w1.heap.size w1 W → W.cell? ⟨bd, od + k, none⟩ = some (.int .i64 (c : Int))) := Lib.hid (fun W h => by
        obtain ⟨b2, o2, c2, hv, hh⟩ := HDK.out W h
        injection hv with e1
        injection e1 with e1
        injection e1 with e1 e2
        subst e1 e2
        exact hh)
      have HT : Hid (zeroF ds ds2 s (k + 1) = zeroF ds ds2 s k ++ [List.replicate c (List.replicate c2 0)]) := Lib.hid (by
        rw [zeroF_succ, zeroAt, hc, hc2, zeroT_rows]
        rfl)
      have HDA : Hid (∀ W, Below w1.heap.size w1 W → Calls Try.prog 91 #[.agg #[.int .i64 p2, .slice ad2 ds2.length cap2, .slice am2 ms2.length capm2], .int .i64 ((k : Int) + s)] W (BR (.int .i64 (c2 : Int)) W)) := Lib.hid (fun W h => by
        have := l01Dim_any p2 ((k : Int) + s) _ _ ds2 ms2 W (HNY.out W h).cx (by omega)
        rwa [hc2] at this)
      have HS0 := Lib.hid (Gs.new (base := wx.heap.size) wx (Nat.le_refl _))
      have hmk := run_make_row' (P := Try.prog) 22 2 (.int .i64 0) 8 Try.underlying22 Try.infoI rfl .i64 .i64 c2 (by omega) (by omega)
      clear hdim hc HDK hz hc2
      go_wp2
      clear c1
      go_loopw [9, 10] (fun ov i wr => ∃ (j : Nat), j ≤ c ∧ i = .int .i64 j ∧ Hid (Below wx.heap.size wx wr) ∧ Hid (Gs wx.heap.size wr ov (List.replicate j (List.replicate c2 0)))) (fun _ i _ => c - (intOf i).toNat)
      case atStart => exact ⟨0, Nat.zero_le _, rfl, Lib.hid (below_alloc1 _ _), Lib.hid (by simpa using HS0.out)⟩
      case round =>
        clear HS0
        obtain ⟨j, hj, rfl, HBY, HS⟩ := hrel
        obtain ⟨wy, hwy⟩ : ∃ wy : World, wy = wr := ⟨_, rfl⟩
        subst hwy
        have hsy : wx.heap.size ≤ wy.heap.size := HBY.out.size
        have HB1Y := Lib.hid (HB.out.trans (HBY.out.mono hsx))
        have hXY := HNX.out _ HB1Y.out
        have hYY := HNY.out _ HB1Y.out
        have c1 := hXY.c1
        have d0 := hYY.c0
        have d1 := hYY.c1
        have d2 := hYY.c2
        clear hXY hYY
        have hcd := HDC.out _ HB1Y.out
        obtain ⟨ar, cr, hrv⟩ := Sl.shape HS.out.l2
        rw [List.length_replicate] at hrv
        subst hrv
        by_cases hlj : j < c
        · have HTJ : Hid (List.replicate (j + 1) (List.replicate c2 (0 : Int)) = List.replicate j (List.replicate c2 0) ++ [List.replicate c2 0]) := Lib.hid (by rw [← List.replicate_append_replicate]; rfl)
          have hjl : (j : Int) < (c : Int) := by omega
          go_wp2_with fail
          refine (HDA.out _ HB1Y.out).mono ?_
          rintro e w2 ⟨rfl, hb2⟩
          have HG2 := Lib.hid (gb_zero w2 c2 (by omega)).g1
          have hs2 : wy.heap.size ≤ w2.heap.size := hb2.size
          have hba : Below w2.heap.size w2 (w2.alloc (.cells (madeCells #[.int .i64 0] c2) 2)) := below_alloc1 _ _
          have hbb : Below (w2.alloc (.cells (madeCells #[.int .i64 0] c2) 2)).heap.size (w2.alloc (.cells (madeCells #[.int .i64 0] c2) 2)) ((w2.alloc (.cells (madeCells #[.int .i64 0] c2) 2)).alloc (.cells #[.slice (some ⟨w2.heap.size, 0, none⟩) c2 c2] 22)) := below_alloc1 _ _
          have HSL := Lib.hid (((HS.out.below hb2).below hba).below hbb)
          have HGU := Lib.hid (HG2.out.below hbb)
          have HBZ := Lib.hid (((HBY.out.trans (hb2.mono hsy)).trans (hba.mono (by omega))).trans (hbb.mono (by simp; omega)))
          have hcell : ((w2.alloc (.cells (madeCells #[.int .i64 0] c2) 2)).alloc (.cells #[.slice (some ⟨w2.heap.size, 0, none⟩) c2 c2] 22)).cell? ⟨w2.heap.size + 1, 0, none⟩ = some (.slice (some ⟨w2.heap.size, 0, none⟩) c2 c2) := by simp
          clear hb2 hba hbb c1 d0 d1 d2 hcd
          go_wp2_with (at_builtin; refine wpList_appendG rfl (some 37) rfl (.tmp 29) (.tmp 36) rfl wx.heap.size _ (List.replicate j (List.replicate c2 0)) rfl HSL.out (w2.heap.size + 1) rfl (some ⟨w2.heap.size, 0, none⟩) c2 c2 hcell _ HGU.out ?c1 ?c2 ?_)
          case c1 => rw [List.length_replicate]; omega
          case c2 => first | (simp; omega) | omega
          intro v7 W7 hg7 hgr7
          have HS7 : Hid (Gs wx.heap.size W7 v7 (List.replicate (j + 1) (List.replicate c2 0))) := Lib.hid (by rw [HTJ.out]; exact hg7)
          have HB7 : Hid (Below wx.heap.size wx W7) := Lib.hid (HBZ.out.grown hgr7 (by simp; omega) (fun g hg => (HSL.out.lt g hg).1))
          clear hg7 hgr7 hcell
          go_wp2
          go_roundw
          case rel => first | exact ⟨j + 1, by omega, by go_num, HB7, HS7⟩ | ((repeat apply Exists.intro); exact ⟨⟨j + 1, by omega, by go_num, HB7, HS7⟩, rfl⟩)
          case measure => simp [intOf]; omega
        · have hjc : Hid (j = c) := Lib.hid (by omega)
          have HTB : Hid (Gs wx.heap.size wy (.slice ar j cr) (List.replicate c (List.replicate c2 0))) := Lib.hid (by have := HS.out; rwa [show List.replicate j (List.replicate c2 (0 : Int)) = List.replicate c (List.replicate c2 0) by rw [hjc.out]] at this)
          have hba : Below wy.heap.size wy (wy.alloc (.cells #[.slice ar j cr] 41)) := below_alloc1 _ _
          have HGL := Lib.hid ((HG.out.below HBY.out).below hba)
          have HGU : Hid (Gs 0 (wy.alloc (.cells #[.slice ar j cr] 41)) (.slice ar j cr) (List.replicate c (List.replicate c2 0))) := Lib.hid ((HTB.out.below hba).mono (Nat.zero_le _))
          have HBZ := Lib.hid (HB1Y.out.trans (hba.mono HB1Y.out.size))
          have hcell := cell_alloc1 wy (.slice ar j cr) 41
          clear hba HS HTB d0 d1 d2
          go_wp2_with (at_builtin; refine wpList_appendT3 rfl (some 41) rfl (.tmp 38) (.tmp 40) rfl w1.heap.size _ (zeroF ds ds2 s k) rfl HGL.out wy.heap.size rfl ar j cr hcell _ HGU.out ?c1 ?c2 ?_)
          case c1 => rw [zeroF_length]; omega
          case c2 => first | (simp; omega) | omega
          intro v7 W7 hg7 hgr7
          have HG7 : Hid (Gt w1.heap.size W7 v7 (zeroF ds ds2 s (k + 1))) := Lib.hid (by rw [HT.out]; exact hg7)
          have HB7 : Hid (Below w1.heap.size w1 W7) := Lib.hid (HBZ.out.grown hgr7 (by simp; omega) (fun g hg => (HGL.out.lt g hg).1))
          clear hg7 hgr7 hcell
          go_wp2
          go_roundw
          case rel => first | exact ⟨k + 1, by omega, by go_num, HB7, HG7⟩ | ((repeat apply Exists.intro); exact ⟨⟨k + 1, by omega, by go_num, HB7, HG7⟩, rfl⟩)
          case measure => simp [intOf]; omega
    · have HKE : Hid (k = ds.length) := Lib.hid (by omega)
      go_wp2
      go_ret
      have hf := HG.out
      refine ⟨_, rfl, ?_, HXX.out.below⟩
      rw [← HKE.out]
      obtain ⟨vs, h1, h2⟩ := hf
      exact ⟨vs, owns_mono h1 (Nat.le_of_lt hs1w), h2⟩

set_option maxHeartbeats 3200000 in
set_option maxRecDepth 100000 in
theorem spZeroFamily_any (p p2 s : Int) (dv mv dv2 mv2 : Value) (ds : List Int) (ms : List (List (List Int))) (ds2 : List Int) (ms2 : List (List (List Int))) (w : World) (h : Cx 0 w dv mv ds ms) (h2 : Cx 0 w dv2 mv2 ds2 ms2) (hd : ds.length ≤ 1048576) (hm : Bd3 1048576 ms) (hd2 : ds2.length ≤ 1048576) (hm2 : Bd3 1048576 ms2) :
    Calls Try.prog 76 #[.agg #[.int .i64 p, dv, mv], .agg #[.int .i64 p2, dv2, mv2], .int .i64 s] w (AnsS (L3 0) (fun out => out = zeroF ds ds2 s ds.length) [] (zfCode p p2 s ds ms ds2 ms2) w) := by
  obtain ⟨ad, cap, rfl⟩ := Sl.shape h.dims
  obtain ⟨am, capm, rfl⟩ := Sl.shape h.maps
  obtain ⟨ad2, cap2, rfl⟩ := Sl.shape h2.dims
  obtain ⟨am2, capm2, rfl⟩ := Sl.shape h2.maps
  obtain ⟨k1, k2⟩ := bx_two (p := p) (p2 := p2) 28 h h2
  have HX0 := Lib.hid k1
  have HY0 := Lib.hid k2
  have HM := Lib.hid hm
  have HM2 := Lib.hid hm2
  obtain ⟨w1, hw1⟩ : ∃ w1, w1 = ((w.alloc (.cells #[.int .i64 p, .slice ad ds.length cap, .slice am ms.length capm] 28)).alloc (.cells #[.int .i64 p2, .slice ad2 ds2.length cap2, .slice am2 ms2.length capm2] 28)) := ⟨_, rfl⟩
  rw [← hw1] at HX0 HY0
  have c0 := HX0.out.c0
  have c1 := HX0.out.c1
  have c2 := HX0.out.c2
  have d0 := HY0.out.c0
  have d1 := HY0.out.c1
  have d2 := HY0.out.c2
  have HCK := Lib.hid (l04Two_any p p2 _ _ _ _ ds ms ds2 ms2 w1 HX0.out.cx HY0.out.cx hd hm hd2 hm2)
  obtain ⟨ec, hec⟩ : ∃ ec, ec = endCode p p2 ds ms ds2 ms2 := ⟨_, rfl⟩
  rw [← hec] at HCK
  have HEC := Lib.hid hec
  clear h h2 hm hm2 k1 k2 hec
  go_enter Try.func76, Try.ntmps76
  go_upto_region 1 with fail
  rw [← hw1]
  clear hw1
  go_wp2_with fail
  refine HCK.out.mono ?_
  rintro e w3 ⟨rfl, hb3⟩
  have HX3 := Lib.hid (HX0.out.next hb3)
  have HY3 := Lib.hid (HY0.out.next hb3)
  clear hb3 c0 c1 c2 d0 d1 d2 HX0 HY0 HCK
  by_cases h0 : ec = 0
  · subst h0
    by_cases hs : 0 ≤ s ∧ s ≤ 1
    · obtain ⟨hE⟩ : Nonempty (EndOk p p2 ds ms ds2 ms2) := ⟨endCode_zero HEC.out.symm⟩
      have HZ := Lib.hid (l04Zero_any p p2 s _ _ _ _ ds ms ds2 ms2 w3 HX3.out.cx HY3.out.cx hE.x hE.y ⟨by omega, by omega⟩)
      have HS := Lib.hid hs
      have HC0 : Hid (zfCode p p2 s ds ms ds2 ms2 = 0) := Lib.hid (by unfold zfCode; rw [if_pos HEC.out.symm, if_pos hs])
      have c0 := HX3.out.c0
      have c1 := HX3.out.c1
      have c2 := HX3.out.c2
      have d0 := HY3.out.c0
      have d1 := HY3.out.c1
      have d2 := HY3.out.c2
      clear hs hE
      go_wp2_with fail
      refine (spin_yes HS.out _).mono ?_
      rintro e w' ⟨rfl, rfl⟩
      go_wp2_with fail
      refine HZ.out.mono ?_
      rintro e w4 ⟨u, rfl, hrw, hb4⟩
      have HR := Lib.hid hrw.l3
      have HX4 := Lib.hid (HX3.out.next hb4)
      clear hrw hb4 c0 c1 c2 d0 d1 d2 HZ
      go_wp2
      go_ret2
      exact ⟨u, _, 0, rfl, HR.out, HX4.out.below, RsOut.of_yes HC0.out rfl⟩
    · have HS := Lib.hid hs
      have HC0 : Hid (zfCode p p2 s ds ms ds2 ms2 = 2) := Lib.hid (by unfold zfCode; rw [if_pos HEC.out.symm, if_neg hs])
      clear hs
      go_wp2_with fail
      refine (spin_no HS.out _).mono ?_
      rintro e w' ⟨rfl, rfl⟩
      go_wp2
      go_ret2
      refine ⟨_, [], 2, rfl, Or.inl ⟨rfl, _, _, rfl⟩, HX3.out.below, ?_⟩
      rw [HC0.out]
      exact RsOut.of_no (by decide)
  · have hne2 : (ec != 0) = true := by simp [h0]
    have hne3 : (ec == 0) = false := by simp [h0]
    have HNE := Lib.hid h0
    have HC0 : Hid (zfCode p p2 s ds ms ds2 ms2 = ec) := Lib.hid (by unfold zfCode; rw [← HEC.out, if_neg h0])
    clear h0
    go_wp2
    go_ret2
    refine ⟨_, [], ec, rfl, Or.inl ⟨rfl, _, _, rfl⟩, HX3.out.below, ?_⟩
    rw [HC0.out]
    exact RsOut.of_no HNE.out
end Go.Proofs.Ytpdkfidmmjlmnaa
