/-
  ZeroFamily of both sides by contracts.
-/
import Derived.Test.YtpdkfidmmjlmnabRw
import Derived.Test.YtpdkfidmmjlmnabGt
import Derived.Test.YtpdkfidmmjlmnabEnd
import Derived.Test.YtpdkfidmmjlmnabEnb
namespace Go.Proofs.Ytpdkfidmmjlmnab
open Go.RowKit

def zeroT (r c : Nat) : List (List Int) := tableOf r c fun _ _ => 0
/-- The family of zeros. -/
def zeroAt (ds ds2 : List Int) (s : Int) (n : Nat) : List (List Int) := zeroT (ds.getD n 0).toNat (dimZ ds2 ((n : Int) + s)).toNat
def zeroF (ds ds2 : List Int) (s : Int) (m : Nat) : List (List (List Int)) := (List.range m).map (zeroAt ds ds2 s)
theorem zeroF_length (ds ds2 : List Int) (s : Int) (m : Nat) : (zeroF ds ds2 s m).length = m := by simp [zeroF]
theorem zeroF_at (ds ds2 : List Int) (s : Int) {m k : Nat} (h : k < m) : (zeroF ds ds2 s m)[k]'(by rw [zeroF_length]; exact h) = zeroAt ds ds2 s k := by simp [zeroF]
theorem zeroF_succ (ds ds2 : List Int) (s : Int) (m : Nat) : zeroF ds ds2 s (m + 1) = zeroF ds ds2 s m ++ [zeroAt ds ds2 s m] := by simp [zeroF, List.range_succ]
theorem zeroT_rows (r c : Nat) : zeroT r c = List.replicate r (List.replicate c 0) := by
  simp [zeroT, tableOf, List.map_const']
theorem dimZ_8 {p : Int} {ds : List Int} {ms : List (List (List Int))} (h : IsCx p ds ms) (n : Int) : 0 ≤ dimZ ds n ∧ dimZ ds n ≤ 8 := by
  unfold dimZ
  by_cases hr : 0 ≤ n ∧ n ≤ (ds.length : Int) - 1
  · rw [if_pos hr]
    exact h.1.dim _
  · rw [if_neg hr]
    omega
theorem zeroF_bd {p p2 : Int} {ds : List Int} {ms : List (List (List Int))} {ds2 : List Int} {ms2 : List (List (List Int))} (h : IsCx p ds ms) (h2 : IsCx p2 ds2 ms2) (s : Int) : Bd3 1048576 (zeroF ds ds2 s ds.length) := by
  have h1 := h.1.len1
  refine ⟨by rw [zeroF_length]; omega, fun t ht => ?_⟩
  obtain ⟨n, hn, rfl⟩ := List.mem_map.1 ht
  have hd8 := h.1.dim n
  have hd9 := dimZ_8 h2 ((n : Int) + s)
  unfold zeroAt
  rw [zeroT_rows]
  refine ⟨by rw [List.length_replicate]; omega, fun r hr => ?_⟩
  rw [(List.mem_replicate.1 hr).2]
  simp only [Bd1, List.length_replicate]
  omega
open Classical in
noncomputable def zfCode (p p2 s : Int) (ds : List Int) (ms : List (List (List Int))) (ds2 : List Int) (ms2 : List (List (List Int))) : Int := if endCode p p2 ds ms ds2 ms2 = 0 then (if 0 ≤ s ∧ s ≤ 1 then 0 else 2) else endCode p p2 ds ms ds2 ms2
theorem zfCode_zero {p p2 s : Int} {ds : List Int} {ms : List (List (List Int))} {ds2 : List Int} {ms2 : List (List (List Int))} (h : zfCode p p2 s ds ms ds2 ms2 = 0) : EndOk p p2 ds ms ds2 ms2 ∧ 0 ≤ s ∧ s ≤ 1 := by
  unfold zfCode at h
  by_cases h0 : endCode p p2 ds ms ds2 ms2 = 0
  · rw [if_pos h0] at h
    by_cases h1 : 0 ≤ s ∧ s ≤ 1
    · exact ⟨endCode_zero h0, h1⟩
    · rw [if_neg h1] at h
      cases h
  · rw [if_neg h0] at h
    exact absurd h h0
def Fam3R (out : List (List (List Int))) (w : World) (e : Ending) (w' : World) : Prop := ∃ u, e = .returned u ∧ Rw3 w.heap.size w'.heap.size w' u out ∧ Below w.heap.size w w'
def Fam3D (n : Nat) (out : List (List (List Int))) (w : World) (e : Ending) (w' : World) : Prop := ∃ g, e = .returned (.slice (some ⟨g, 0, none⟩) n n) ∧ w.heap.size ≤ g ∧ Rw3 w.heap.size w'.heap.size w' (.slice (some ⟨g, 0, none⟩) n n) out ∧ Below w.heap.size w w'
theorem Fam3D.r {n : Nat} {out : List (List (List Int))} {w : World} {e : Ending} {w' : World} (h : Fam3D n out w e w') : Fam3R out w e w' := by
  obtain ⟨g, he, _, hr, hb⟩ := h
  exact ⟨_, he, hr, hb⟩
def Gt3R (out : List (List (List Int))) (w : World) (e : Ending) (w' : World) : Prop := ∃ u, e = .returned u ∧ Gt w.heap.size w' u out ∧ Below w.heap.size w w'

/-- Dimensions of at most six degrees, each at most 8. -/
structure DsOk (ds : List Int) : Prop where
  len1 : ds.length ≤ 6
  dims : ∀ d ∈ ds, 0 ≤ d ∧ d ≤ 8
theorem DsOk.dim {ds : List Int} (h : DsOk ds) (k : Nat) : 0 ≤ ds.getD k 0 ∧ ds.getD k 0 ≤ 8 := by
  by_cases e : k < ds.length
  · rw [getD_of_lt _ e]
    exact h.dims _ (List.getElem_mem e)
  · rw [List.getD_eq_getElem?_getD, List.getElem?_eq_none (by omega)]
    simp
theorem DsOk.dimZ {ds : List Int} (h : DsOk ds) (n : Int) : 0 ≤ dimZ ds n ∧ dimZ ds n ≤ 8 := by
  unfold Go.Proofs.Ytpdkfidmmjlmnab.dimZ
  by_cases hr : 0 ≤ n ∧ n ≤ (ds.length : Int) - 1
  · rw [if_pos hr]
    exact h.dim _
  · rw [if_neg hr]
    omega
theorem IsCx.dsOk {p : Int} {ds : List Int} {ms : List (List (List Int))} (h : IsCx p ds ms) : DsOk ds := ⟨h.1.len1, h.1.dims⟩

set_option maxHeartbeats 3200000 in
set_option maxRecDepth 100000 in
theorem zeroFamilyD_any (p p2 s : Int) (dv mv dv2 mv2 : Value) (ds : List Int) (ms : List (List (List Int))) (ds2 : List Int) (ms2 : List (List (List Int))) (w : World) (h : Cx 0 w dv mv ds ms) (h2 : Cx 0 w dv2 mv2 ds2 ms2) (hcx : DsOk ds) (hcy : DsOk ds2) (hs : -1 ≤ s ∧ s ≤ 2) :
    Calls Try.prog 183 #[.agg #[.int .i64 p, dv, mv], .agg #[.int .i64 p2, dv2, mv2], .int .i64 s] w (Fam3D ds.length (zeroF ds ds2 s ds.length) w) := by
  obtain ⟨ad, cap, rfl⟩ := Sl.shape h.dims
  obtain ⟨am, capm, rfl⟩ := Sl.shape h.maps
  obtain ⟨ad2, cap2, rfl⟩ := Sl.shape h2.dims
  obtain ⟨am2, capm2, rfl⟩ := Sl.shape h2.maps
  obtain ⟨k1, k2⟩ := bx_two (p := p) (p2 := p2) 31 h h2
  have HX0 := Lib.hid k1
  have HY0 := Lib.hid k2
  have HCX := Lib.hid hcx
  have HCY := Lib.hid hcy
  have hl6 := hcx.len1
  have hl7 := hcy.len1
  obtain ⟨hs0, hs1⟩ := hs
  have hmk := run_make_row' (P := Try.prog) 23 26 (.slice none 0 0) 24 Try.underlying23 Try.infoSS rfl .i64 .i64 ds.length (by omega) (by omega)
  obtain ⟨w1, hw1⟩ : ∃ w1, w1 = ((w.alloc (.cells #[.int .i64 p, .slice ad ds.length cap, .slice am ms.length capm] 31)).alloc (.cells #[.int .i64 p2, .slice ad2 ds2.length cap2, .slice am2 ms2.length capm2] 31)) := ⟨_, rfl⟩
  rw [← hw1] at HX0 HY0
  have c0 := HX0.out.c0
  have c1 := HX0.out.c1
  have c2 := HX0.out.c2
  have hs1w : w.heap.size < w1.heap.size := HX0.out.lt
  clear h h2 k1 k2 hcx hcy
  go_enter Try.func183, Try.ntmps183
  go_upto_region 1 with fail
  rw [← hw1]
  clear hw1
  go_wp2
  clear hmk c0 c1 c2
  go_loopw [17] (fun i wr => ∃ (k : Nat) (f : Nat → Value) (b : Nat → Nat), k ≤ ds.length ∧ i = .int .i64 k ∧ Hid (Below w1.heap.size w1 wr) ∧ Hid (Fill3 wr w1.heap.size ds.length k f b (zeroF ds ds2 s ds.length))) (fun i _ => ds.length - (intOf i).toNat)
  case atStart => exact ⟨0, _, _, Nat.zero_le _, rfl, Lib.hid (below_alloc1 _ _), Lib.hid (Fill3.start (World.rowIs_made w1 _ _ _) (by simp) _)⟩
  case round =>
    obtain ⟨k, f, b, hk, rfl, HB, HF⟩ := hrel
    obtain ⟨wx, hwx⟩ : ∃ wx : World, wx = wr := ⟨_, rfl⟩
    subst hwx
    by_cases hlt : k < ds.length
    · have hX := HX0.out.next HB.out
      have hY := HY0.out.next HB.out
      have HYY := Lib.hid hY
      have hcx0 := hX.cx
      have d0 := hY.c0
      have d1 := hY.c1
      have d2 := hY.c2
      have hdim := HCX.out.dim k
      obtain ⟨c, hc⟩ := Int.eq_ofNat_of_zero_le hdim.1
      have hc8 : c ≤ 8 := by omega
      have hz := HCY.out.dimZ ((k : Int) + s)
      obtain ⟨c2, hc2⟩ := Int.eq_ofNat_of_zero_le hz.1
      have hc28 : c2 ≤ 8 := by omega
      refine Sl.cases hcx0.dims (fun _ _ hx _ => absurd hlt (by simp [hx])) (fun bd od capd hvd _ _ hcl => ?_)
      injection hvd with e1 e2 e3
      clear e2
      subst e1 e3
      obtain ⟨u, hu, hru⟩ := hcl k hlt
      have hu2 : wx.cell? ⟨bd, od + k, none⟩ = some (.int .i64 (c : Int)) := by rw [hu, hru, ← hc, getD_of_lt _ hlt]
      have HT : Hid ((zeroF ds ds2 s ds.length)[k]'(by rw [zeroF_length]; exact hlt) = tableOf c c2 fun _ _ => 0) := Lib.hid (by
        rw [zeroF_at ds ds2 s hlt, zeroAt, hc, hc2]
        rfl)
      have HDA : Hid (∀ W, Below wx.heap.size wx W → Calls Try.prog 181 #[.agg #[.int .i64 p2, .slice ad2 ds2.length cap2, .slice am2 ms2.length capm2], .int .i64 ((k : Int) + s)] W (BR (.int .i64 (c2 : Int)) W)) := Lib.hid (fun W h => by
        have := dimAt_any p2 ((k : Int) + s) _ _ ds2 ms2 W (HYY.out.next h).cx (by omega)
        rwa [hc2] at this)
      have hrow := HF.out.row.cell hlt
      have hfro := HF.out.row.frozen k
      have hlr := HF.out.row.lt
      clear hu hru hcl hcx0 hX hY hdim hc hz hc2
      go_wp2_with fail
      refine (HDA.out _ (Below.refl _ _)).mono ?_
      rintro e w2 ⟨rfl, hb2⟩
      have HB2 := Lib.hid (HB.out.trans (hb2.mono HB.out.size))
      have HF2 := Lib.hid (HF.out.below hb2)
      have hrow2 := HF2.out.row.cell hlt
      have hfro2 := HF2.out.row.frozen k
      have hlr2 := HF2.out.row.lt
      clear hb2 hrow hfro hu2 HDA d0 d1 d2 hlr
      go_wp2_with fail
      refine (zeroTable_any c c2 _ (by omega) (by omega)).mono ?_
      rintro e w3 ⟨rfl, hm3⟩
      have HB3 := Lib.hid (HB2.out.trans (hm3.below.mono HB2.out.size))
      have HS3 := Lib.hid (HF2.out.step hm3.below (by rw [zeroF_length]; exact hlt) (by rw [HT.out]; exact hm3.rw2 (Nat.le_refl _) (by omega) (by omega)))
      have hrow3 := later hm3.below (Nat.le_refl _) hrow2
      have hfro3 : w3.frozen? ⟨w1.heap.size, k, none⟩ = false := (HF2.out.row.of_block (hm3.below.block _ hlr2)).frozen k
      have HB4 : Hid (Below w1.heap.size w1 (w3.setCell ⟨w1.heap.size, k, none⟩ (.slice (some ⟨w2.heap.size, 0, none⟩) c c))) := Lib.hid (HB3.out.setCell (Nat.le_refl _) _)
      clear hm3 hrow2 hfro2 HT
      go_wp2
      go_roundw
      case rel => exact ⟨k + 1, _, _, by omega, by go_num, HB4, HS3⟩
      case measure => simp [intOf]; omega
    · have HKE : Hid (k = ds.length) := Lib.hid (by omega)
      have HXX := Lib.hid (HX0.out.next HB.out)
      go_wp2
      go_ret
      have hf := HF.out
      rw [HKE.out] at hf
      exact ⟨w1.heap.size, rfl, Nat.le_of_lt hs1w, (hf.rw3 (by rw [zeroF_length]) (by omega)).wider (Nat.le_of_lt hs1w) (Nat.le_refl _), HXX.out.below⟩

theorem zeroFamily_any (p p2 s : Int) (dv mv dv2 mv2 : Value) (ds : List Int) (ms : List (List (List Int))) (ds2 : List Int) (ms2 : List (List (List Int))) (w : World) (h : Cx 0 w dv mv ds ms) (h2 : Cx 0 w dv2 mv2 ds2 ms2) (hcx : IsCx p ds ms) (hcy : IsCx p2 ds2 ms2) (hs : -1 ≤ s ∧ s ≤ 1) :
    Calls Try.prog 183 #[.agg #[.int .i64 p, dv, mv], .agg #[.int .i64 p2, dv2, mv2], .int .i64 s] w (Fam3R (zeroF ds ds2 s ds.length) w) := (zeroFamilyD_any p p2 s dv mv dv2 mv2 ds ms ds2 ms2 w h h2 hcx.dsOk hcy.dsOk ⟨hs.1, by have := hs.2; omega⟩).mono fun _ _ h => h.r

theorem rowIs_zero (w : World) (c : Nat) : Gb w.heap.size (w.alloc (.cells (madeCells #[.int .i64 0] c) 2)) (.slice (some ⟨w.heap.size, 0, none⟩) c c) (List.replicate c 0) ∨ maxLen < c := by
  by_cases hc : c ≤ maxLen
  · exact Or.inl (gb_row (World.rowIs_made w (.int .i64 0) c 2) (by simp) (fun i hi => by simp) hc (Nat.le_refl _))
  · exact Or.inr (by omega)
theorem gb_zero (w : World) (c : Nat) (hc : c ≤ 1048576) : Gb w.heap.size (w.alloc (.cells (madeCells #[.int .i64 0] c) 2)) (.slice (some ⟨w.heap.size, 0, none⟩) c c) (List.replicate c 0) := by
  rcases rowIs_zero w c with h | h
  · exact h
  · unfold maxLen at h
    omega

end Go.Proofs.Ytpdkfidmmjlmnab
