/-
  ZeroMaps of both sides by contracts.
-/
import Derived.Test.YthfcadgbipnemaaZfm
import Derived.Test.YthfcadgbipnemaaDuW
namespace Go.Proofs.Ythfcadgbipnemaa
open Go.RowKit

/-- The lists of zeros, one for each degree but the first. -/
def zmAt (ds : List Int) (k : Nat) : List (List Int) := zeroT (ds.getD (k + 1) 0).toNat (ds.getD k 0).toNat
def zmF (ds : List Int) (m : Nat) : List (List (List Int)) := (List.range m).map (zmAt ds)
theorem zmF_length (ds : List Int) (m : Nat) : (zmF ds m).length = m := by simp [zmF]
theorem zmF_succ (ds : List Int) (m : Nat) : zmF ds (m + 1) = zmF ds m ++ [zmAt ds m] := by simp [zmF, List.range_succ]
theorem zeroF_tail (ds : List Int) {m : Nat} (hm : m + 1 = ds.length) : zeroF ds ds (-1) (m + 1) = zeroAt ds ds (-1) 0 :: zmF ds m := by
  unfold zeroF zmF
  rw [List.range_succ_eq_map, List.map_cons, List.map_map]
  congr 1
  refine List.map_congr_left fun k hk => ?_
  have hk : k < m := List.mem_range.1 hk
  show zeroAt ds ds (-1) (k + 1) = zmAt ds k
  unfold zeroAt zmAt dimZ
  rw [if_pos (by omega), show (((k + 1 : Nat) : Int) + -1).toNat = k by omega]
theorem zmF_bdD {ds : List Int} (h : DsOk ds) (m : Nat) (hm : m ≤ 1048576) : Bd3 1048576 (zmF ds m) := by
  refine ⟨by rw [zmF_length]; exact hm, fun t ht => ?_⟩
  obtain ⟨n, _, rfl⟩ := List.mem_map.1 ht
  have h1 := h.dim (n + 1)
  have h2 := h.dim n
  unfold zmAt
  rw [zeroT_rows]
  refine ⟨by rw [List.length_replicate]; omega, fun r hr => ?_⟩
  rw [(List.mem_replicate.1 hr).2]
  simp only [Bd1, List.length_replicate]
  omega
theorem zmF_bd {p : Int} {ds : List Int} {ms : List (List (List Int))} (h : coCode p ds ms = 0) : Bd3 1048576 (zmF ds ms.length) := by
  have hc := coCode_zero h
  exact zmF_bdD hc.dsOk _ (by have := hc.1.len1; have := hc.1.mlen; omega)
theorem flat_shift (J : Nat → List Iv) (m : Nat) : flat J (m + 1) = J 0 ++ flat (fun j => J (j + 1)) m := by
  induction m with
  | zero => simp [flat]
  | succ m ih => rw [flat_succ, ih, flat_succ (fun j => J (j + 1)), List.append_assoc]
/-- A result of three levels without its first table. -/
theorem Rw3.tail {lo hi : Nat} {W : World} {u : Value} {t : List (List Int)} {ts : List (List (List Int))} (h : Rw3 lo hi W u (t :: ts)) : ∃ b o cap, u = .slice (some ⟨b, o, none⟩) (ts.length + 1) cap ∧ ∀ o' cap', (ts = [] ∨ o' = o + 1) → Rw3 lo hi W (.slice (some ⟨b, o', none⟩) ts.length cap') ts := by
  obtain ⟨h1, I, h2, h3, h4, h5⟩ := h
  rcases h1 with ⟨hx, _⟩ | ⟨b, o, cap, hv, hlo, hhi, _, hc, hf⟩
  · cases hx
  · subst hv
    refine ⟨b, o, cap, rfl, fun o' cap' hoo => ?_⟩
    by_cases he : ts = []
    · subst he
      exact ⟨Or.inl ⟨rfl, _, _, rfl⟩, [], ⟨_, 0, _, fun _ => .slice none 0 0, fun _ => [], rfl, by omega, rfl, fun _ h => absurd h (Nat.not_lt_zero _), fun h => absurd h (Nat.lt_irrefl _)⟩, fun _ h => absurd h (by simp), List.Pairwise.nil, by simp [ivSize]⟩
    · obtain rfl : o' = o + 1 := hoo.resolve_left he
      have hpos : 0 < ts.length := List.length_pos_iff.2 he
      refine ⟨Or.inr ⟨b, o + 1, cap', rfl, hlo, hhi, hpos, fun k hk => ?_, fun k hk => ?_⟩, ?_⟩
      · obtain ⟨u, hu, hr⟩ := hc (k + 1) (by simpa using hk)
        exact ⟨u, by rw [show o + 1 + k = o + (k + 1) by omega]; exact hu, by simpa using hr⟩
      · rw [show o + 1 + k = o + (k + 1) by omega]
        exact hf (k + 1) (by simpa using hk)
      · obtain ⟨ad, m, cp, f, J, e1, e2, e3, e4, e5⟩ := h2
        injection e1 with a1 a2 a3
        subst a1
        have hm : m = ts.length + 1 := a2.symm
        subst hm e3
        obtain ⟨b2, o2, q1, q2, q3, q4⟩ := e5 (by omega)
        injection q1 with q1
        injection q1 with q5 q6
        subst q5 q6
        rw [flat_shift] at h3 h4 h5
        refine ⟨flat (fun j => J (j + 1)) ts.length, ⟨_, ts.length, cap', fun j => f (j + 1), fun j => J (j + 1), rfl, by omega, rfl, fun j hj => e4 (j + 1) (by omega), fun _ => ⟨b, o + 1, rfl, q2, q3, fun j hj => by rw [show o + 1 + j = o + (j + 1) by omega]; exact q4 (j + 1) (by omega)⟩⟩, h3.sub (fun x hx => List.mem_append_right _ hx), (List.pairwise_append.1 h4).2.1, ?_⟩
        rw [ivSize_append] at h5
        omega

/-- A list of tables, or rows, in memory: where its entries lie from now on. -/
theorem l3_at {w1 : World} {am : Option Addr} {capm : Nat} {ms : List (List (List Int))} (h : L3 0 w1 (.slice am ms.length capm) ms) {k : Nat} (hk : k < ms.length) : ∃ bm om a c, am = some ⟨bm, om, none⟩ ∧ ∀ W, Below w1.heap.size w1 W → W.cell? ⟨bm, om + k, none⟩ = some (.slice a ms[k].length c) ∧ L2 0 W (.slice a ms[k].length c) ms[k] := by
  refine Sl.cases h (fun _ _ hx _ => absurd hk (by simp [hx])) (fun bm om cap hv _ _ hc => ?_)
  injection hv with e1 e2 e3
  obtain ⟨u, hu, hr⟩ := hc k hk
  obtain ⟨a, c, rfl⟩ := Sl.shape hr
  exact ⟨bm, om, a, c, e1, fun W hW => ⟨later hW (Nat.le_refl _) hu, hr.below hW⟩⟩
theorem l2_at {w1 : World} {am : Option Addr} {capm : Nat} {ms : List (List Int)} (h : L2 0 w1 (.slice am ms.length capm) ms) {k : Nat} (hk : k < ms.length) : ∃ bm om a c, am = some ⟨bm, om, none⟩ ∧ ∀ W, Below w1.heap.size w1 W → W.cell? ⟨bm, om + k, none⟩ = some (.slice a ms[k].length c) ∧ L1 0 W (.slice a ms[k].length c) ms[k] := by
  refine Sl.cases h (fun _ _ hx _ => absurd hk (by simp [hx])) (fun bm om cap hv _ _ hc => ?_)
  injection hv with e1 e2 e3
  obtain ⟨u, hu, hr⟩ := hc k hk
  obtain ⟨a, c, rfl⟩ := Sl.shape hr
  exact ⟨bm, om, a, c, e1, fun W hW => ⟨later hW (Nat.le_refl _) hu, hr.below hW⟩⟩

set_option maxHeartbeats 1600000 in
set_option maxRecDepth 100000 in
theorem zeroMaps_any (p : Int) (m : Nat) (dv mv : Value) (ds : List Int) (ms : List (List (List Int))) (w : World) (h : Cx 0 w dv mv ds ms) (hd : DsOk ds) (hm : m + 1 = ds.length) :
    Calls Try.prog 71 #[.agg #[.int .i64 p, dv, mv]] w (Fam3R (zmF ds m) w) := by
  obtain ⟨ad, cap, rfl⟩ := Sl.shape h.dims
  obtain ⟨am, capm, rfl⟩ := Sl.shape h.maps
  have HX0 := Lib.hid (Bx.start (p := p) 30 h)
  have HM := Lib.hid hm
  obtain ⟨w1, hw1⟩ : ∃ w1 : World, w1 = w.alloc (.cells #[.int .i64 p, .slice ad ds.length cap, .slice am ms.length capm] 30) := ⟨_, rfl⟩
  rw [← hw1] at HX0
  have HZ := Lib.hid (zeroFamilyD_any p p (-1) _ _ _ _ ds ms ds ms w1 HX0.out.cx HX0.out.cx hd hd ⟨by omega, by omega⟩)
  have c0 := HX0.out.c0
  have c1 := HX0.out.c1
  have c2 := HX0.out.c2
  have hs1 : w.heap.size ≤ w1.heap.size := HX0.out.below.size
  clear h hd hm
  go_enter Try.func71, Try.ntmps71
  go_upto_region 1 with fail
  rw [← hw1]
  clear hw1
  go_wp2_with fail
  refine HZ.out.mono ?_
  rintro e w2 ⟨g, rfl, hg, hu, hb2⟩
  have HX2 := Lib.hid (HX0.out.next hb2)
  rw [← HM.out, zeroF_tail ds HM.out] at hu
  obtain ⟨b, o, cu, hv, hrw⟩ := hu.tail
  obtain ⟨rfl, rfl⟩ : g = b ∧ 0 = o := by
    injection hv with e1
    injection e1 with e1
    injection e1 with e1 e2
    exact ⟨e1, e2⟩
  have HR := Lib.hid hrw
  have h1m : ((1 : Int) ≤ ((m + 1 : Nat) : Int)) := by omega
  have hsb := hb2.size
  rw [← HM.out]
  clear hu hb2 hrw HZ c0 c1 c2 hv
  go_wp2
  case inl =>
    go_ret
    have hr := (HR.out 0 0 (Or.inl (by rw [h]; rfl))).wider hs1 (Nat.le_refl _)
    rw [zmF_length, h] at hr
    exact ⟨_, rfl, hr, HX2.out.below⟩
  case inr =>
    go_ret
    have hr := (HR.out (0 + 1) m (Or.inr rfl)).wider hs1 (Nat.le_refl _)
    rw [zmF_length] at hr
    exact ⟨_, rfl, hr, HX2.out.below⟩

set_option maxHeartbeats 1600000 in
set_option maxRecDepth 100000 in
theorem zeroMapsOf_any (p : Int) (dv mv : Value) (ds : List Int) (ms : List (List (List Int))) (w : World) (h : Cx 0 w dv mv ds ms) (hd : ds.length ≤ 1048576) (hm : Bd3 1048576 ms) :
    Calls Try.prog 25 #[.agg #[.int .i64 p, dv, mv]] w (AnsW Rw3 (fun out => out = zmF ds ms.length) [] (coCode p ds ms) w) := by
  have HX0 := Lib.hid (Bx.start (p := p) 30 h)
  have HIS := Lib.hid (isComplex_any p dv mv ds ms _ HX0.out.cx hd hm)
  obtain ⟨ad, cap, rfl⟩ := Sl.shape h.dims
  obtain ⟨am, capm, rfl⟩ := Sl.shape h.maps
  have c0 := HX0.out.c0
  have c1 := HX0.out.c1
  have c2 := HX0.out.c2
  clear h hm
  go_enter Try.func25, Try.ntmps25
  go_wp2_with fail
  refine HIS.out.mono ?_
  rintro e w1 ⟨bb, rfl, hb1, hbb⟩
  have HX1 := Lib.hid (HX0.out.next hb1)
  have HBB := Lib.hid hbb
  clear hb1 hbb c0 c1 c2 HIS
  have c0 := HX1.out.c0
  have c1 := HX1.out.c1
  have c2 := HX1.out.c2
  cases bb with
  | false =>
    have HC0 : Hid (coCode p ds ms = 1) := Lib.hid (if_neg (fun hh => absurd (HBB.out.2 hh) (by simp)))
    go_wp2
    go_ret2
    refine ⟨_, [], 1, rfl, Rw3.nil _ _ _, HX1.out.below, ?_⟩
    rw [HC0.out]
    exact RsOut.of_no (by decide)
  | true =>
    have HCX : Hid (IsCx p ds ms) := Lib.hid (HBB.out.1 (by simp))
    have HC0 : Hid (coCode p ds ms = 0) := Lib.hid (if_pos HCX.out)
    have HZ := Lib.hid (zeroMaps_any p ms.length _ _ ds ms w1 HX1.out.cx HCX.out.dsOk HCX.out.1.mlen)
    have hs1 : w.heap.size ≤ w1.heap.size := HX1.out.below.size
    go_wp2_with fail
    refine HZ.out.mono ?_
    rintro e w2 ⟨u, rfl, hu, hb2⟩
    have HX2 := Lib.hid (HX1.out.next hb2)
    have HR := Lib.hid (hu.wider hs1 (Nat.le_refl _))
    clear c0 c1 c2 HZ hb2 hu
    go_wp2
    go_ret2
    exact ⟨u, _, 0, rfl, HR.out, HX2.out.below, RsOut.of_yes HC0.out rfl⟩

theorem replicate_push (j : Nat) {α : Type} (x : α) : List.replicate (j + 1) x = List.replicate j x ++ [x] := by rw [← List.replicate_append_replicate]; rfl

set_option maxHeartbeats 3200000 in
set_option maxRecDepth 100000 in
theorem spZeroMaps_any (p : Int) (dv mv : Value) (ds : List Int) (ms : List (List (List Int))) (w : World) (h : Cx 0 w dv mv ds ms) (hd : ds.length ≤ 1048576) (hm : Bd3 1048576 ms) :
    Calls Try.prog 24 #[.agg #[.int .i64 p, dv, mv]] w (AnsS (L3 0) (fun out => out = zmF ds ms.length) [] (coCode p ds ms) w) := by
  have HX0 := Lib.hid (Bx.start (p := p) 30 h)
  have HIS := Lib.hid (l01Is_any p dv mv ds ms _ HX0.out.cx hd hm)
  obtain ⟨ad, cap, rfl⟩ := Sl.shape h.dims
  obtain ⟨am, capm, rfl⟩ := Sl.shape h.maps
  have c0 := HX0.out.c0
  have c1 := HX0.out.c1
  have c2 := HX0.out.c2
  clear h hm
  go_enter Try.func24, Try.ntmps24
  go_wp2_with fail
  refine HIS.out.mono ?_
  rintro e w1 ⟨bb, rfl, hb1, hbb⟩
  have HX1 := Lib.hid (HX0.out.next hb1)
  have HBB := Lib.hid hbb
  clear hb1 hbb c0 c1 c2 HIS
  have c0 := HX1.out.c0
  have c1 := HX1.out.c1
  have c2 := HX1.out.c2
  cases bb with
  | false =>
    have HC0 : Hid (coCode p ds ms = 1) := Lib.hid (if_neg (fun hh => absurd (HBB.out.2 hh) (by simp)))
    go_wp2
    go_ret2
    refine ⟨_, [], 1, rfl, Or.inl ⟨rfl, _, _, rfl⟩, HX1.out.below, ?_⟩
    rw [HC0.out]
    exact RsOut.of_no (by decide)
  | true =>
    have HCX : Hid (IsCx p ds ms) := Lib.hid (HBB.out.1 (by simp))
    have HC0 : Hid (coCode p ds ms = 0) := Lib.hid (if_pos HCX.out)
    have hs1w : w.heap.size < w1.heap.size := HX1.out.lt
    have hml : ms.length ≤ 5 := by have := HCX.out.1.len1; have := HCX.out.1.mlen; omega
    have HTA : Hid (Gt w1.heap.size (w1.alloc (.cells #[] 27)) (.slice (some ⟨w1.heap.size, 0, none⟩) 0 0) []) := Lib.hid (Gt.new (base := w1.heap.size) w1 (Nat.le_refl _))
    have HNX : Hid (∀ W, Below w1.heap.size w1 W → Bx w W w.heap.size p (.slice ad ds.length cap) (.slice am ms.length capm) ds ms) := Lib.hid (fun W h => HX1.out.next h)
    have HLM : Hid (L3 0 w1 (.slice am ms.length capm) ms) := Lib.hid HX1.out.cx.maps
    go_wp2
    clear c0 c1 c2
    go_loopw [4, 5, 6, 7] (fun ov i _ _ wr => ∃ (k : Nat), k ≤ ms.length ∧ i = .int .i64 k ∧ Hid (Below w1.heap.size w1 wr) ∧ Hid (Gt w1.heap.size wr ov (zmF ds k))) (fun _ i _ _ _ => ms.length - (intOf i).toNat)
    case atStart => exact ⟨0, Nat.zero_le _, rfl, Lib.hid (below_alloc1 _ _), Lib.hid (by simpa [zmF] using HTA.out)⟩
    case round =>
      clear HTA
      obtain ⟨k, hk, rfl, HB, HG⟩ := hrel
      obtain ⟨wx, hwx⟩ : ∃ wx : World, wx = wr := ⟨_, rfl⟩
      subst hwx
      have hX := HNX.out _ HB.out
      have c0 := hX.c0
      have c1 := hX.c1
      have k2 := hX.c2
      have HXX := Lib.hid hX
      clear hX
      obtain ⟨ao, co, hov⟩ := Sl.shape HG.out.l3
      rw [zmF_length] at hov
      subst hov
      have hsx : w1.heap.size ≤ wx.heap.size := HB.out.size
      by_cases hlt : k < ms.length
      · obtain ⟨bm, om, at', ct, rfl, hrow⟩ := l3_at HLM.out hlt
        have HTB := Lib.hid (HCX.out.1.tabs k hlt)
        have h8a := HCX.out.1.dim (k + 1)
        have h8b := HCX.out.1.dim k
        rw [getD_of_lt _ hlt] at HTB
        obtain ⟨t, ht⟩ : ∃ t, t = ms[k] := ⟨_, rfl⟩
        rw [← ht] at hrow HTB
        clear ht
        obtain ⟨c, hc⟩ : ∃ c : Nat, c = t.length := ⟨_, rfl⟩
        obtain ⟨c2, hc2⟩ : ∃ c2 : Nat, (c2 : Int) = ds.getD k 0 := ⟨(ds.getD k 0).toNat, by omega⟩
        have HT : Hid (zmF ds (k + 1) = zmF ds k ++ [List.replicate c (List.replicate c2 0)]) := Lib.hid (by
          rw [zmF_succ, zmAt, zeroT_rows, ← HTB.out.1, ← hc2, hc]
          rfl)
        have HRL : Hid (∀ x ∈ t, x.length = c2) := Lib.hid (fun x hx => by
          have := (HTB.out.2 x hx).1
          omega)
        have hc8 : c ≤ 8 := by have := HTB.out.1; omega
        have hc28 : c2 ≤ 8 := by omega
        rw [← hc] at hrow
        have HROW := Lib.hid hrow
        have HCL := Lib.hid hc
        have hcell := (hrow wx HB.out).1
        have HS0 := Lib.hid (Gs.new (base := wx.heap.size) wx (Nat.le_refl _))
        clear hrow hc hc2 h8a h8b
        go_wp2
        clear c0 c1 k2 hcell
        go_loopw [6, 7] (fun ov i wr => ∃ (j : Nat), j ≤ c ∧ i = .int .i64 j ∧ Hid (Below wx.heap.size wx wr) ∧ Hid (Gs wx.heap.size wr ov (List.replicate j (List.replicate c2 0)))) (fun _ i _ => c - (intOf i).toNat)
        case atStart => exact ⟨0, Nat.zero_le _, rfl, Lib.hid (below_alloc1 _ _), Lib.hid (by simpa using HS0.out)⟩
        case round =>
          clear HS0
          obtain ⟨j, hj, rfl, HBY, HS⟩ := hrel
          obtain ⟨wy, hwy⟩ : ∃ wy : World, wy = wr := ⟨_, rfl⟩
          subst hwy
          have hsy : wx.heap.size ≤ wy.heap.size := HBY.out.size
          have HB1Y := Lib.hid (HB.out.trans (HBY.out.mono hsx))
          have hXY := HNX.out _ HB1Y.out
          have c0 := hXY.c0
          have c1 := hXY.c1
          have c2' := hXY.c2
          clear hXY
          have hcell := (HROW.out wy HB1Y.out).1
          have HL2 : Hid (L2 0 w1 (.slice at' t.length ct) t) := Lib.hid (by have := (HROW.out w1 (Below.refl _ _)).2; rwa [HCL.out] at this)
          obtain ⟨ar, cr, hrv⟩ := Sl.shape HS.out.l2
          rw [List.length_replicate] at hrv
          subst hrv
          by_cases hlj : j < c
          · obtain ⟨bt, ot, aq, cq, hat, hrw⟩ := l2_at (k := j) HL2.out (by have := HCL.out; omega)
            obtain ⟨r, hr⟩ : ∃ r, r = (t[j]'(by have := HCL.out; omega)).length := ⟨_, rfl⟩
            rw [← hr] at hrw
            have HRC : Hid (r = c2) := Lib.hid (hr.trans (HRL.out _ (List.getElem_mem _)))
            have hr8 : r ≤ 8 := by have := HRC.out; omega
            subst hat
            have hcellr := (hrw wy HB1Y.out).1
            have hmk := run_make_row' (P := Try.prog) 22 2 (.int .i64 0) 8 Try.underlying22 Try.infoI rfl .i64 .i64 r (by omega) (by omega)
            have HTJ : Hid (List.replicate (j + 1) (List.replicate c2 (0 : Int)) = List.replicate j (List.replicate c2 0) ++ [List.replicate r 0]) := Lib.hid (by rw [HRC.out]; exact replicate_push _ _)
            have hjl : (j : Int) < (c : Int) := by omega
            have HG2 := Lib.hid (gb_zero wy r (by omega)).g1
            have hba : Below wy.heap.size wy (wy.alloc (.cells (madeCells #[.int .i64 0] r) 2)) := below_alloc1 _ _
            have hbb : Below (wy.alloc (.cells (madeCells #[.int .i64 0] r) 2)).heap.size (wy.alloc (.cells (madeCells #[.int .i64 0] r) 2)) ((wy.alloc (.cells (madeCells #[.int .i64 0] r) 2)).alloc (.cells #[.slice (some ⟨wy.heap.size, 0, none⟩) r r] 22)) := below_alloc1 _ _
            have HSL := Lib.hid ((HS.out.below hba).below hbb)
            have HGU := Lib.hid (HG2.out.below hbb)
            have HBZ := Lib.hid ((HBY.out.trans (hba.mono (by omega))).trans (hbb.mono (by simp; omega)))
            have hcl : ((wy.alloc (.cells (madeCells #[.int .i64 0] r) 2)).alloc (.cells #[.slice (some ⟨wy.heap.size, 0, none⟩) r r] 22)).cell? ⟨wy.heap.size + 1, 0, none⟩ = some (.slice (some ⟨wy.heap.size, 0, none⟩) r r) := by simp
            clear hba hbb hr hrw
            go_wp2_with (at_builtin; refine wpList_appendG rfl (some 42) rfl (.tmp 30) (.tmp 41) rfl wx.heap.size _ (List.replicate j (List.replicate c2 0)) rfl HSL.out (wy.heap.size + 1) rfl (some ⟨wy.heap.size, 0, none⟩) r r hcl _ HGU.out ?c1 ?c2 ?_)
            case c1 => rw [List.length_replicate]; omega
            case c2 => first | (simp; omega) | omega
            intro v7 W7 hg7 hgr7
            have HS7 : Hid (Gs wx.heap.size W7 v7 (List.replicate (j + 1) (List.replicate c2 0))) := Lib.hid (by rw [HTJ.out]; exact hg7)
            have HB7 : Hid (Below wx.heap.size wx W7) := Lib.hid (HBZ.out.grown hgr7 (by simp; omega) (fun g hg => (HSL.out.lt g hg).1))
            clear hg7 hgr7 hcl hcell hcellr c0 c1 c2' hmk
            go_wp2
            go_roundw
            case rel => first | exact ⟨j + 1, by omega, by go_num, HB7, HS7⟩ | ((repeat apply Exists.intro); exact ⟨⟨j + 1, by omega, by go_num, HB7, HS7⟩, rfl⟩)
            case measure => simp [intOf]; omega
          · have hjc : Hid (j = c) := Lib.hid (by omega)
            have HTB2 : Hid (Gs wx.heap.size wy (.slice ar j cr) (List.replicate c (List.replicate c2 0))) := Lib.hid (by have := HS.out; rwa [show List.replicate j (List.replicate c2 (0 : Int)) = List.replicate c (List.replicate c2 0) by rw [hjc.out]] at this)
            have hba : Below wy.heap.size wy (wy.alloc (.cells #[.slice ar j cr] 27)) := below_alloc1 _ _
            have HGL := Lib.hid ((HG.out.below HBY.out).below hba)
            have HGU : Hid (Gs 0 (wy.alloc (.cells #[.slice ar j cr] 27)) (.slice ar j cr) (List.replicate c (List.replicate c2 0))) := Lib.hid ((HTB2.out.below hba).mono (Nat.zero_le _))
            have HBZ := Lib.hid (HB1Y.out.trans (hba.mono HB1Y.out.size))
            have hcl := cell_alloc1 wy (.slice ar j cr) 27
            clear hba HS HTB2
            go_wp2_with (at_builtin; refine wpList_appendT3 rfl (some 46) rfl (.tmp 43) (.tmp 45) rfl w1.heap.size _ (zmF ds k) rfl HGL.out wy.heap.size rfl ar j cr hcl _ HGU.out ?c1 ?c2 ?_)
            case c1 => rw [zmF_length]; omega
            case c2 => first | (simp; omega) | omega
            intro v7 W7 hg7 hgr7
            have HG7 : Hid (Gt w1.heap.size W7 v7 (zmF ds (k + 1))) := Lib.hid (by rw [HT.out]; exact hg7)
            have HB7 : Hid (Below w1.heap.size w1 W7) := Lib.hid (HBZ.out.grown hgr7 (by simp; omega) (fun g hg => (HGL.out.lt g hg).1))
            clear hg7 hgr7 hcl hcell c0 c1 c2'
            go_wp2
            go_roundw
            case rel => first | exact ⟨k + 1, by omega, by go_num, HB7, HG7⟩ | ((repeat apply Exists.intro); exact ⟨⟨k + 1, by omega, by go_num, HB7, HG7⟩, rfl⟩)
            case measure => simp [intOf]; omega
      · have HKE : Hid (k = ms.length) := Lib.hid (by omega)
        go_wp2
        go_ret2
        refine ⟨_, _, 0, rfl, ?_, HXX.out.below, RsOut.of_yes HC0.out rfl⟩
        rw [← HKE.out]
        exact HG.out.l3
end Go.Proofs.Ythfcadgbipnemaa
