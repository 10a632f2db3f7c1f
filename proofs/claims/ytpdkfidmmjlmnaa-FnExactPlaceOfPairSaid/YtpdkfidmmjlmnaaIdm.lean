/-
  IdentityMap of both sides by contracts; impl.identityTable, spec.l04Unit.
-/
import Derived.Test.YtpdkfidmmjlmnaaRw
import Derived.Test.YtpdkfidmmjlmnaaGt
import Derived.Test.YtpdkfidmmjlmnaaQc
namespace Go.Proofs.Ytpdkfidmmjlmnaa
open Go.RowKit

def idT (n : Nat) : List (List Int) := tableOf n n fun j i => if i = j then 1 else 0
/-- What IdentityMap answers. -/
def idF (ds : List Int) : List (List (List Int)) := ds.map fun d => idT d.toNat
def IdFam (ds : List Int) (out : List (List (List Int))) : Prop := out = idF ds
theorem idF_length (ds : List Int) : (idF ds).length = ds.length := by simp [idF]
theorem idF_at (ds : List Int) {k : Nat} (h : k < ds.length) : (idF ds)[k]'(by rw [idF_length]; exact h) = idT (ds.getD k 0).toNat := by
  simp only [idF, List.getElem_map]
  rw [getD_of_lt _ h]
theorem idF_take (ds : List Int) {k : Nat} (h : k < ds.length) : idF (ds.take (k + 1)) = idF (ds.take k) ++ [idT (ds.getD k 0).toNat] := by
  simp only [idF]
  rw [List.take_succ_eq_append_getElem h, List.map_append, getD_of_lt _ h]
  rfl
open Classical in
noncomputable def isCode (p : Int) (ds : List Int) (ms : List (List (List Int))) : Int := if IsCx p ds ms then 0 else 1
theorem isCode_zero {p : Int} {ds : List Int} {ms : List (List (List Int))} (h : isCode p ds ms = 0) : IsCx p ds ms := Classical.byContradiction fun hn => by
  rw [isCode, if_neg hn] at h
  cases h
theorem idFam_bd {ds : List Int} {p : Int} {ms : List (List (List Int))} (h : IsCx p ds ms) {a : List (List (List Int))} (ha : IdFam ds a) : Bd3 1048576 a := by
  have h1 := h.1.len1
  rw [ha]
  refine ⟨by rw [idF_length]; omega, fun t ht => ?_⟩
  obtain ⟨d, hd, rfl⟩ := List.mem_map.1 ht
  have hd8 := h.1.dims d hd
  refine ⟨by simp [idT, tableOf]; omega, fun r hr => ?_⟩
  obtain ⟨j, _, rfl⟩ := List.mem_map.1 hr
  simp only [Bd1, List.length_map, List.length_range]
  omega

set_option maxHeartbeats 1600000 in
theorem identityTable_any (n : Nat) (w : World) (hn : n ≤ 1048576) : Calls Try.prog 139 #[.int .i64 n] w (MatR n n (fun j i => if i = j then 1 else 0) w) := by
  go_enter Try.func139, Try.ntmps139
  go_wp2_with fail
  refine (zeroTable_any n n _ hn hn).mono ?_
  rintro e w1 ⟨rfl, hm⟩
  have HM : Hid (Mat w w1 n n (fun j i => if j < 0 ∧ i = j then 1 else 0)) := Lib.hid (hm.congr (fun j _ i _ => by simp))
  clear hm
  go_wp2
  go_loopw [10] (fun i wr => ∃ (k : Nat), k ≤ n ∧ i = .int .i64 k ∧ Hid (Mat w wr n n (fun j i => if j < k ∧ i = j then 1 else 0))) (fun i _ => n - (intOf i).toNat)
  case atStart => exact ⟨0, Nat.zero_le _, rfl, HM⟩
  case round =>
    clear HM
    obtain ⟨k, hk, rfl, HM⟩ := hrel
    by_cases hlt : k < n
    · have htop := HM.out.top.cell hlt
      have hcel := (HM.out.rows k hlt).cell hlt
      have hfz := (HM.out.rows k hlt).frozen k
      have HS : Hid (Mat w (wr.setCell ⟨w.heap.size + 1 + k, k, none⟩ (.int .i64 1)) n n (fun j i => if j < k + 1 ∧ i = j then 1 else 0)) := Lib.hid ((HM.out.set hlt 1).congr (fun j _ i _ => by
        by_cases e : j = k ∧ i = k
        · rw [if_pos e, if_pos (by omega)]
        · rw [if_neg e]
          by_cases e2 : j < k ∧ i = j
          · rw [if_pos e2, if_pos (by omega)]
          · rw [if_neg e2, if_neg (by omega)]))
      clear HM
      go_wp2
      go_roundw
      case rel => exact ⟨k + 1, by omega, by go_num, HS⟩
      case measure => simp [intOf]; omega
    · have HS : Hid (Mat w wr n n (fun j i => if i = j then 1 else 0)) := Lib.hid (HM.out.congr (fun j hj i _ => by
        by_cases e : i = j
        · rw [if_pos ⟨by omega, e⟩, if_pos e]
        · rw [if_neg (fun h => e h.2), if_neg e]))
      clear HM
      go_wp2
      go_ret
      exact ⟨rfl, HS.out⟩

set_option maxHeartbeats 3200000 in
set_option maxRecDepth 100000 in
theorem identityMap_any (p : Int) (dv mv : Value) (ds : List Int) (ms : List (List (List Int))) (w : World) (h : Cx 0 w dv mv ds ms) (hd : ds.length ≤ 1048576) (hm : Bd3 1048576 ms) :
    Calls Try.prog 72 #[.agg #[.int .i64 p, dv, mv]] w (AnsW Rw3 (IdFam ds) [] (isCode p ds ms) w) := by
  obtain ⟨ad, cap, rfl⟩ := Sl.shape h.dims
  obtain ⟨am, capm, rfl⟩ := Sl.shape h.maps
  have HX0 := Lib.hid (Bx.start (p := p) 28 h)
  have HM := Lib.hid hm
  clear h hm
  by_cases hcx : IsCx p ds ms
  · have hl6 := hcx.1.len1
    have HCX := Lib.hid hcx
    have HCODE : Hid (isCode p ds ms = 0) := Lib.hid (if_pos hcx)
    have hmk := run_make_row' (P := Try.prog) 23 41 (.slice none 0 0) 24 Try.underlying23 Try.infoSS rfl .i64 .i64 ds.length (by omega) (by omega)
    clear hcx
    go_enter Try.func72, Try.ntmps72
    go_wp2_with fail
    refine (isComplex_any p _ _ ds ms _ HX0.out.cx hd HM.out).mono ?_
    rintro e w1 ⟨bb, rfl, hb1, hbb⟩
    obtain rfl : bb = true := hbb.2 HCX.out
    have HX1 := Lib.hid (HX0.out.next hb1)
    clear hb1 hbb HX0
    have c0 := HX1.out.c0
    have c1 := HX1.out.c1
    have c2 := HX1.out.c2
    have hs1 : w.heap.size < w1.heap.size := HX1.out.lt
    go_wp2
    clear hmk
    go_loopw [17] (fun i wr => ∃ (k : Nat) (f : Nat → Value) (b : Nat → Nat), k ≤ ds.length ∧ i = .int .i64 k ∧ Hid (Below w1.heap.size w1 wr) ∧ Hid (Fill3 wr w1.heap.size ds.length k f b (idF ds))) (fun i _ => ds.length - (intOf i).toNat)
    case atStart => exact ⟨0, _, _, Nat.zero_le _, rfl, Lib.hid (below_alloc1 _ _), Lib.hid (Fill3.start (World.rowIs_made w1 _ _ _) (by simp) _)⟩
    case round =>
      obtain ⟨k, f, b, hk, rfl, HB, HF⟩ := hrel
      by_cases hlt : k < ds.length
      · have hX := HX1.out.next HB.out
        have hcx0 := hX.cx
        have hdim := HCX.out.1.dim k
        obtain ⟨c, hc⟩ := Int.eq_ofNat_of_zero_le hdim.1
        have hc8 : c ≤ 8 := by omega
        refine Sl.cases hcx0.dims (fun _ _ hx _ => absurd hlt (by simp [hx])) (fun bd od capd hvd _ _ hcl => ?_)
        injection hvd with e1 e2 e3
        clear e2
        subst e1 e3
        obtain ⟨u, hu, hru⟩ := hcl k hlt
        have hu2 : wr.cell? ⟨bd, od + k, none⟩ = some (.int .i64 (c : Int)) := by rw [hu, hru, ← hc, getD_of_lt _ hlt]
        have HT : Hid ((idF ds)[k]'(by rw [idF_length]; exact hlt) = idT c) := Lib.hid (by
          rw [idF_at ds hlt, hc]
          rfl)
        have hrow := HF.out.row.cell hlt
        have hfro := HF.out.row.frozen k
        have hlr := HF.out.row.lt
        clear hu hru hcl hcx0 hX hdim hc
        go_wp2_with fail
        refine (identityTable_any c _ (by omega)).mono ?_
        rintro e w2 ⟨rfl, hm2⟩
        have HB2 := Lib.hid (HB.out.trans (hm2.below.mono HB.out.size))
        have HS2 := Lib.hid (HF.out.step hm2.below (by rw [idF_length]; exact hlt) (by rw [HT.out]; exact hm2.rw2 (Nat.le_refl _) (by omega) (by omega)))
        have hrow2 := later hm2.below (Nat.le_refl _) hrow
        have hfro2 : w2.frozen? ⟨w1.heap.size, k, none⟩ = false := (HF.out.row.of_block (hm2.below.block _ hlr)).frozen k
        have HB3 : Hid (Below w1.heap.size w1 (w2.setCell ⟨w1.heap.size, k, none⟩ (.slice (some ⟨wr.heap.size, 0, none⟩) c c))) := Lib.hid (HB2.out.setCell (Nat.le_refl _) _)
        clear hm2 hrow hfro hu2 HT
        go_wp2
        go_roundw
        case rel => exact ⟨k + 1, _, _, by omega, by go_num, HB3, HS2⟩
        case measure => simp [intOf]; omega
      · have HKE : Hid (k = ds.length) := Lib.hid (by omega)
        have HXX := Lib.hid (HX1.out.next HB.out)
        go_wp2
        go_ret2
        have hf := HF.out
        rw [HKE.out] at hf
        refine ⟨.slice (some ⟨w1.heap.size, 0, none⟩) ds.length ds.length, idF ds, 0, rfl, (hf.rw3 (by rw [idF_length]) (by omega)).wider (Nat.le_of_lt hs1) (Nat.le_refl _), HXX.out.below, RsOut.of_yes HCODE.out rfl⟩
  · have HNO := Lib.hid hcx
    have HCODE : Hid (isCode p ds ms = 1) := Lib.hid (if_neg hcx)
    clear hcx
    go_enter Try.func72, Try.ntmps72
    go_wp2_with fail
    refine (isComplex_any p _ _ ds ms _ HX0.out.cx hd HM.out).mono ?_
    rintro e w1 ⟨bb, rfl, hb1, hbb⟩
    obtain rfl : bb = false := by cases bb with | false => rfl | true => exact absurd (hbb.1 rfl) HNO.out
    have HX1 := Lib.hid (HX0.out.next hb1)
    clear hb1 hbb HX0
    go_wp2
    go_ret2
    refine ⟨_, [], 1, rfl, Rw3.nil _ _ _, HX1.out.below, ?_⟩
    rw [HCODE.out]
    exact RsOut.of_no (by decide)

/-- Row i of the identity. -/
def unitRow (n i : Nat) : List Int := (List.range n).map fun j => if j = i then 1 else 0
theorem unitRow_length (n i : Nat) : (unitRow n i).length = n := by simp [unitRow]
theorem idT_rows (n : Nat) : (List.range n).map (unitRow n) = idT n := rfl
set_option maxHeartbeats 800000 in
theorem l04Unit_any (n i : Nat) (w : World) (hn : n ≤ 1048576) (hi : i < n) : Calls Try.prog 138 #[.int .i64 n, .int .i64 i] w (GbR (unitRow n i) w) := by
  have hmk := run_make_row' (P := Try.prog) 22 2 (.int .i64 0) 8 Try.underlying22 Try.infoI rfl .i64 .i64 n (by omega) (by omega)
  have hc : (madeCells #[Value.int .i64 0] n)[i]? = some (.int .i64 0) := by simp [madeCells, hi, Nat.mod_one]
  go_enter Try.func138, Try.ntmps138
  go_wp2
  go_ret
  refine ⟨_, rfl, gb_row (unit_row w hi) (unitRow_length n i) (fun j hj => ?_) (by unfold maxLen; omega) (Nat.le_refl _), below_alloc1 _ _⟩
  simp only [unitRow, List.getElem_map, List.getElem_range, unitV]

set_option maxHeartbeats 6400000 in
set_option maxRecDepth 100000 in
theorem spIdentityMap_any (p : Int) (dv mv : Value) (ds : List Int) (ms : List (List (List Int))) (w : World) (h : Cx 0 w dv mv ds ms) (hd : ds.length ≤ 1048576) (hm : Bd3 1048576 ms) :
    Calls Try.prog 71 #[.agg #[.int .i64 p, dv, mv]] w (AnsS (L3 0) (IdFam ds) [] (isCode p ds ms) w) := by
  obtain ⟨ad, cap, rfl⟩ := Sl.shape h.dims
  obtain ⟨am, capm, rfl⟩ := Sl.shape h.maps
  have HX0 := Lib.hid (Bx.start (p := p) 28 h)
  have HM := Lib.hid hm
  clear h hm
  by_cases hcx : IsCx p ds ms
  · have hl6 := hcx.1.len1
    have HCX := Lib.hid hcx
    have HCODE : Hid (isCode p ds ms = 0) := Lib.hid (if_pos hcx)
    clear hcx
    go_enter Try.func71, Try.ntmps71
    go_wp2_with fail
    refine (l01Is_any p _ _ ds ms _ HX0.out.cx hd HM.out).mono ?_
    rintro e w1 ⟨bb, rfl, hb1, hbb⟩
    obtain rfl : bb = true := hbb.2 HCX.out
    have HX1 := Lib.hid (HX0.out.next hb1)
    clear hb1 hbb HX0
    have c0 := HX1.out.c0
    have c1 := HX1.out.c1
    have c2 := HX1.out.c2
    have HT0 := Lib.hid (Gt.new (base := w1.heap.size) w1 (Nat.le_refl _))
    have HNX : Hid (∀ W, Below w1.heap.size w1 W → Bx w W w.heap.size p (.slice ad ds.length cap) (.slice am ms.length capm) ds ms) := Lib.hid (fun W h => HX1.out.next h)
    go_wp2
    clear c0 c1 c2
    go_loopw [4, 5, 6, 7] (fun ov i _ _ wr => ∃ (k : Nat), k ≤ ds.length ∧ i = .int .i64 k ∧ Hid (Below w1.heap.size w1 wr) ∧ Hid (Gt w1.heap.size wr ov (idF (ds.take k)))) (fun _ i _ _ _ => ds.length - (intOf i).toNat)
    case atStart => exact ⟨0, Nat.zero_le _, rfl, Lib.hid (below_alloc1 _ _), Lib.hid (by rw [List.take_zero]; exact HT0.out)⟩
    case round =>
      clear HT0
      obtain ⟨k, hk, rfl, HB, HG⟩ := hrel
      obtain ⟨wx, hwx⟩ : ∃ wx : World, wx = wr := ⟨_, rfl⟩
      subst hwx
      have hX := HNX.out _ HB.out
      have c1 := hX.c1
      have HXX := Lib.hid hX
      clear hX
      have hgl : (idF (ds.take k)).length = k := by rw [idF_length, List.length_take]; omega
      obtain ⟨ao, co, hov⟩ := Sl.shape HG.out.l3
      rw [hgl] at hov
      subst hov
      have HGN := Lib.hid hgl
      clear hgl
      have hsx : w1.heap.size ≤ wx.heap.size := HB.out.size
      by_cases hlt : k < ds.length
      · have hdim := HCX.out.1.dim k
        obtain ⟨c, hc⟩ := Int.eq_ofNat_of_zero_le hdim.1
        have hc8 : c ≤ 8 := by omega
        have HDK : Hid (∀ W, Below w1.heap.size w1 W → ∃ bd od capd, (Value.slice ad ds.length cap) = .slice (some ⟨bd, od, none⟩) ds.length capd ∧ W.cell? ⟨bd, od + k, none⟩ = some (.int .i64 (c : Int))) := Lib.hid (fun W h => by
          refine Sl.cases (HNX.out W h).cx.dims (fun _ _ hx _ => absurd hlt (by simp [hx])) (fun bd od capd hvd _ _ hcl => ?_)
          obtain ⟨u, hu, hru⟩ := hcl k hlt
          exact ⟨bd, od, capd, hvd, by rw [hu, hru, ← hc, getD_of_lt _ hlt]⟩)
        obtain ⟨bd, od, capd, hvd, _⟩ := HDK.out _ HB.out
        injection hvd with e1 e2 e3
        clear e2
        subst e1 e3
        have HDC : Hid (∀ W, Below w1.heap.size w1 W → W.cell? ⟨bd, od + k, none⟩ = some (.int .i64 (c : Int))) := Lib.hid (fun W h => by
          obtain ⟨b2, o2, c2, hv, hh⟩ := HDK.out W h
          injection hv with e1
          injection e1 with e1
          injection e1 with e1 e2
          subst e1 e2
          exact hh)
        have HT : Hid ((idF (ds.take (k + 1))) = (idF (ds.take k)) ++ [idT c]) := Lib.hid (by
          rw [idF_take ds hlt, hc]
          rfl)
        have HS0 := Lib.hid (Gs.new (base := wx.heap.size) wx (Nat.le_refl _))
        clear hdim hc HDK
        go_wp2
        clear c1
        go_loopw [6, 7] (fun ov i wr => ∃ (j : Nat), j ≤ c ∧ i = .int .i64 j ∧ Hid (Below wx.heap.size wx wr) ∧ Hid (Gs wx.heap.size wr ov ((List.range j).map (unitRow c)))) (fun _ i _ => c - (intOf i).toNat)
        case atStart => exact ⟨0, Nat.zero_le _, rfl, Lib.hid (below_alloc1 _ _), Lib.hid (by simpa using HS0.out)⟩
        case round =>
          clear HS0
          obtain ⟨j, hj, rfl, HBY, HS⟩ := hrel
          obtain ⟨wy, hwy⟩ : ∃ wy : World, wy = wr := ⟨_, rfl⟩
          subst hwy
          have hsy : wx.heap.size ≤ wy.heap.size := HBY.out.size
          have HB1Y := Lib.hid (HB.out.trans (HBY.out.mono hsx))
          have hXY := HNX.out _ HB1Y.out
          have c1 := hXY.c1
          clear hXY
          have hcd := HDC.out _ HB1Y.out
          have hgl : ((List.range j).map (unitRow c)).length = j := by simp
          obtain ⟨ar, cr, hrv⟩ := Sl.shape HS.out.l2
          rw [hgl] at hrv
          subst hrv
          have HSN := Lib.hid hgl
          clear hgl
          by_cases hlj : j < c
          · have HTJ : Hid (((List.range (j + 1)).map (unitRow c)) = ((List.range j).map (unitRow c)) ++ [unitRow c j]) := Lib.hid (by rw [List.range_succ, List.map_append]; rfl)
            have hjl : (j : Int) < (c : Int) := by omega
            go_wp2_with fail
            refine (l04Unit_any c j _ (by omega) hlj).mono ?_
            rintro e w2 ⟨u2, rfl, hg2, hb2⟩
            obtain ⟨a2, n2, hv2⟩ := Sl.shape hg2.l1
            rw [unitRow_length] at hv2
            subst hv2
            have hs2 : wy.heap.size ≤ w2.heap.size := hb2.size
            have hba : Below w2.heap.size w2 (w2.alloc (.cells #[.slice a2 c n2] 22)) := below_alloc1 _ _
            have HSL := Lib.hid ((HS.out.below hb2).below hba)
            have HGU := Lib.hid (hg2.g1.below hba)
            have HBZ := Lib.hid ((HBY.out.trans (hb2.mono hsy)).trans (hba.mono (by omega)))
            have hcell := cell_alloc1 w2 (.slice a2 c n2) 22
            clear hb2 hg2 hba c1 hcd
            go_wp2_with (at_builtin; refine wpList_appendG rfl (some 38) rfl (.tmp 29) (.tmp 37) rfl wx.heap.size _ ((List.range j).map (unitRow c)) rfl HSL.out w2.heap.size rfl a2 c n2 hcell _ HGU.out ?c1 ?c2 ?_)
            case c1 => rw [HSN.out]; omega
            case c2 => first | (simp; omega) | omega
            intro v7 W7 hg7 hgr7
            have HS7 : Hid (Gs wx.heap.size W7 v7 ((List.range (j + 1)).map (unitRow c))) := Lib.hid (by rw [HTJ.out]; exact hg7)
            have HB7 : Hid (Below wx.heap.size wx W7) := Lib.hid (HBZ.out.grown hgr7 (by simp; omega) (fun g hg => (HSL.out.lt g hg).1))
            clear hg7 hgr7 hcell
            go_wp2
            go_roundw
            case rel => first | exact ⟨j + 1, by omega, by go_num, HB7, HS7⟩ | ((repeat apply Exists.intro); exact ⟨⟨j + 1, by omega, by go_num, HB7, HS7⟩, rfl⟩)
            case measure => simp [intOf]; omega
          · have hjc : Hid (j = c) := Lib.hid (by omega)
            have HTB : Hid (Gs wx.heap.size wy (.slice ar j cr) (idT c)) := Lib.hid (by have := HS.out; rwa [show ((List.range j).map (unitRow c)) = idT c by rw [hjc.out]; rfl] at this)
            have hba : Below wy.heap.size wy (wy.alloc (.cells #[.slice ar j cr] 41)) := below_alloc1 _ _
            have HGL := Lib.hid ((HG.out.below HBY.out).below hba)
            have HGU : Hid (Gs 0 (wy.alloc (.cells #[.slice ar j cr] 41)) (.slice ar j cr) (idT c)) := Lib.hid ((HTB.out.below hba).mono (Nat.zero_le _))
            have HBZ := Lib.hid (HB1Y.out.trans (hba.mono HB1Y.out.size))
            have hcell := cell_alloc1 wy (.slice ar j cr) 41
            clear hba HS HTB
            go_wp2_with (at_builtin; refine wpList_appendT3 rfl (some 42) rfl (.tmp 39) (.tmp 41) rfl w1.heap.size _ (idF (ds.take k)) rfl HGL.out wy.heap.size rfl ar j cr hcell _ HGU.out ?c1 ?c2 ?_)
            case c1 => rw [HGN.out]; omega
            case c2 => first | (simp; omega) | omega
            intro v7 W7 hg7 hgr7
            have HG7 : Hid (Gt w1.heap.size W7 v7 (idF (ds.take (k + 1)))) := Lib.hid (by rw [HT.out]; exact hg7)
            have HB7 : Hid (Below w1.heap.size w1 W7) := Lib.hid (HBZ.out.grown hgr7 (by simp; omega) (fun g hg => (HGL.out.lt g hg).1))
            clear hg7 hgr7 hcell
            go_wp2
            go_roundw
            case rel => first | exact ⟨k + 1, by omega, by go_num, HB7, HG7⟩ | ((repeat apply Exists.intro); exact ⟨⟨k + 1, by omega, by go_num, HB7, HG7⟩, rfl⟩)
            case measure => simp [intOf]; omega
      · have HKE : Hid (k = ds.length) := Lib.hid (by omega)
        go_wp2
        go_ret2
        refine ⟨_, _, 0, rfl, HG.out.l3, HXX.out.below, RsOut.of_yes HCODE.out ?_⟩
        rw [HKE.out, List.take_length]
        rfl
  · have HNO := Lib.hid hcx
    have HCODE : Hid (isCode p ds ms = 1) := Lib.hid (if_neg hcx)
    clear hcx
    go_enter Try.func71, Try.ntmps71
    go_wp2_with fail
    refine (l01Is_any p _ _ ds ms _ HX0.out.cx hd HM.out).mono ?_
    rintro e w1 ⟨bb, rfl, hb1, hbb⟩
    obtain rfl : bb = false := by cases bb with | false => rfl | true => exact absurd (hbb.1 rfl) HNO.out
    have HX1 := Lib.hid (HX0.out.next hb1)
    clear hb1 hbb HX0
    go_wp2
    go_ret2
    refine ⟨_, [], 1, rfl, Or.inl ⟨rfl, _, _, rfl⟩, HX1.out.below, ?_⟩
    rw [HCODE.out]
    exact RsOut.of_no (by decide)
end Go.Proofs.Ytpdkfidmmjlmnaa
