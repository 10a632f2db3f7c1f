/-
  Sums of spaces: impl.SumOfSpaces, spec.l01Plus, spec.SumOfSpaces by their contracts.
-/
import Derived.Test.YtlbalcckjokeiaaSpaceS
import Derived.Test.YtlbalcckjokeiaaCat
namespace Go.Proofs.Ytlbalcckjokeiaa
open Go.RowKit

theorem spsTwo {p n : Int} {a b : List (List Int)} : SpsOk p n [a, b] ↔ SpOk p n a ∧ SpOk p n b :=
  ⟨fun h => ⟨⟨h.1.1, h.1.2, h.2 a (by simp)⟩, ⟨h.1.1, h.1.2, h.2 b (by simp)⟩⟩, fun h => ⟨⟨h.1.1, h.1.2.1⟩, fun r hr => by
    rcases List.mem_cons.1 hr with rfl | hr
    · exact h.1.2.2
    · rw [List.mem_singleton.1 hr]; exact h.2.2.2⟩⟩
theorem sum_md {p n : Int} {a b : List (List Int)} (ha : SpOk p n a) (hb : SpOk p n b) : ∀ u ∈ a.map ofL ++ b.map ofL, Lin.Md p u := fun u hu => by
  rcases List.mem_append.1 hu with h | h
  · exact ha.md u h
  · exact hb.md u h
theorem sum_wd {p n : Int} {a b : List (List Int)} (ha : SpOk p n a) (hb : SpOk p n b) : ∀ u ∈ a.map ofL ++ b.map ofL, Lin.Wd n.toNat u := fun u hu => by
  rcases List.mem_append.1 hu with h | h
  · exact ha.wd u h
  · exact hb.wd u h
theorem spsCode_zero {p n : Int} {ls : List (List (List Int))} (h : spsCode p n ls = 0) : SpsOk p n ls := Classical.byContradiction fun hn => by
  rw [spsCode_no hn] at h
  cases h

set_option maxHeartbeats 1600000 in
theorem sumOfSpaces_any (p n : Int) (va vb : Value) (a b : List (List Int)) (w : World) (ha : L2 0 w va a) (hb : L2 0 w vb b) (hma : Bd2 1048576 a) (hmb : Bd2 1048576 b) :
    Calls Try.prog 23 #[.int .i64 p, .int .i64 n, va, vb] w (SpW p n.toNat (Lin.Sp p (a.map ofL ++ b.map ofL)) (spsCode p n [a, b]) w) := by
  have HLA := Lib.hid ha
  have HLB := Lib.hid hb
  have HA := Lib.hid (areSpaceRows_any p n va a w ha hma)
  have HB := Lib.hid (areSpaceRows_any p n vb b w hb hmb)
  clear ha hb hma hmb
  by_cases hoa : SpOk p n a
  · have HAY : Hid (Calls Try.prog 61 #[.int .i64 p, .int .i64 n, va] w (QW (.bool true) w)) := Lib.hid (bw_yes HA.out hoa)
    have HOA := Lib.hid hoa
    clear HA
    by_cases hob : SpOk p n b
    · have HBY : Hid (Calls Try.prog 61 #[.int .i64 p, .int .i64 n, vb] w (QW (.bool true) w)) := Lib.hid (bw_yes HB.out hob)
      have HOB := Lib.hid hob
      have hn := hoa.2.1
      have hla := hoa.2.2.1
      have hlb := hob.2.2.1
      obtain ⟨n, rfl⟩ := Int.eq_ofNat_of_zero_le hn.1
      have hn40 : n ≤ 40 := by omega
      clear HB hoa hob hn
      go_enter Try.func23, Try.ntmps23
      go_wp2_with fail
      refine HAY.out.mono ?_
      rintro e w' ⟨rfl, rfl⟩
      clear HAY
      go_wp2_with fail
      refine HBY.out.mono ?_
      rintro e w' ⟨rfl, rfl⟩
      clear HBY
      go_wp2_with fail
      refine (vectorsOf_any va a _ HLA.out (by omega) HOA.out.short).mono ?_
      rintro e w1 ⟨s1, M, rfl, hb1, ho1, rfl⟩
      have HB1 := Lib.hid hb1
      have HO1 := Lib.hid (ho1.vs.lower (Nat.zero_le _))
      clear hb1 ho1
      go_wp2_with fail
      refine (vectorsOf_any vb b _ (HLB.out.below HB1.out) (by omega) HOB.out.short).mono ?_
      rintro e w2 ⟨s2, M, rfl, hb2, ho2, rfl⟩
      have HB2 := Lib.hid (HB1.out.trans (hb2.mono HB1.out.size))
      have HO2 := Lib.hid (ho2.vs.lower (Nat.zero_le _))
      have HO1' := Lib.hid (HO1.out.below hb2)
      clear hb2 ho2 HB1 HO1
      go_wp2_with fail
      refine (sumSpace_any p s1 s2 _ _ _ HOA.out.1 HO1'.out HO2.out (sum_md HOA.out HOB.out) (fun u hu => wd_wider (sum_wd HOA.out HOB.out u hu) (by simpa using hn40)) (by rw [List.length_append, List.length_map, List.length_map]; omega)).mono ?_
      rintro e w3 ⟨s3, R, rfl, hb3, ho3, hr, hlr⟩
      have HB3 := Lib.hid (HB2.out.trans (hb3.mono HB2.out.size))
      have HO3 := Lib.hid (ho3.vs.lower (Nat.zero_le _))
      have HR := Lib.hid hr
      have hlr2 : R.length ≤ 80 := by rw [List.length_append, List.length_map, List.length_map] at hlr; omega
      clear hb3 ho3 hr hlr HB2 HO2 HO1'
      go_wp2_with fail
      refine (rowsOf_any n s3 R _ HO3.out hn40 (by omega)).mono ?_
      rintro e w4 ⟨u4, rfl, ht4, hb4⟩
      have HT4 := Lib.hid ht4
      have hs4 : w.heap.size ≤ w3.heap.size := HB3.out.size
      have HB4 := Lib.hid (HB3.out.trans (hb4.mono HB3.out.size))
      clear hb4 ht4 HB3 HO3
      go_wp2
      go_ret2
      refine ⟨u4, R.map (toL n), 0, rfl, HT4.out.wider hs4, HB4.out, ?_⟩
      rw [spsCode_ok (spsTwo.2 ⟨HOA.out, HOB.out⟩)]
      exact SpOut.of_red HR.out (sum_wd HOA.out HOB.out) HR.out.red.md
    · have HNO := Lib.hid hob
      have HBN : Hid (Calls Try.prog 61 #[.int .i64 p, .int .i64 n, vb] w (QW (.bool false) w)) := Lib.hid (bw_no HB.out hob)
      clear HB hob hoa
      go_enter Try.func23, Try.ntmps23
      go_wp2_with fail
      refine HAY.out.mono ?_
      rintro e w' ⟨rfl, rfl⟩
      clear HAY
      go_wp2_with fail
      refine HBN.out.mono ?_
      rintro e w' ⟨rfl, rfl⟩
      go_wp2
      go_ret2
      refine ⟨_, [], 2, rfl, TW.nil _ _ _, Below.refl _ _, ?_⟩
      rw [spsCode_no (fun h => HNO.out (spsTwo.1 h).2)]
      exact SpOut.of_no (by decide)
  · have HNO := Lib.hid hoa
    have HAN : Hid (Calls Try.prog 61 #[.int .i64 p, .int .i64 n, va] w (QW (.bool false) w)) := Lib.hid (bw_no HA.out hoa)
    clear HA HB hoa
    go_enter Try.func23, Try.ntmps23
    go_wp2_with fail
    refine HAN.out.mono ?_
    rintro e w' ⟨rfl, rfl⟩
    go_wp2
    go_ret2
    refine ⟨_, [], 2, rfl, TW.nil _ _ _, Below.refl _ _, ?_⟩
    rw [spsCode_no (fun h => HNO.out (spsTwo.1 h).1)]
    exact SpOut.of_no (by decide)

/-- The rows' values of a table. -/
structure RowsAt (w : World) (v : Value) (tb : List (List Int)) (vs : List Value) : Prop where
  len : vs.length = tb.length
  row : ∀ k (h1 : k < vs.length) (h2 : k < tb.length), L1 0 w vs[k] tb[k]
  one : ∀ u ∈ vs, u.oneCell' = true
  at' : ∃ ad cap, v = .slice ad tb.length cap ∧ (0 < tb.length → ∃ a, ad = some a ∧ ∀ j u, vs[j]? = some u → w.cell? (a.add j) = some u)
theorem rowsAt {w : World} {v : Value} {tb : List (List Int)} (h : L2 0 w v tb) : ∃ vs, RowsAt w v tb vs := by
  refine Sl.cases h (fun ad cap hx hv => ?_) (fun b o cap hv _ hpos hc => ?_)
  · subst hx hv
    exact ⟨[], rfl, fun k h1 _ => absurd h1 (Nat.not_lt_zero _), by simp, ad, cap, rfl, fun h0 => absurd h0 (Nat.lt_irrefl 0)⟩
  · have hval : ∀ k (hk : k < tb.length), w.cell? ⟨b, o + k, none⟩ = some ((w.cell? ⟨b, o + k, none⟩).getD undef) ∧ L1 0 w ((w.cell? ⟨b, o + k, none⟩).getD undef) tb[k] := fun k hk => by
      obtain ⟨u, hu, hr⟩ := hc k hk
      rw [hu]
      exact ⟨rfl, hr⟩
    refine ⟨(List.range tb.length).map (fun k => (w.cell? ⟨b, o + k, none⟩).getD undef), by simp, fun k h1 h2 => ?_, fun u hu => ?_, _, cap, hv, fun _ => ⟨_, rfl, fun j u hj => ?_⟩⟩
    · simp only [List.getElem_map, List.getElem_range]
      exact (hval k h2).2
    · obtain ⟨k, hk, rfl⟩ := List.mem_map.1 hu
      obtain ⟨ad, cp, e⟩ := Sl.shape (hval k (List.mem_range.1 hk)).2
      rw [e]
      rfl
    · have hjl : j < tb.length := by have := (List.getElem?_eq_some_iff.1 hj).1; simpa using this
      rw [Addr.add_lit, (hval j hjl).1]
      simpa [hjl] using hj
theorem RowsAt.below {w w' : World} {v : Value} {tb : List (List Int)} {vs : List Value} (h : RowsAt w v tb vs) (hb : Below w.heap.size w w') : RowsAt w' v tb vs := by
  obtain ⟨ad, cap, hv, hc⟩ := h.at'
  refine ⟨h.len, fun k h1 h2 => (h.row k h1 h2).below hb, h.one, ad, cap, hv, fun h0 => ?_⟩
  obtain ⟨a, ha, hc⟩ := hc h0
  exact ⟨a, ha, fun j u hj => by rw [hb.cell (World.block_lt_of_cell? _ _ (hc j u hj)), hc j u hj]⟩
theorem wpList_appendT {ops : Array Oper} {rest : List Oper} {o : Oper} {a : Act} {w : World} {Q : Exit → Act → World → Prop} (hgd : o.guard = none) (dst : Option Tmp) (hdst : o.dst = dst) (s x : Operand)
    (ho : o.op = .call { callee := .builtin .append, args := #[s, x], argTypes := #[22, 22] }) (base n : Nat) (v u : Value) (xs : List Value) (tb : List (List Int)) (vs : List Value) (hs : a.eval s = v) (hx : a.eval x = u) (hown : w.ownsRow base 31 1 v n xs) (hT : RowsAt w u tb vs)
    (hl : n + tb.length ≤ 2097152) (hb : base ≤ w.heap.size)
    (h : ∀ v' w', w'.ownsRow base 31 1 v' (n + tb.length) (xs ++ vs) → w.grownBy w' v.ownBlock → wpList Try.prog ops Q rest (a.put dst v') w') : wpList Try.prog ops Q (o :: rest) a w := by
  obtain ⟨i, hi, hz, hs1, hb1⟩ := info_parts Try.infoS
  subst hdst
  obtain ⟨ad, cap, hv, hc⟩ := hT.at'
  subst hv
  by_cases h0 : tb.length = 0
  · have hvs : vs = [] := List.eq_nil_of_length_eq_zero (by rw [hT.len, h0])
    subst hvs
    rw [h0] at hx h
    refine Lib.wpList_append_run _ hgd s x _ _ ho _ _ hs hx _ _ (run_append_none' w _ _ _ i Try.underlying22 hi hown ad cap) ?_
    rw [List.append_nil] at h
    exact h v w hown ⟨rfl, rfl, rfl, Nat.le_refl _, fun _ _ _ => rfl⟩
  · obtain ⟨a0, rfl, hcell⟩ := hc (by omega)
    exact wpList_append_own w hgd s x 22 ho base 31 i _ 1 24 Try.underlying22 hi hz hs1 hb1 rfl (by decide) v n xs hs hown a0 tb.length cap vs hx (by rw [hT.len]; omega) hcell hT.one (by unfold maxLen; omega) (by omega) hb (fun v' w' h1 h2 _ => h v' w' h1 h2)

set_option maxHeartbeats 1600000 in
set_option maxRecDepth 100000 in
theorem l01Plus_any (p : Int) (n : Nat) (va vb : Value) (A B : List Lin.V) (w : World) (hp : IsP p) (ha : L2 0 w va (A.map (toL n))) (hb : L2 0 w vb (B.map (toL n))) (hm : ∀ u ∈ A ++ B, Lin.Md p u) (hw : ∀ u ∈ A ++ B, Lin.Wd n u) (hn : n ≤ 1048576) (hl : (A ++ B).length ≤ 1048575) :
    Calls Try.prog 65 #[.int .i64 p, va, vb] w (EchR p n (A ++ B) w) := by
  have HP := Lib.hid hp
  have HM := Lib.hid hm
  have HW := Lib.hid hw
  obtain ⟨asv, hra⟩ := rowsAt ha
  obtain ⟨bsv, hrb⟩ := rowsAt hb
  have HRA := Lib.hid hra
  have HRB := Lib.hid hrb
  have hal : (A.map (toL n)).length = A.length := List.length_map _
  have hbl : (B.map (toL n)).length = B.length := List.length_map _
  rw [List.length_append] at hl
  have HOWN0 := Lib.hid (World.ownsRow_made (base := w.heap.size) (e := 31) (size := 1) w #[] 0 (Nat.le_refl _) (by unfold maxLen; omega) (by simp))
  have hb0 : Below w.heap.size w (w.alloc (.cells #[] 31)) := (Below.refl _ _).alloc (Nat.le_refl _) _
  have HB0 := Lib.hid hb0
  have HRA0 := Lib.hid (hra.below hb0)
  clear hp ha hb hm hw hra hrb hb0
  go_enter Try.func65, Try.ntmps65
  go_wp2_with (at_builtin; refine wpList_appendT rfl (some 10) rfl (.tmp 8) (.tmp 9) rfl w.heap.size 0 _ _ [] (A.map (toL n)) asv rfl rfl HOWN0.out HRA0.out ?c1 ?c2 ?_)
  case c1 => rw [hal]; omega
  case c2 => simp
  rw [List.nil_append]
  intro v1 w1 ho1 hg1
  have HB1 : Hid (Below w.heap.size w w1) := Lib.hid (HB0.out.grown hg1 (by simp) (fun g hg => ((World.ownsRow.lt HOWN0.out) g hg).1))
  have HO1 := Lib.hid ho1
  have HRB1 := Lib.hid (HRB.out.below HB1.out)
  clear ho1 hg1 HRA0 HOWN0 HB0
  go_wp2_with (at_builtin; refine wpList_appendT rfl (some 12) rfl (.tmp 10) (.tmp 11) rfl w.heap.size _ _ _ asv (B.map (toL n)) bsv rfl rfl HO1.out HRB1.out ?c1 ?c2 ?_)
  case c1 => rw [hal, hbl]; omega
  case c2 => exact HB1.out.size
  intro v2 w2 ho2 hg2
  have HB2 : Hid (Below w.heap.size w w2) := Lib.hid (HB1.out.grown hg2 HB1.out.size (fun g hg => ((World.ownsRow.lt HO1.out) g hg).1))
  have HL2 : Hid (L2 0 w2 v2 ((A ++ B).map (toL n))) := Lib.hid (by
    rw [List.map_append]
    refine sl_of_owns ho2 (Nat.zero_le _) (by simp) (fun k h1 h2 => ?_)
    have hasl := HRA.out.len
    have hbsl := HRB.out.len
    by_cases e : k < asv.length
    · rw [List.getElem_append_left e, List.getElem_append_left (by omega)]
      exact (HRA.out.row k e (by omega)).below HB2.out
    · rw [List.getElem_append_right (by omega), List.getElem_append_right (by omega)]
      have h3 : k - asv.length < bsv.length := by rw [List.length_append] at h2; omega
      have := (HRB.out.row (k - asv.length) h3 (by omega)).below HB2.out
      simpa [hasl] using this)
  clear ho2 hg2 HO1 HRB1 HB1
  go_wp2_with fail
  refine (l01Echelon_any p n v2 (A ++ B) w2 HP.out HL2.out HM.out HW.out hn (by rw [List.length_append]; omega)).mono ?_
  rintro e w3 ⟨u3, R, rfl, hg3, hb3, hr3, hlr3⟩
  have HG3 := Lib.hid hg3
  have HR3 := Lib.hid hr3
  have HB3 := Lib.hid (HB2.out.trans (hb3.mono HB2.out.size))
  have hs2 := HB2.out.size
  clear hg3 hb3 hr3
  go_wp2
  go_ret
  exact ⟨_, R, rfl, HG3.out.mono hs2, HB3.out, HR3.out, hlr3⟩

set_option maxHeartbeats 1600000 in
theorem spSumOfSpaces_any (p n : Int) (va vb : Value) (a b : List (List Int)) (w : World) (ha : L2 0 w va a) (hb : L2 0 w vb b) (hma : Bd2 1048576 a) (hmb : Bd2 1048576 b) :
    Calls Try.prog 22 #[.int .i64 p, .int .i64 n, va, vb] w (SpS p n.toNat (Lin.Sp p (a.map ofL ++ b.map ofL)) (spsCode p n [a, b]) w) := by
  obtain ⟨ada, capa, rfl⟩ := Sl.shape ha
  obtain ⟨adb, capb, rfl⟩ := Sl.shape hb
  have hba := below_alloc1 w (.cells #[.slice ada a.length capa, .slice adb b.length capb] 22)
  have HB := Lib.hid hba
  have HL : Hid (L3 0 (w.alloc (.cells #[.slice ada a.length capa, .slice adb b.length capb] 22)) (.slice (some ⟨w.heap.size, 0, none⟩) 2 2) [a, b]) := Lib.hid (Or.inr ⟨w.heap.size, 0, 2, rfl, Nat.zero_le _, by simp, fun k hk => by
    match k, hk with
    | 0, _ => exact ⟨.slice ada a.length capa, by unfold World.cell?; rw [heap_alloc_new w _]; rfl, ha.below hba⟩
    | 1, _ => exact ⟨.slice adb b.length capb, by unfold World.cell?; rw [heap_alloc_new w _]; rfl, hb.below hba⟩⟩)
  have HVA := Lib.hid (ha.below hba)
  have HVB := Lib.hid (hb.below hba)
  have HM : Hid (Bd3 1048576 [a, b]) := Lib.hid ⟨by simp, fun r hr => by
    rcases List.mem_cons.1 hr with rfl | hr
    · exact hma
    · rw [List.mem_singleton.1 hr]; exact hmb⟩
  clear ha hb hma hmb hba
  have HSP := Lib.hid (l01Spaces_any p n _ [a, b] _ HL.out HM.out)
  by_cases hok : SpsOk p n [a, b]
  · have HOK := Lib.hid (spsTwo.1 hok)
    have HSO := Lib.hid hok
    have hn := HOK.out.1.2.1
    have hla := HOK.out.1.2.2.1
    have hlb := HOK.out.2.2.2.1
    obtain ⟨n, rfl⟩ := Int.eq_ofNat_of_zero_le hn.1
    have hn40 : n ≤ 40 := by omega
    clear hok hn
    go_enter Try.func22, Try.ntmps22
    go_wp2_with fail
    refine HSP.out.mono ?_
    rintro e w1 ⟨rfl, hb1⟩
    rw [spsCode_ok HSO.out]
    have HB1 := Lib.hid (HB.out.trans (hb1.mono (by simp)))
    have HVA1 := Lib.hid (HVA.out.below hb1)
    have HVB1 := Lib.hid (HVB.out.below hb1)
    clear hb1 HSP
    have HTA := Lib.hid (rows_toL (n := n) (fun r hr => HOK.out.1.row hr))
    have HTB := Lib.hid (rows_toL (n := n) (fun r hr => HOK.out.2.row hr))
    go_wp2_with fail
    refine (l01Plus_any p n _ _ (a.map ofL) (b.map ofL) w1 HOK.out.1.1 (by rw [HTA.out]; exact HVA1.out) (by rw [HTB.out]; exact HVB1.out) (sum_md HOK.out.1 HOK.out.2) (fun u hu => by simpa using sum_wd HOK.out.1 HOK.out.2 u hu) (by omega) (by rw [List.length_append, List.length_map, List.length_map]; omega)).mono ?_
    rintro e w2 ⟨u2, R, rfl, hg2, hb2, hr2, _⟩
    have HG2 := Lib.hid hg2.l2
    have HB2 := Lib.hid (HB1.out.trans (hb2.mono HB1.out.size))
    have HR2 := Lib.hid hr2
    clear hg2 hb2 hr2
    go_wp2
    go_ret2
    refine ⟨u2, R.map (toL n), 0, rfl, HG2.out, HB2.out, ?_⟩
    rw [spsCode_ok HSO.out]
    exact SpOut.of_redN HR2.out
  · have HNO := Lib.hid hok
    clear hok
    go_enter Try.func22, Try.ntmps22
    go_wp2_with fail
    refine HSP.out.mono ?_
    rintro e w1 ⟨rfl, hb1⟩
    rw [spsCode_no HNO.out]
    have HB1 := Lib.hid (HB.out.trans (hb1.mono (by simp)))
    clear hb1 HSP
    go_wp2
    go_ret2
    refine ⟨_, [], 2, rfl, nil2 _, HB1.out, ?_⟩
    rw [spsCode_no HNO.out]
    exact SpOut.of_no (by decide)
end Go.Proofs.Ytlbalcckjokeiaa
