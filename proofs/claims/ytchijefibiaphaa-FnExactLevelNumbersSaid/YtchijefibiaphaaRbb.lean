/-
  The boundaries of levels of the model by contract: spec.l09Bounds.
-/
import Derived.Test.YtchijefibiaphaaRbs
namespace Go.Proofs.Ytchijefibiaphaa
open Go.RowKit

/-- A table whose rows lay in an elder world. -/
def Ro (w0 : World) (base : Nat) (w : World) (v : Value) (t : List (List Int)) : Prop := ∃ vs, w.ownsRow base 22 1 v t.length vs ∧ ∀ k (h1 : k < vs.length) (h2 : k < t.length), L1 0 w0 vs[k] t[k]
theorem Ro.below {w0 w w' : World} {base : Nat} {v : Value} {t : List (List Int)} (h : Ro w0 base w v t) (hb : Below w.heap.size w w') : Ro w0 base w' v t := by
  obtain ⟨vs, ho, hr⟩ := h
  exact ⟨vs, owns_below ho hb, hr⟩
theorem Ro.lt {w0 w : World} {base : Nat} {v : Value} {t : List (List Int)} (h : Ro w0 base w v t) : ∀ k, v.ownBlock = some k → base ≤ k ∧ k < w.heap.size := by
  obtain ⟨vs, ho, _⟩ := h
  exact World.ownsRow.lt ho
theorem Ro.new {w0 w : World} {base : Nat} (hb : base ≤ w.heap.size) : Ro w0 base (w.alloc (.cells #[] 22)) (.slice (some ⟨w.heap.size, 0, none⟩) 0 0) [] := by
  obtain ⟨vs, ho, _⟩ := Gs.new (base := base) w hb
  exact ⟨vs, ho, fun k _ h2 => absurd h2 (Nat.not_lt_zero _)⟩
theorem Ro.l2 {w0 w : World} {base : Nat} {v : Value} {t : List (List Int)} (h : Ro w0 base w v t) (hb : Below w0.heap.size w0 w) : L2 0 w v t := by
  obtain ⟨vs, ho, hr⟩ := h
  exact sl_of_owns ho (Nat.zero_le _) rfl (fun k h1 h2 => (hr k h2 h1).below hb)
theorem Ro.shape {w0 w : World} {base : Nat} {v : Value} {t : List (List Int)} (h : Ro w0 base w v t) (hb : Below w0.heap.size w0 w) : ∃ a c, v = .slice a t.length c := Sl.shape (h.l2 hb)
theorem wpList_appendRo {ops : Array Oper} {rest : List Oper} {o : Oper} {a : Act} {w : World} {Q : Exit → Act → World → Prop} (hgd : o.guard = none) (dst : Option Tmp) (hdst : o.dst = dst) (s x : Operand)
    (ho : o.op = .call { callee := .builtin .append, args := #[s, x], argTypes := #[61, 61] }) (w0 : World) (base : Nat) (v : Value) (tb : List (List Int)) (hs : a.eval s = v) (hown : Ro w0 base w v tb)
    (b : Nat) (hx : a.eval x = .slice (some ⟨b, 0, none⟩) 1 1) (ar : Option Addr) (nr cr : Nat) (hc : w.cell? ⟨b, 0, none⟩ = some (.slice ar nr cr)) (y : List Int) (hy : L1 0 w0 (.slice ar nr cr) y) (hl : tb.length ≤ 2097151) (hb : base ≤ w.heap.size)
    (h : ∀ v' w', Ro w0 base w' v' (tb ++ [y]) → w.grownBy w' v.ownBlock → wpList Try.prog ops Q rest (a.put dst v') w') : wpList Try.prog ops Q (o :: rest) a w := by
  obtain ⟨i, hi, hz, hs1, hb1⟩ := info_parts Try.infoS
  obtain ⟨vs, hvo, hvr⟩ := hown
  subst hdst
  have hvl : vs.length = tb.length := by have := hvo.1; omega
  refine wpList_append_own w hgd s x 61 ho base 22 i _ 1 24 Try.underlying61 hi hz hs1 hb1 rfl (by decide) v tb.length vs hs hvo ⟨b, 0, none⟩ 1 1 [.slice ar nr cr] hx rfl ?_ ?_ (by unfold maxLen; omega) (by omega) hb (fun v' w' h1 h2 _ => h v' w' ⟨vs ++ [.slice ar nr cr], by rw [List.length_append]; exact h1, fun k k1 k2 => ?_⟩ h2)
  · intro j u hj
    match j, hj with
    | 0, hj =>
      simp at hj
      subst hj
      exact hc
  · intro u hu
    simp at hu
    subst hu
    rfl
  · by_cases e : k < vs.length
    · rw [List.getElem_append_left e, List.getElem_append_left (by omega)]
      exact hvr k e (by omega)
    · rw [List.getElem_append_right (by omega), List.getElem_append_right (by omega)]
      have : k - vs.length = 0 := by rw [List.length_append, List.length_singleton] at k1; omega
      have h2 : k - tb.length = 0 := by omega
      simpa [this, h2] using hy

theorem row_unit {p : Int} {n : Nat} {t : List (List Int)} (hp : 0 < p) (htr : ∀ r ∈ t, RowOk p (n : Int) r) {j : Nat} (hj : j < t.length) : toL n (dimg p t.length t (unitV j)) = t[j] := by
  have hr := htr t[j] (List.getElem_mem hj)
  have hl : (t[j]).length = n := by have := hr.1; omega
  have e : dimg p t.length t (unitV j) = ofL t[j] := by
    funext i
    unfold dimg img
    rw [Lin.dot_one (a := j) hj (fun i hi hne => by simp only [unitV]; rw [if_neg hne, Int.mul_zero])]
    simp only [unitV, if_true, Int.mul_one, Lin.col]
    rw [rowsV_at (by rw [List.length_map]; exact hj), List.getElem_map]
    have h := ofL_md hp hr i
    exact Int.emod_eq_of_lt h.1 h.2
  rw [e, toL_ofL hl]
/-- The differentials of the basis vectors among the first i. -/
def bdR (p : Int) (c : Nat) (t : List (List Int)) (l : List Int) (s : Int) (i : Nat) : List (List Int) := ((fqL l s i).map (dimg p t.length t)).map (toL c)
theorem bdR_yes {p : Int} {c : Nat} {t : List (List Int)} {l : List Int} {s : Int} {i : Nat} (hp : 0 < p) (htr : ∀ r ∈ t, RowOk p (c : Int) r) (hi : i < t.length) (h : l.getD i 0 ≤ s) : bdR p c t l s (i + 1) = bdR p c t l s i ++ [t[i]] := by
  unfold bdR
  rw [fqL_yes h, List.map_append, List.map_append, List.map_singleton, List.map_singleton, row_unit hp htr hi]
theorem bdR_no {p : Int} {c : Nat} {t : List (List Int)} {l : List Int} {s : Int} {i : Nat} (h : ¬ l.getD i 0 ≤ s) : bdR p c t l s (i + 1) = bdR p c t l s i := by
  unfold bdR
  rw [fqL_no h]
theorem bdR_len (p : Int) (c : Nat) (t : List (List Int)) (l : List Int) (s : Int) (i : Nat) : (bdR p c t l s i).length ≤ i := by
  unfold bdR
  rw [List.length_map, List.length_map]
  exact fqL_len l s i
theorem bdR_full {p : Int} {ds : List Int} {ms : List (List (List Int))} {ls : List (List Int)} (h : IsCx p ds ms) {k : Nat} {s : Int} (hd : dimN ds ((k + 1 : Nat) : Int) = (tabN ms k).length) : bdR p (dimN ds (k : Int)) (tabN ms k) (ls.getD (k + 1) []) s (dimN ds ((k + 1 : Nat) : Int)) = (bdL p ds ms ls k s).map (toL (dimN ds (k : Int))) := by
  unfold bdR bdL
  rw [← hd]
  by_cases hk : k + 1 < ds.length
  · rw [cycT_succ h hk]
  · have e : dimN ds ((k + 1 : Nat) : Int) = 0 := by
      unfold dimN
      rw [Int.toNat_natCast, List.getD_eq_getElem?_getD, List.getElem?_eq_none (by omega)]
      rfl
    rw [e]
    rfl

set_option maxHeartbeats 6400000 in
set_option maxRecDepth 100000 in
theorem l09Bounds_any (p : Int) (k : Nat) (s : Int) (dv mv lv : Value) (ds : List Int) (ms : List (List (List Int))) (ls : List (List Int)) (w : World) (h : Fi 0 w dv mv lv ds ms ls) (hf : IsFil p ds ms ls) (hk : k < ds.length) :
    Calls Try.prog 121 #[.agg #[.int .i64 p, dv, mv, lv], .int .i64 (k : Int), .int .i64 s] w (SpG p (dimN ds (k : Int)) (Lin.Sp p (bdL p ds ms ls k s)) w) := by
  have hp1 := hf.1.1.prime.lo1
  have HF := Lib.hid hf
  obtain ⟨W0, hW0⟩ : ∃ W0, W0 = w.alloc (.cells #[.int .i64 p, dv, mv, lv] 67) := ⟨_, rfl⟩
  have hl6 := hf.1.1.len1
  have hs0 : W0.heap.size = w.heap.size + 1 := by rw [hW0]; simp
  have HX0 : Hid (Fx w W0 w.heap.size p dv mv lv ds ms ls) := Lib.hid (by rw [hW0]; exact Fx.start _ h)
  have HNX : Hid (∀ W, Below W0.heap.size W0 W → Fx w W w.heap.size p dv mv lv ds ms ls) := Lib.hid (fun W hb => HX0.out.next hb)
  obtain ⟨c, hc⟩ : ∃ c, c = dimN ds (k : Int) := ⟨_, rfl⟩
  obtain ⟨d, hd⟩ : ∃ d, d = dimN ds ((k + 1 : Nat) : Int) := ⟨_, rfl⟩
  have hd8 : d ≤ 8 := by rw [hd]; exact (dimN_le8 hf.1 (k + 1)).1
  have hc8 : c ≤ 8 := by rw [hc]; exact (dimN_le8 hf.1 k).1
  have HDE := Lib.hid hd
  obtain ⟨t, ht⟩ : ∃ t, t = tabN ms k := ⟨_, rfl⟩
  have HTL : Hid (t.length = d) := Lib.hid (by
    have h1 := ax_rows hf.1 k
    rw [ht, hd]
    unfold dimN
    rw [Int.toNat_natCast, h1]
    rfl)
  have HTR : Hid (∀ r ∈ t, RowOk p (c : Int) r) := Lib.hid (fun r hr => by
    by_cases hkx : k + 1 < ds.length
    · have hok := (cyc_ok hf.1 hkx).2.1
      rw [cycT_succ hf.1 hkx, ← ht] at hok
      have e : cycM ds (k + 1) = dimN ds (k : Int) := by simp [cycM]
      rw [e, ← hc] at hok
      exact hok r hr
    · have e : t = [] := by
        have h1 := hf.1.1.mlen
        rw [ht]
        unfold tabN
        rw [List.getD_eq_getElem?_getD, List.getElem?_eq_none (by omega)]
        rfl
      rw [e] at hr
      cases hr)
  have HDZ : Hid (dimZ ds ((k : Int) + 1) = (d : Int)) := Lib.hid (by
    have h1 := ax_rows hf.1 k
    have h2 := (dimN_le8 hf.1 (k + 1)).2
    rw [show (k : Int) + 1 = ((k + 1 : Nat) : Int) by omega, dimZ_nat, hd]
    exact h2)
  obtain ⟨l, hl⟩ : ∃ l, l = ls.getD (k + 1) [] := ⟨_, rfl⟩
  have hlsd := hf.2.len
  have HLK : Hid (d ≠ 0 → k + 1 < ls.length ∧ l.length = d) := Lib.hid (fun hne => by
    have hkx : k + 1 < ds.length := Classical.byContradiction fun hn => hne (by
      rw [hd]
      unfold dimN
      rw [Int.toNat_natCast, List.getD_eq_getElem?_getD, List.getElem?_eq_none (by omega)]
      rfl)
    have h1 := (hf.2.lvs (k + 1) (by omega)).1
    have h2 := (dimN_le8 hf.1 (k + 1)).2
    refine ⟨by omega, ?_⟩
    rw [hl, hd]
    omega)
  have hdl6 : ds.length ≤ 1048576 := by omega
  have HL := Lib.hid hl
  have HFU : Hid (bdR p c t l s d = (bdL p ds ms ls k s).map (toL c)) := Lib.hid (by
    rw [hc, ht, hl, hd]
    exact bdR_full hf.1 (by rw [← hd, ← ht]; exact HTL.out.symm))
  have HBW : Hid (∀ u ∈ bdL p ds ms ls k s, Lin.Wd c u) := Lib.hid (by rw [hc]; exact bdL_wd hf)
  have HBM : Hid (∀ u ∈ bdL p ds ms ls k s, Lin.Md p u) := Lib.hid (bdL_md (by omega) k s)
  have HBL : Hid ((bdL p ds ms ls k s).length ≤ 8) := Lib.hid (by
    have h1 := bdR_len p c t l s d
    rw [HFU.out, List.length_map] at h1
    omega)
  have hw5 : IntKind.i64.wrap ((k : Int) + 1) = (k : Int) + 1 := IntWalk.i64_in _ (by omega)
  have HBA0 := Lib.hid (below_alloc1 W0 (.cells #[] 22))
  have HS0 := Lib.hid hs0
  have HG0 : Hid (Ro w W0.heap.size (W0.alloc (.cells #[] 22)) (.slice (some ⟨w.heap.size + 1, 0, none⟩) 0 0) []) := Lib.hid (by
    have h := Ro.new (w0 := w) (base := W0.heap.size) (w := W0) (Nat.le_refl _)
    rw [HS0.out] at h ⊢
    exact h)
  have HMP := Lib.hid (l01Map_old p k dv mv ds ms w _ h.cx (HNX.out _ HBA0.out).below hf.1)
  rw [← ht] at HMP
  rw [← hc]
  have HDM : Hid (∀ W, Below W0.heap.size W0 W → Calls Try.prog 118 #[.agg #[.int .i64 p, dv, mv], .int .i64 ((k : Int) + 1)] W (BR (.int .i64 (d : Int)) W)) := Lib.hid (fun W hW => by
    have := l01Dim_any p ((k : Int) + 1) dv mv ds ms _ (HNX.out _ hW).fi.cx hdl6
    rwa [HDZ.out] at this)
  have HLV := Lib.hid h.lv
  clear h hf hd hl hs0 hc ht hlsd HDZ
  go_enter Try.func121, Try.ntmps121
  have c0 := (HNX.out _ HBA0.out).c0
  have c1 := (HNX.out _ HBA0.out).c1
  have c2 := (HNX.out _ HBA0.out).c2
  go_wp2_with fail
  rw [← hW0]
  clear hW0
  refine HMP.out.mono ?_
  rintro e w2 ⟨vm, rfl, hm2, hb2⟩
  have HB2 := Lib.hid (HBA0.out.trans (hb2.mono HBA0.out.size))
  have HG2 := Lib.hid (HG0.out.below hb2)
  have HM2 := Lib.hid hm2
  obtain ⟨am, cm, hvm⟩ := Sl.shape hm2
  subst hvm
  clear hb2 hm2 HG0 HBA0 HMP c0 c1 c2
  go_wp2
  go_loopw [7, 9] (fun ov i wr => ∃ (j : Nat), j ≤ d ∧ i = .int .i64 j ∧ Hid (Below W0.heap.size W0 wr) ∧ Hid (Ro w W0.heap.size wr ov (bdR p c t l s j))) (fun _ i _ => d - (intOf i).toNat)
  case atStart => exact ⟨0, Nat.zero_le _, rfl, HB2, HG2⟩
  case round =>
    clear HB2 HG2
    obtain ⟨j, hj, rfl, HB, HG⟩ := hrel
    obtain ⟨wx, hwx⟩ : ∃ wx : World, wx = wr := ⟨_, rfl⟩
    subst hwx
    have hsx : W0.heap.size ≤ wx.heap.size := HB.out.size
    have HBw : Hid (Below w.heap.size w wx) := Lib.hid (HNX.out _ HB.out).below
    obtain ⟨ao, co, hov⟩ := HG.out.shape HBw.out
    obtain ⟨nl, hnl⟩ : ∃ nl, nl = (bdR p c t l s j).length := ⟨_, rfl⟩
    rw [← hnl] at hov
    subst hov
    have HNL : Hid ((bdR p c t l s j).length ≤ 8) := Lib.hid (by have := bdR_len p c t l s j; omega)
    clear hnl
    have HD1 := Lib.hid (HDM.out _ HB.out)
    have c0 := (HNX.out _ HB.out).c0
    have c1 := (HNX.out _ HB.out).c1
    have c2 := (HNX.out _ HB.out).c2
    have c3 := (HNX.out _ HB.out).c3
    go_wp2_with fail
    refine HD1.out.mono ?_
    rintro e w3 ⟨rfl, hb3⟩
    have HB3 := Lib.hid (HB.out.trans (hb3.mono hsx))
    have HG3 := Lib.hid (HG.out.below hb3)
    have HBw3 : Hid (Below w.heap.size w w3) := Lib.hid (HNX.out _ HB3.out).below
    have hs3 : W0.heap.size ≤ w3.heap.size := HB3.out.size
    clear hb3 HG HB HD1 HBw c0 c1 c2 c3 hsx
    by_cases hlt : j < d
    · have hjl : (j : Int) < (d : Int) := by omega
      have hj00 : (0 : Int) ≤ (j : Int) := by omega
      obtain ⟨hkl, hll⟩ := HLK.out (by omega)
      have c3 := (HNX.out _ HB3.out).c3
      obtain ⟨bl, ol, ul, ⟨clv, hlv⟩, hnn, hcl, hrl⟩ := sl_cell2 (HNX.out _ HB3.out).fi.lv hkl
      obtain ⟨x, hx⟩ : ∃ x, x = l.getD j 0 := ⟨_, rfl⟩
      have hkl2 : j < (ls[k + 1]).length := by
        have := hll
        rw [HL.out, getD_of_lt _ hkl] at this
        omega
      obtain ⟨bx, ox, ux, ⟨cax, hax⟩, hxn, hcx2, hrx⟩ := sl_cell2 hrl hkl2
      have hux : ux = .int .i64 x := by
        have e : (ls[k + 1])[j] = x := by rw [hx, HL.out, getD_of_lt _ hkl, getD_of_lt _ hkl2]
        rw [← e]
        exact hrx
      subst hux hax
      have hxl : (ls[k + 1]).length = d := by
        have := hll
        rwa [HL.out, getD_of_lt _ hkl] at this
      rw [hxl] at hcl
      have HX := Lib.hid hx
      have hnli : ((k : Int) + 1) < (ls.length : Int) := by omega
      have hk10 : (0 : Int) ≤ (k : Int) + 1 := by omega
      have hk1n : ((k : Int) + 1).toNat = k + 1 := by omega
      clear hrl hrx hx hxl hxn hnn hkl2
      by_cases hle : x ≤ s
      · have hjt : j < t.length := by rw [HTL.out]; exact hlt
        obtain ⟨bt, ot, ut, ⟨ct, hvt⟩, _, hct, hrt⟩ := sl_cell2 HM2.out hjt
        have hct3 := later HBw3.out (Nat.le_refl _) hct
        injection hvt with e1 e2 e3
        subst e1 e3
        clear e2 hct
        obtain ⟨ar, cr, hus⟩ := Sl.shape hrt
        have HRT := Lib.hid hrt
        obtain ⟨nr, hnr⟩ : ∃ nr, nr = (t[j]).length := ⟨_, rfl⟩
        rw [← hnr] at hus
        subst hus
        have hjtl : (j : Int) < (t.length : Int) := by omega
        have HF2 : Hid (bdR p c t l s (j + 1) = bdR p c t l s j ++ [t[j]]) := Lib.hid (bdR_yes (by omega) HTR.out hjt (by rw [← HX.out]; exact hle))
        clear hnr hrt
        subst hlv
        have hba : Below w3.heap.size w3 (w3.alloc (.cells #[.slice ar nr cr] 22)) := below_alloc1 _ _
        have HGL6 := Lib.hid (HG3.out.below hba)
        have hcell6 := cell_alloc1 w3 (.slice ar nr cr) 22
        have HB6 := Lib.hid (HB3.out.trans (hba.mono hs3))
        clear hba
        go_wp2_with (at_builtin; refine wpList_appendRo rfl (some 42) rfl (.tmp 36) (.tmp 41) rfl w W0.heap.size _ (bdR p c t l s j) rfl HGL6.out w3.heap.size rfl ar nr cr hcell6 _ HRT.out ?c1 ?c2 ?_)
        case c1 => have := HNL.out; omega
        case c2 => simp; omega
        intro v7 W7 hg7 hgr7
        have HG7 : Hid (Ro w W0.heap.size W7 v7 (bdR p c t l s (j + 1))) := Lib.hid (by rw [HF2.out]; exact hg7)
        have HB7 : Hid (Below W0.heap.size W0 W7) := Lib.hid (HB6.out.grown hgr7 (by simp; omega) (fun g hg => (HGL6.out.lt g hg).1))
        clear hg7 hgr7 hcell6
        go_wp2
        go_roundw
        case rel => first | exact ⟨j + 1, by omega, by go_num, HB7, HG7⟩ | ((repeat apply Exists.intro); exact ⟨⟨j + 1, by omega, by go_num, HB7, HG7⟩, rfl⟩)
        case measure => simp [intOf]; omega
      · have HF2 : Hid (Ro w W0.heap.size w3 (.slice ao nl co) (bdR p c t l s (j + 1))) := Lib.hid (by rw [bdR_no (by rw [← HX.out]; exact hle)]; exact HG3.out)
        subst hlv
        go_wp2
        go_roundw
        case rel => exact ⟨j + 1, by omega, by go_num, HB3, HF2⟩
        case measure => simp [intOf]; omega
    · have hjl : ¬ (j : Int) < (d : Int) := by omega
      have HKD : Hid (j = d) := Lib.hid (by omega)
      have HL2 : Hid (L2 0 w3 (.slice ao nl co) ((bdL p ds ms ls k s).map (toL c))) := Lib.hid (by
        have h := HG3.out.l2 HBw3.out
        rwa [HKD.out, HFU.out] at h)
      have HEC := Lib.hid (l01Echelon_any p c (.slice ao nl co) (bdL p ds ms ls k s) w3 HF.out.1.1.prime HL2.out HBM.out HBW.out (by omega) (by have := HBL.out; omega))
      have c0 := (HNX.out _ HB3.out).c0
      have hs0 := HS0.out
      go_wp2_with fail
      refine HEC.out.mono ?_
      rintro e w4 ⟨u4, R, rfl, hg4, hb4, hr4, _⟩
      have HG4 := Lib.hid (hg4.mono (base' := w.heap.size) (by omega))
      have HB4 := Lib.hid (HBw3.out.trans (hb4.mono HBw3.out.size))
      have HR4 := Lib.hid hr4
      clear hg4 hb4 hr4 c0
      go_wp2
      go_ret
      exact ⟨u4, R, rfl, HG4.out, HB4.out, HR4.out.red, fun u hu => Lin.Sp.wd HBW.out ((HR4.out.eqv u).1 (Lin.Sp.mem hu (HR4.out.red.md u hu))), HR4.out.eqv⟩
end Go.Proofs.Ytchijefibiaphaa
