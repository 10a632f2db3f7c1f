/-
  The kernel of rows in the reference model: l01Kernel by its contract.
-/
import Derived.Test.YtlbalcckjokeiaaBnd
import Derived.Test.YtlbalcckjokeiaaSum
import Derived.Test.YtlbalcckjokeiaaLinD
namespace Go.Proofs.Ytlbalcckjokeiaa
open Go.RowKit

/-- append of numbers to a row that the call owns. -/
theorem wpList_appendN {ops : Array Oper} {rest : List Oper} {o : Oper} {a : Act} {w : World} {Q : Exit → Act → World → Prop} (hgd : o.guard = none) (dst : Option Tmp) (hdst : o.dst = dst) (s x : Operand)
    (ho : o.op = .call { callee := .builtin .append, args := #[s, x], argTypes := #[31, 31] }) (base : Nat) (v u : Value) (xs ys : List Int) (hs : a.eval s = v) (hx : a.eval x = u) (hown : Gb base w v xs) (hy : L1 0 w u ys)
    (hl : xs.length + ys.length ≤ 2097152) (hb : base ≤ w.heap.size)
    (h : ∀ v' w', Gb base w' v' (xs ++ ys) → w.grownBy w' v.ownBlock → wpList Try.prog ops Q rest (a.put dst v') w') : wpList Try.prog ops Q (o :: rest) a w := by
  obtain ⟨i, hi, hz, hs1, hb1⟩ := info_parts Try.infoI
  subst hdst
  refine Sl.cases hy (fun ad cap hys hu => ?_) (fun b o' cap hu _ hpos hc => ?_)
  · subst hys hu
    refine Lib.wpList_append_run _ hgd s x _ _ ho _ _ hs hx _ _ (run_append_none' w _ _ _ i Try.underlying31 hi hown ad cap) ?_
    rw [List.append_nil] at h
    exact h v w hown ⟨rfl, rfl, rfl, Nat.le_refl _, fun _ _ _ => rfl⟩
  · subst hu
    refine wpList_append_own w hgd s x 31 ho base 2 i _ 1 8 Try.underlying31 hi hz hs1 hb1 rfl (by decide) v xs.length (xs.map (Value.int .i64)) hs hown ⟨b, o', none⟩ ys.length cap (ys.map (Value.int .i64)) hx (by simp) ?_ ?_ (by unfold maxLen; omega) (by omega) hb (fun v' w' h1 h2 _ => h v' w' ?_ h2)
    · intro j y hj
      have hj' : j < ys.length := by have := (List.getElem?_eq_some_iff.1 hj).1; simpa using this
      obtain ⟨u2, h2, h3⟩ := hc j hj'
      rw [Addr.add_lit, h2, h3]
      simp [hj'] at hj
      rw [hj]
    · intro y hy2
      obtain ⟨z, _, rfl⟩ := List.mem_map.1 hy2
      rfl
    · unfold Gb
      rw [List.length_append, List.map_append]
      exact h1
theorem Gs.lt {base : Nat} {w : World} {v : Value} {tb : List (List Int)} (h : Gs base w v tb) : ∀ k, v.ownBlock = some k → base ≤ k ∧ k < w.heap.size := by
  obtain ⟨vs, ho, _⟩ := h
  exact World.ownsRow.lt ho
theorem Gs.row {base : Nat} {w : World} {u : Value} {tb : List (List Int)} (h : Gs base w u tb) {k : Nat} (hk : k < tb.length) (hpos : 0 < (tb[k]).length) :
    ∃ b c, u = .slice (some ⟨b, 0, none⟩) tb.length c ∧ ∃ g cap, w.cell? ⟨b, k, none⟩ = some (.slice (some ⟨g, 0, none⟩) (tb[k]).length cap) ∧ (tb[k]).length ≤ cap ∧ G1 w (.slice (some ⟨g, 0, none⟩) (tb[k]).length cap) tb[k] := by
  obtain ⟨vs, ho, hr⟩ := h
  obtain ⟨b, c, rfl, _, _⟩ := World.ownsRow.form ho (by omega)
  have hvl : vs.length = tb.length := by have := ho.1; omega
  have hg := hr k (by omega) hk
  obtain ⟨g, cap, hv, _, _⟩ := World.ownsRow.form hg hpos
  refine ⟨b, c, rfl, g, cap, ?_, ?_, by rw [← hv]; exact hg⟩
  · rw [World.ownsRow.cellAt ho k (by omega), List.getElem?_eq_getElem (by omega), hv]
  · rw [hv] at hg
    rcases hg.2 with ⟨h0, _⟩ | ⟨g', cap', cur, h0, _, _, hnc, _⟩
    · cases h0
    · injection h0 with _ _ e3
      omega
/-- append of one row to a table that the call gathers. -/
theorem wpList_appendG {ops : Array Oper} {rest : List Oper} {o : Oper} {a : Act} {w : World} {Q : Exit → Act → World → Prop} (hgd : o.guard = none) (dst : Option Tmp) (hdst : o.dst = dst) (s x : Operand)
    (ho : o.op = .call { callee := .builtin .append, args := #[s, x], argTypes := #[22, 22] }) (base : Nat) (v : Value) (tb : List (List Int)) (hs : a.eval s = v) (hown : Gs base w v tb)
    (b : Nat) (hx : a.eval x = .slice (some ⟨b, 0, none⟩) 1 1) (ar : Option Addr) (nr cr : Nat) (hc : w.cell? ⟨b, 0, none⟩ = some (.slice ar nr cr)) (y : List Int) (hy : G1 w (.slice ar nr cr) y) (hl : tb.length ≤ 2097151) (hb : base ≤ w.heap.size)
    (h : ∀ v' w', Gs base w' v' (tb ++ [y]) → w.grownBy w' v.ownBlock → wpList Try.prog ops Q rest (a.put dst v') w') : wpList Try.prog ops Q (o :: rest) a w := by
  obtain ⟨i, hi, hz, hs1, hb1⟩ := info_parts Try.infoS
  obtain ⟨vs, hvo, hvr⟩ := hown
  subst hdst
  refine wpList_append_own w hgd s x 22 ho base 31 i _ 1 24 Try.underlying22 hi hz hs1 hb1 rfl (by decide) v tb.length vs hs hvo ⟨b, 0, none⟩ 1 1 [.slice ar nr cr] hx rfl ?_ ?_ (by unfold maxLen; omega) (by omega) hb (fun v' w' h1 h2 _ => h v' w' (Gs.push hvo hvr hy h1 h2) h2)
  · intro j u hj
    match j, hj with
    | 0, hj =>
      simp at hj
      subst hj
      exact hc
  · intro u hu
    simp at hu
    subst hu
    rfl

/-- The vectors of n numbers that all columns of a table annihilate. -/
def CycS (p : Int) (n m : Nat) (t : List (List Int)) (v : Lin.V) : Prop := Lin.Md p v ∧ Lin.Wd n v ∧ ∀ j, j < m → Lin.dot n (Lin.col (fun i => ofL (t.getD i [])) j) v % p = 0
def unitV (k : Nat) : Lin.V := fun i => if i = k then 1 else 0
theorem long_toL {m n k : Nat} (r : Lin.V) : toL m r ++ toL n (unitV k) = toL (m + n) (Lin.long m r k) := by
  refine List.ext_getElem (by simp [toL_length]) fun i h1 h2 => ?_
  rw [toL_get]
  by_cases h : i < m
  · rw [List.getElem_append_left (by rw [toL_length]; exact h), toL_get]
    simp [Lin.long, h]
  · rw [List.getElem_append_right (by rw [toL_length]; omega), toL_get]
    simp only [toL_length, unitV, Lin.long, if_neg h]
    by_cases e : i = m + k
    · rw [if_pos e, if_pos (by omega)]
    · rw [if_neg e, if_neg (by omega)]
/-- The first k long rows. -/
def longs (m : Nat) (t : List (List Int)) (k : Nat) : List Lin.V := (List.range k).map fun i => Lin.long m (ofL (t.getD i [])) i
theorem longs_succ (m : Nat) (t : List (List Int)) (k : Nat) : longs m t (k + 1) = longs m t k ++ [Lin.long m (ofL (t.getD k [])) k] := by simp [longs, List.range_succ]
theorem longs_length (m : Nat) (t : List (List Int)) (k : Nat) : (longs m t k).length = k := by simp [longs]
theorem longs_mem (m n : Nat) (t : List (List Int)) : Lin.Longs m n (fun i => ofL (t.getD i [])) (longs m t n) := ⟨fun y => by
  simp only [longs, List.mem_map, List.mem_range]
  exact ⟨fun ⟨i, hi, e⟩ => ⟨i, hi, e.symm⟩, fun ⟨i, hi, e⟩ => ⟨i, hi, e.symm⟩⟩⟩
theorem longs_wd {m n : Nat} {t : List (List Int)} : ∀ y ∈ longs m t n, Lin.Wd (m + n) y := fun y hy => by
  obtain ⟨i, hi, rfl⟩ := ((longs_mem m n t).mem y).1 hy
  intro j hj
  simp [Lin.long, show ¬ j < m by omega, show ¬ j = m + i by omega]
/-- The rows whose leads stand behind m, cut. -/
noncomputable def cuts (m : Nat) (E : List Lin.V) : List Lin.V := (E.filter fun y => decide (m ≤ Lin.ld y)).map (Lin.tail m)
theorem cuts_cut {p : Int} {m : Nat} {E : List Lin.V} (hE : Lin.Red p E) : Lin.Cut p m E (cuts m E) := by
  refine ⟨fun x => ?_, ?_⟩
  · simp only [cuts, List.mem_map, List.mem_filter, decide_eq_true_eq]
    exact ⟨fun ⟨y, ⟨h1, h2⟩, e⟩ => ⟨y, h1, h2, e.symm⟩, fun ⟨y, h1, h2, e⟩ => ⟨y, ⟨h1, h2⟩, e.symm⟩⟩
  · unfold cuts
    rw [List.pairwise_map]
    refine List.Pairwise.imp_of_mem (fun {a b} ha hb h => ?_) (hE.inc.filter _)
    obtain ⟨ha1, ha2⟩ := List.mem_filter.1 ha
    obtain ⟨hb1, hb2⟩ := List.mem_filter.1 hb
    have ha3 : m ≤ Lin.ld a := by simpa using ha2
    have hb3 : m ≤ Lin.ld b := by simpa using hb2
    rw [(Lin.cut_ld hE ha1 ha3).2.1, (Lin.cut_ld hE hb1 hb3).2.1]
    omega
theorem cuts_keep {m : Nat} {E : List Lin.V} {k : Nat} (hk : k < E.length) (h : m ≤ Lin.ld E[k]) : cuts m (E.take (k + 1)) = cuts m (E.take k) ++ [Lin.tail m E[k]] := by
  unfold cuts
  rw [List.take_succ_eq_append_getElem hk, List.filter_append, List.map_append, List.filter_cons_of_pos (by simpa using h)]
  rfl
theorem cuts_skip {m : Nat} {E : List Lin.V} {k : Nat} (hk : k < E.length) (h : ¬ m ≤ Lin.ld E[k]) : cuts m (E.take (k + 1)) = cuts m (E.take k) := by
  unfold cuts
  rw [List.take_succ_eq_append_getElem hk, List.filter_append, List.map_append, List.filter_cons_of_neg (by simpa using h)]
  simp
theorem cuts_length (m : Nat) (E : List Lin.V) : (cuts m E).length ≤ E.length := by
  unfold cuts
  rw [List.length_map]
  exact List.length_filter_le _ _
/-- What the model's kernel answers. -/
theorem kernel_spf {p : Int} (hp : 1 < p) {m n : Nat} {t : List (List Int)} {E : List Lin.V} (h : RedN p (m + n) E (longs m t n)) : SpF p n (CycS p n m t) (cuts m E) := by
  have hc := cuts_cut (m := m) h.red
  refine ⟨hc.red h.red, fun u hu => ?_, fun x => hc.ker hp h.red (longs_mem m n t) h.eqv x⟩
  obtain ⟨y, hy, _, rfl⟩ := (hc.mem u).1 hu
  intro i hi
  exact h.wd y hy _ (by omega)

theorem unit_row (w : World) {n k : Nat} (hk : k < n) : (w.alloc (.cells ((madeCells #[.int .i64 0] n).setIfInBounds k (.int .i64 1)) 2)).rowIs w.heap.size 2 n (fun i => .int .i64 (unitV k i)) := by
  refine ⟨_, heap_alloc_new w _, by simp [size_madeCells], fun i hi => ?_⟩
  rw [Array.getElem?_setIfInBounds]
  unfold unitV
  by_cases e : k = i
  · subst e
    simp [size_madeCells, hk]
  · have e2 : ¬ i = k := fun h => e h.symm
    simp [e, e2, madeCells, hi, Nat.mod_one]
def KerR (p : Int) (n m : Nat) (t : List (List Int)) (w : World) (e : Ending) (w' : World) : Prop :=
  ∃ (u : Value) (R : List Lin.V), e = .returned u ∧ Gs w.heap.size w' u (R.map (toL n)) ∧ Below w.heap.size w w' ∧ SpF p n (CycS p n m t) R

set_option maxHeartbeats 12800000 in
set_option maxRecDepth 100000 in
theorem l01Kernel_any (p : Int) (n m : Nat) (vt : Value) (t : List (List Int)) (w : World) (hp : IsP p) (ht : L2 0 w vt t) (htn : t.length = n) (hrow : ∀ r ∈ t, RowOk p (m : Int) r) (hn : n ≤ 1000) (hm : m ≤ 1000) :
    Calls Try.prog 123 #[.int .i64 p, .int .i64 n, vt] w (KerR p n m t w) := by
  have HP := Lib.hid hp
  have hp1 := hp.lo1
  have HT := Lib.hid ht
  have HROW := Lib.hid hrow
  have HTN := Lib.hid htn
  have hmk := run_make_row' (P := Try.prog) 31 2 (.int .i64 0) 8 Try.underlying31 Try.infoI rfl .i64 .i64 n (by omega) (by omega)
  have HMK := Lib.hid hmk
  obtain ⟨at', ct, hvt⟩ := Sl.shape ht
  rw [htn] at hvt
  subst hvt
  have HOWN0 := Lib.hid (World.ownsRow_made (base := w.heap.size) (e := 31) (size := 1) w #[] 0 (Nat.le_refl _) (by unfold maxLen; omega) (by simp))
  clear hp ht hrow htn hmk
  go_enter Try.func123, Try.ntmps123
  go_wp2
  go_loopw [7, 8, 9] (fun lv wv i wr => ∃ (k : Nat), k ≤ n ∧ i = .int .i64 k ∧ wv = .int .i64 (if k = 0 then 0 else (m : Int)) ∧ Hid (Below w.heap.size w wr) ∧ Hid (Gs w.heap.size wr lv ((longs m t k).map (toL (m + n))))) (fun _ _ i _ => n - (intOf i).toNat)
  case atStart => exact ⟨0, Nat.zero_le _, rfl, rfl, Lib.hid ((Below.refl _ _).alloc (Nat.le_refl _) _), Lib.hid ⟨[], by simpa [longs] using HOWN0.out, fun k h1 _ => absurd h1 (Nat.not_lt_zero _)⟩⟩
  case round =>
    clear HOWN0
    obtain ⟨k, hk, rfl, rfl, HB, HG⟩ := hrel
    obtain ⟨wx, hwx⟩ : ∃ wx : World, wx = wr := ⟨_, rfl⟩
    subst hwx
    have hsz : w.heap.size ≤ wx.heap.size := HB.out.size
    obtain ⟨al, cl, hlv⟩ := Sl.shape HG.out.l2
    rw [List.length_map, longs_length] at hlv
    subst hlv
    by_cases hlt : k < n
    · have hkt : k < t.length := by rw [HTN.out]; exact hlt
      refine Sl.cases HT.out (fun _ _ hx _ => absurd hkt (by simp [hx])) (fun b o c2 hvv _ _ hc => ?_)
      rw [HTN.out] at hvv
      obtain ⟨rfl, rfl⟩ : at' = some ⟨b, o, none⟩ ∧ ct = c2 := by simpa using hvv
      obtain ⟨ur, hur, hrr⟩ := hc k hkt
      obtain ⟨r, hr⟩ : ∃ r, r = t[k] := ⟨_, rfl⟩
      have HRE : Hid (t.getD k [] = r) := Lib.hid (by rw [getD_of_lt _ hkt, hr])
      have hrm : r.length = m := by have := (HROW.out _ (List.getElem_mem hkt)).1; rw [← hr] at this; omega
      rw [← hr] at hrr
      obtain ⟨ar, cr, hus⟩ := Sl.shape hrr
      rw [hrm] at hus
      subst hus
      have HRR := Lib.hid hrr
      have HUR : Hid (∀ W, Below w.heap.size w W → W.cell? ⟨b, o + k, none⟩ = some (.slice ar m cr)) := Lib.hid (fun W h => later h (Nat.le_refl _) hur)
      have HRM := Lib.hid hrm
      have hq1 : (k : Int) < (n : Int) := by omega
      have hq2 : (0 : Int) ≤ (k : Int) := by omega
      clear hvv hc hur hrr hr hrm
      have hmk := HMK.out
      have hrow0 := World.rowIs_made wx (.int .i64 0) n 2
      have hc0 := hrow0.cell hlt
      have hf0 := hrow0.frozen k
      have HR1 := Lib.hid (unit_row wx hlt)
      have HB1 : Hid (Below wx.heap.size wx (wx.alloc (.cells ((madeCells #[.int .i64 0] n).setIfInBounds k (.int .i64 1)) 2))) := Lib.hid ((Below.refl _ _).alloc (Nat.le_refl _) _)
      clear hrow0
      go_upto_region 8 with fail
      refine forget_wp (fun W => Hid (W.rowIs wx.heap.size 2 n (fun i => .int .i64 (unitV k i)) ∧ Below wx.heap.size wx W)) (Lib.hid ⟨HR1.out, HB1.out⟩) ?_
      intro W3 HS3
      clear hmk hc0 hf0 HR1 HB1
      have HB3 := Lib.hid (HB.out.trans (HS3.out.2.mono hsz))
      have hcell := HUR.out _ HB3.out
      have HG3 := Lib.hid (HG.out.below HS3.out.2)
      have HUN : Hid (L1 0 W3 (.slice (some ⟨wx.heap.size, 0, none⟩) n n) (toL n (unitV k))) := Lib.hid (Or.inr ⟨wx.heap.size, 0, n, by rw [toL_length], Nat.zero_le _, by rw [toL_length]; omega, fun i hi => ⟨_, by rw [Nat.zero_add]; exact HS3.out.1.cell (by rw [toL_length] at hi; exact hi), by rw [toL_get]; rfl⟩⟩)
      go_wp2_with fail
      refine (l01Own_any _ r W3 (HRR.out.below HB3.out) (by rw [HRM.out]; omega)).mono ?_
      rintro e W4 ⟨u4, rfl, hg4, hb4⟩
      have HG4 := Lib.hid hg4
      have HB4 := Lib.hid (HB3.out.trans (hb4.mono HB3.out.size))
      have HUN4 := Lib.hid (HUN.out.below hb4)
      have HGL4 := Lib.hid (HG3.out.below hb4)
      have hs34 : W3.heap.size ≤ W4.heap.size := hb4.size
      have HB34 := Lib.hid hb4
      clear hb4 hg4 hcell HUN HGL4
      go_wp2_with (at_builtin; refine wpList_appendN rfl (some 37) rfl (.tmp 35) (.tmp 36) rfl W3.heap.size _ _ r (toL n (unitV k)) rfl rfl HG4.out HUN4.out ?c1 ?c2 ?_)
      case c1 => rw [toL_length, HRM.out]; omega
      case c2 => exact hs34
      intro v5 W5 hg5 hgr5
      have HB45 : Hid (Below W3.heap.size W3 W5) := Lib.hid (HB34.out.grown hgr5 hs34 (fun g hg => ((World.ownsRow.lt HG4.out) g hg).1))
      have HROWL : Hid (r ++ toL n (unitV k) = toL (m + n) (Lin.long m (ofL (t.getD k [])) k)) := Lib.hid (by
        rw [← long_toL, HRE.out, toL_ofL HRM.out])
      have HG5 : Hid (G1 W5 v5 (toL (m + n) (Lin.long m (ofL (t.getD k [])) k))) := Lib.hid (by rw [← HROWL.out]; exact hg5.g1)
      have HGL5 := Lib.hid (HG3.out.below HB45.out)
      obtain ⟨a5, c5, hv5⟩ := l1_slice HG5.out.l1
      subst hv5
      have hs35 : w.heap.size ≤ W5.heap.size := by have := HB3.out.size; have := HB45.out.size; omega
      have hba : Below W5.heap.size W5 (W5.alloc (.cells #[.slice a5 (m + n) c5] 31)) := below_alloc1 _ _
      have HGL6 := Lib.hid (HGL5.out.below hba)
      have HG6 := Lib.hid (HG5.out.below hba)
      have hcell6 := cell_alloc1 W5 (.slice a5 (m + n) c5) 31
      have HB6 := Lib.hid ((HB3.out.trans (HB45.out.mono HB3.out.size)).trans (hba.mono hs35))
      clear hg5 hgr5 hba HG4 HUN4 HB34 HB4 HG3 HB45
      go_wp2_with (at_builtin; refine wpList_appendG rfl (some 39) rfl (.tmp 30) (.tmp 38) rfl w.heap.size _ ((longs m t k).map (toL (m + n))) rfl HGL6.out W5.heap.size rfl a5 (m + n) c5 hcell6 _ HG6.out ?c1 ?c2 ?_)
      case c1 => rw [List.length_map, longs_length]; omega
      case c2 => simp; omega
      intro v7 W7 hg7 hgr7
      have HG7 : Hid (Gs w.heap.size W7 v7 ((longs m t (k + 1)).map (toL (m + n)))) := Lib.hid (by
        rw [longs_succ, List.map_append]
        exact hg7)
      have HB7 : Hid (Below w.heap.size w W7) := Lib.hid (HB6.out.grown hgr7 (by simp; omega) (fun g hg => (HGL6.out.lt g hg).1))
      have hk1 : (if k + 1 = 0 then 0 else (m : Int)) = (m : Int) := by simp
      clear hg7 hgr7 hcell6
      go_wp2
      go_roundw
      case rel => exact ⟨k + 1, by omega, by go_num, by rw [hk1], HB7, HG7⟩
      case measure => simp [intOf]; omega
    · have hkn : Hid (k = n) := Lib.hid (by omega)
      have HGN : Hid (Gs w.heap.size wx (.slice al k cl) ((longs m t n).map (toL (m + n)))) := Lib.hid (by have := HG.out; rwa [hkn.out] at this ⊢)
      have HLM : Hid (∀ y ∈ longs m t n, Lin.Md p y) := Lib.hid ((longs_mem m n t).md hp1 (fun i hi => by
        have hit : i < t.length := by rw [HTN.out]; exact hi
        rw [getD_of_lt _ hit]
        exact ofL_md (by omega) (HROW.out _ (List.getElem_mem hit))))
      have HECH := Lib.hid (l01Echelon_any p (m + n) (.slice al k cl) (longs m t n) wx HP.out HGN.out.l2 HLM.out longs_wd (by omega) (by rw [longs_length]; omega))
      obtain ⟨wv, hwv⟩ : ∃ wv : Int, wv = (if k = 0 then 0 else (m : Int)) := ⟨_, rfl⟩
      have HWV : Hid (0 < n → wv = (m : Int)) := Lib.hid (fun h => by rw [hwv, if_neg (by have := hkn.out; omega)])
      have HEN : Hid (n = 0 → longs m t n = []) := Lib.hid (fun h => by rw [h]; rfl)
      rw [← hwv]
      clear hwv HG HGN
      go_wp2_with fail
      refine HECH.out.mono ?_
      rintro e w2 ⟨u2, E, rfl, hg2, hb2, hr2, hl2⟩
      have HE := Lib.hid hr2
      have HGE := Lib.hid hg2
      have HB2 := Lib.hid (HB.out.trans (hb2.mono hsz))
      have hs2 : w.heap.size ≤ w2.heap.size := HB2.out.size
      have hEl : E.length ≤ n := by rw [longs_length] at hl2; exact hl2
      have HOWN2 := Lib.hid (World.ownsRow_made (base := w.heap.size) (e := 31) (size := 1) w2 #[] 0 hs2 (by unfold maxLen; omega) (by simp))
      obtain ⟨ae, ce, hev⟩ := Sl.shape HGE.out.l2
      rw [List.length_map] at hev
      subst hev
      clear hg2 hb2 hr2 hl2 HECH HB
      go_wp2
      go_loopw [12, 13] (fun ov i wr => ∃ (q : Nat), q ≤ E.length ∧ i = .int .i64 q ∧ Hid (Below w2.heap.size w2 wr) ∧ Hid (Gs w2.heap.size wr ov ((cuts m (E.take q)).map (toL n)))) (fun _ i _ => E.length - (intOf i).toNat)
      case atStart => exact ⟨0, Nat.zero_le _, rfl, Lib.hid ((Below.refl _ _).alloc (Nat.le_refl _) _), Lib.hid ⟨[], by simpa [cuts] using World.ownsRow_made (base := w2.heap.size) (e := 31) (size := 1) w2 #[] 0 (Nat.le_refl _) (by unfold maxLen; omega) (by simp), fun k h1 _ => absurd h1 (Nat.not_lt_zero _)⟩⟩
      case round =>
        clear HOWN2
        obtain ⟨q, hq, rfl, HBX, HGO⟩ := hrel
        obtain ⟨wy, hwy⟩ : ∃ wy : World, wy = wr := ⟨_, rfl⟩
        subst hwy
        have hsy : w2.heap.size ≤ wy.heap.size := HBX.out.size
        have hcl : (cuts m (E.take q)).length ≤ q := by have := cuts_length m (E.take q); rw [List.length_take] at this; omega
        obtain ⟨ao, co, hov⟩ := Sl.shape HGO.out.l2
        rw [List.length_map] at hov
        subst hov
        by_cases hltq : q < E.length
        · have hn0 : 0 < n := by omega
          obtain rfl : wv = (m : Int) := HWV.out hn0
          obtain ⟨y, hy⟩ : ∃ y, y = E[q] := ⟨_, rfl⟩
          have HYE := Lib.hid hy
          have HYW : Hid (Lin.Wd (m + n) y) := Lib.hid (by rw [hy]; exact HE.out.wd _ (List.getElem_mem hltq))
          have HYN : Hid (y ≠ Lin.zv) := Lib.hid (by rw [hy]; exact HE.out.red.ne (List.getElem_mem hltq))
          obtain ⟨b, c2, hvv, by', cy, huy, hcap, hry⟩ := HGE.out.row (k := q) (by rw [List.length_map]; exact hltq) (by rw [List.getElem_map, toL_length]; omega)
          rw [List.getElem_map, toL_length] at huy hcap hry
          rw [← hy] at hry
          rw [List.length_map] at hvv
          obtain ⟨rfl, rfl⟩ : ae = some ⟨b, 0, none⟩ ∧ ce = c2 := by simpa using hvv
          have hry := hry.l1
          obtain ⟨b3, oy, cy3, huv, hcy⟩ := l1_toL hry (show 0 < m + n by omega)
          obtain ⟨rfl, rfl, rfl⟩ : by' = b3 ∧ oy = 0 ∧ cy = cy3 := by
            injection huv with e1 _ e3
            injection e1 with e1
            injection e1 with e1 e2
            exact ⟨e1, e2.symm, e3⟩
          have HRY := Lib.hid hry
          have hne1 : ¬ cy = m := by omega
          have hne2 : ¬ m = cy := by omega
          have huy2 := later HBX.out (Nat.le_refl _) huy
          have hlead := l01Lead_any _ _ wy (hry.below HBX.out) (by rw [toL_length]; omega)
          rw [leadOf_toL HYW.out HYN.out] at hlead
          have HLEAD := Lib.hid hlead
          have hldlt := (ld_ltn HYW.out HYN.out).1
          have HTAIL : Hid (L1 0 w2 (.slice (some ⟨by', m, none⟩) n (cy - m)) (toL n (Lin.tail m y))) := Lib.hid (Or.inr ⟨by', m, cy - m, by rw [toL_length], Nat.zero_le _, by rw [toL_length]; omega, fun i hi => by
            rw [toL_length] at hi
            refine ⟨_, by have := hcy (m + i) (by omega); rwa [Nat.zero_add] at this, ?_⟩
            rw [toL_get]
            rfl⟩)
          clear hvv huy hry hy hlead hcy huv
          by_cases hge : m ≤ Lin.ld y
          · have hge2 : (m : Int) ≤ (Lin.ld y : Int) := by omega
            have hmn : m + n - m = n := by omega
            have hm0 : (0 : Int) ≤ (m : Int) := by omega
            have HCUT : Hid (cuts m (E.take (q + 1)) = cuts m (E.take q) ++ [Lin.tail m y]) := Lib.hid (by rw [cuts_keep hltq (by rw [← HYE.out]; exact hge), ← HYE.out])
            go_wp2_with fail
            refine HLEAD.out.mono ?_
            rintro e w' ⟨rfl, rfl⟩
            go_wp2_with fail
            refine (l01Own_any _ (toL n (Lin.tail m y)) wy (HTAIL.out.below HBX.out) (by rw [toL_length]; omega)).mono ?_
            rintro e W4 ⟨u4, rfl, hg4, hb4⟩
            obtain ⟨a4, c4, hv4⟩ := l1_slice hg4.l1
            subst hv4
            have hba : Below W4.heap.size W4 (W4.alloc (.cells #[.slice a4 n c4] 31)) := below_alloc1 _ _
            have hs4 : wy.heap.size ≤ W4.heap.size := hb4.size
            have HG4 := Lib.hid (hg4.g1.below hba)
            have HGO4 := Lib.hid ((HGO.out.below hb4).below hba)
            have hcell4 := cell_alloc1 W4 (.slice a4 n c4) 31
            have HB4 := Lib.hid ((HBX.out.trans (hb4.mono hsy)).trans (hba.mono (show w2.heap.size ≤ W4.heap.size by omega)))
            clear hg4 hb4 hba huy2
            go_wp2_with (at_builtin; refine wpList_appendG rfl (some 66) rfl (.tmp 57) (.tmp 65) rfl w2.heap.size _ ((cuts m (E.take q)).map (toL n)) rfl HGO4.out W4.heap.size rfl a4 n c4 hcell4 _ HG4.out ?c1 ?c2 ?_)
            case c1 => rw [List.length_map]; omega
            case c2 => simp; omega
            intro v7 W7 hg7 hgr7
            have HG7 : Hid (Gs w2.heap.size W7 v7 ((cuts m (E.take (q + 1))).map (toL n))) := Lib.hid (by
              rw [HCUT.out, List.map_append]
              exact hg7)
            have HB7 : Hid (Below w2.heap.size w2 W7) := Lib.hid (HB4.out.grown hgr7 (by simp; omega) (fun g hg => (HGO4.out.lt g hg).1))
            clear hg7 hgr7 hcell4
            go_wp2
            go_roundw
            case rel => exact ⟨q + 1, by omega, by go_num, HB7, HG7⟩
            case measure => simp [intOf]; omega
          · have hge2 : ¬ ((m : Int) ≤ (Lin.ld y : Int)) := by omega
            have HCUT : Hid (cuts m (E.take (q + 1)) = cuts m (E.take q)) := Lib.hid (by rw [cuts_skip hltq (by rw [← HYE.out]; exact hge)])
            go_wp2_with fail
            refine HLEAD.out.mono ?_
            rintro e w' ⟨rfl, rfl⟩
            clear huy2
            go_wp2
            go_roundw
            case rel => exact ⟨q + 1, by omega, by go_num, HBX, Lib.hid (by have := HGO.out; rw [HCUT.out]; exact this)⟩
            case measure => simp [intOf]; omega
        · have hqq : Hid (E.take q = E) := Lib.hid (List.take_of_length_le (by omega))
          have HSP := Lib.hid (kernel_spf hp1 HE.out)
          go_wp2
          go_ret
          exact ⟨_, cuts m (E.take q), rfl, HGO.out.mono hs2, HB2.out.trans (HBX.out.mono hs2), by rw [hqq.out]; exact HSP.out⟩
end Go.Proofs.Ytlbalcckjokeiaa
