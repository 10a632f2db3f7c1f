/-
  PageTable of the model.
-/
import Derived.Test.YtpdkfidmmjlmnabPgn
import Derived.Test.YtpdkfidmmjlmnabPds
import Derived.Test.YtpdkfidmmjlmnabGt
import Derived.Test.YtpdkfidmmjlmnabRw
namespace Go.Proofs.Ytpdkfidmmjlmnab
open Go.RowKit

def PtRow (p : Int) (ds : List Int) (ms : List (List (List Int))) (ls : List (List Int)) (r : Int) (k m : Nat) (row : List Int) : Prop := row.length = m ∧ ∀ q, q < m → PgNum p ds ms ls k r (q : Int) (row.getD q 0)
def PtTab (p : Int) (ds : List Int) (ms : List (List (List Int))) (ls : List (List Int)) (r : Int) (n : Nat) (out : List (List Int)) : Prop := out.length = n ∧ ∀ k, k < n → PtRow p ds ms ls r k 6 (out.getD k [])
theorem PtRow.snoc {p : Int} {ds : List Int} {ms : List (List (List Int))} {ls : List (List Int)} {r : Int} {k m : Nat} {row : List Int} {x : Int} (h : PtRow p ds ms ls r k m row) (hx : PgNum p ds ms ls k r (m : Int) x) : PtRow p ds ms ls r k (m + 1) (row ++ [x]) := by
  refine ⟨by simp [h.1], fun q hq => ?_⟩
  by_cases e : q = m
  · subst e
    have : (row ++ [x]).getD q 0 = x := by rw [List.getD_eq_getElem?_getD, List.getElem?_append_right (by have := h.1; omega), h.1]; simp
    rw [this]
    exact hx
  · have : (row ++ [x]).getD q 0 = row.getD q 0 := by rw [List.getD_eq_getElem?_getD, List.getElem?_append_left (by have := h.1; omega), ← List.getD_eq_getElem?_getD]
    rw [this]
    exact h.2 q (by omega)
theorem PtTab.snoc {p : Int} {ds : List Int} {ms : List (List (List Int))} {ls : List (List Int)} {r : Int} {n : Nat} {out : List (List Int)} {row : List Int} (h : PtTab p ds ms ls r n out) (hx : PtRow p ds ms ls r n 6 row) : PtTab p ds ms ls r (n + 1) (out ++ [row]) := by
  refine ⟨by simp [h.1], fun q hq => ?_⟩
  by_cases e : q = n
  · subst e
    have : (out ++ [row]).getD q [] = row := by rw [List.getD_eq_getElem?_getD, List.getElem?_append_right (by have := h.1; omega), h.1]; simp
    rw [this]
    exact hx
  · have : (out ++ [row]).getD q [] = out.getD q [] := by rw [List.getD_eq_getElem?_getD, List.getElem?_append_left (by have := h.1; omega), ← List.getD_eq_getElem?_getD]
    rw [this]
    exact h.2 q (by omega)
theorem PtTab.unique {p : Int} {ds : List Int} {ms : List (List (List Int))} {ls : List (List Int)} {r : Int} {n : Nat} {a b : List (List Int)} (hp : 1 < p) (ha : PtTab p ds ms ls r n a) (hb : PtTab p ds ms ls r n b) : a = b := by
  refine List.ext_getElem (ha.1.trans hb.1.symm) fun k h1 h2 => ?_
  have hk : k < n := by have := ha.1; omega
  have ra := ha.2 k hk
  have rb := hb.2 k hk
  rw [getD_of_lt _ h1] at ra
  rw [getD_of_lt _ h2] at rb
  refine List.ext_getElem (ra.1.trans rb.1.symm) fun q h3 h4 => ?_
  have hq : q < 6 := by have := ra.1; omega
  have xa := ra.2 q hq
  have xb := rb.2 q hq
  rw [getD_of_lt _ h3] at xa
  rw [getD_of_lt _ h4] at xb
  exact PgNum.unique hp xa xb
theorem PtTab.bd {p : Int} {ds : List Int} {ms : List (List (List Int))} {ls : List (List Int)} {r : Int} {n : Nat} {a : List (List Int)} (hn : n ≤ 1048576) (ha : PtTab p ds ms ls r n a) : Bd2 1048576 a := by
  refine ⟨by rw [ha.1]; exact hn, fun x hx => ?_⟩
  obtain ⟨k, hk, rfl⟩ := List.getElem_of_mem hx
  have := (ha.2 k (by have := ha.1; omega)).1
  rw [getD_of_lt _ hk] at this
  show List.length _ ≤ _
  omega

def PtR (p : Int) (ds : List Int) (ms : List (List (List Int))) (ls : List (List Int)) (r : Int) (w : World) (e : Ending) (w' : World) : Prop := ∃ u out, e = .returned u ∧ L2 0 w' u out ∧ Below w.heap.size w w' ∧ PtTab p ds ms ls r ds.length out

set_option maxHeartbeats 1600000 in
set_option maxRecDepth 100000 in
theorem l02Table_any (p r : Int) (dv mv lv : Value) (ds : List Int) (ms : List (List (List Int))) (ls : List (List Int)) (w : World) (h : Fi 0 w dv mv lv ds ms ls) (hf : IsFil p ds ms ls) (hr : 0 ≤ r ∧ r ≤ 8) :
    Calls Try.prog 101 #[.agg #[.int .i64 p, dv, mv, lv], .int .i64 r] w (PtR p ds ms ls r w) := by
  have HX0 := Lib.hid (Fx.start (p := p) 33 h)
  have HLL := Lib.hid hf.2.len
  have hl6 := hf.1.1.len1
  have HFI := Lib.hid hf
  obtain ⟨al, cl, rfl⟩ := Sl.shape h.lv
  obtain ⟨w0, hw0⟩ : ∃ w0, w0 = w.alloc (.cells #[.int .i64 p, dv, mv, .slice al ls.length cl] 33) := ⟨_, rfl⟩
  rw [← hw0] at HX0
  have HT0 := Lib.hid (Gs.new (base := w0.heap.size) w0 (Nat.le_refl _))
  have HNX : Hid (∀ W, Below w0.heap.size w0 W → Fx w W w.heap.size p dv mv (.slice al ls.length cl) ds ms ls) := Lib.hid (fun W h => HX0.out.next h)
  clear h hf
  go_enter Try.func101, Try.ntmps101
  go_upto_region 1 with fail
  rw [← hw0]
  clear hw0
  go_wp2
  go_loopw [5, 6, 7, 8] (fun ov i _ _ wr => ∃ (k : Nat) (tb : List (List Int)), k ≤ ds.length ∧ i = .int .i64 k ∧ tb.length = k ∧ Hid (Below w0.heap.size w0 wr) ∧ Hid (Gs w0.heap.size wr ov tb) ∧ Hid (PtTab p ds ms ls r k tb)) (fun _ i _ _ _ => ds.length - (intOf i).toNat)
  case atStart => exact ⟨0, [], Nat.zero_le _, rfl, rfl, Lib.hid (below_alloc1 _ _), HT0, Lib.hid ⟨rfl, fun _ h => absurd h (Nat.not_lt_zero _)⟩⟩
  case round =>
    clear HT0
    obtain ⟨k, tb, hk, rfl, hgl, HB, HG, HP⟩ := hrel
    obtain ⟨wx, hwx⟩ : ∃ wx : World, wx = wr := ⟨_, rfl⟩
    subst hwx
    have hX := HNX.out _ HB.out
    have c0 := hX.c0
    have c1 := hX.c1
    have c2 := hX.c2
    have c3 := hX.c3
    have HXX := Lib.hid hX
    clear hX
    obtain ⟨ao, co, hov⟩ := Sl.shape HG.out.l2
    rw [hgl] at hov
    subst hov
    have HGN := Lib.hid hgl
    clear hgl
    have hsx : w0.heap.size ≤ wx.heap.size := HB.out.size
    by_cases hlt : k < ds.length
    · have hkl : (k : Int) < (ls.length : Int) := by rw [HLL.out]; omega
      have HS0 := Lib.hid (Gb.new (base := wx.heap.size) wx (Nat.le_refl _))
      go_wp2
      clear c0 c1 c2 c3
      go_loopw [7, 8] (fun ov i wr => ∃ (q : Nat) (row : List Int), q ≤ 6 ∧ i = .int .i64 q ∧ row.length = q ∧ Hid (Below wx.heap.size wx wr) ∧ Hid (Gb wx.heap.size wr ov row) ∧ Hid (PtRow p ds ms ls r k q row)) (fun _ i _ => 6 - (intOf i).toNat)
      case atStart => exact ⟨0, [], by omega, rfl, rfl, Lib.hid (below_alloc1 _ _), HS0, Lib.hid ⟨rfl, fun _ h => absurd h (Nat.not_lt_zero _)⟩⟩
      case round =>
        clear HS0
        obtain ⟨q, row, hq, rfl, hrl, HBY, HS, HR⟩ := hrel
        obtain ⟨wy, hwy⟩ : ∃ wy : World, wy = wr := ⟨_, rfl⟩
        subst hwy
        have hsy : wx.heap.size ≤ wy.heap.size := HBY.out.size
        have HB1Y := Lib.hid (HB.out.trans (HBY.out.mono hsx))
        have hXY := HNX.out _ HB1Y.out
        have c0 := hXY.c0
        have c1 := hXY.c1
        have c2 := hXY.c2
        have c3 := hXY.c3
        have HXY := Lib.hid hXY
        clear hXY
        obtain ⟨ar, cr, hrv⟩ := Sl.shape HS.out.l1
        rw [hrl] at hrv
        subst hrv
        have HSN := Lib.hid hrl
        clear hrl
        by_cases hlq : (q : Int) ≤ 5
        · have HNU := Lib.hid (l02Number_any p k r (q : Int) _ _ _ ds ms ls _ HXY.out.fi HFI.out hlt hr ⟨by omega, hlq⟩)
          go_wp2_with fail
          refine HNU.out.mono ?_
          rintro e w2 ⟨x, rfl, hb2, hx⟩
          have hs2 : wy.heap.size ≤ w2.heap.size := hb2.size
          have hba : Below w2.heap.size w2 (w2.alloc (.cells #[.int .i64 x] 2)) := below_alloc1 _ _
          have HSL := Lib.hid ((HS.out.below hb2).below hba)
          have HBZ := Lib.hid ((HBY.out.trans (hb2.mono hsy)).trans (hba.mono (by omega)))
          have hcell := cell_alloc1 w2 (.int .i64 x) 2
          have HX' := Lib.hid (HR.out.snoc hx)
          clear hb2 hba c0 c1 c2 c3 hx HNU HR
          go_wp2_with (at_builtin; refine wpList_appendB rfl (some 29) rfl (.tmp 22) (.tmp 28) rfl wx.heap.size _ row rfl w2.heap.size 1 x rfl HSL.out hcell ?c1 ?c2 ?_)
          case c1 => rw [HSN.out]; omega
          case c2 => first | (simp; omega) | omega
          intro v7 W7 hg7 hgr7 _
          have HS7 := Lib.hid hg7
          have HB7 : Hid (Below wx.heap.size wx W7) := Lib.hid (HBZ.out.grown hgr7 (by simp; omega) (fun g hg => (HSL.out.lt g hg).1))
          have HL7 : (row ++ [x]).length = q + 1 := by rw [List.length_append, HSN.out]; rfl
          clear hg7 hgr7 hcell
          go_wp2
          go_roundw
          case rel => first | exact ⟨q + 1, row ++ [x], by omega, by go_num, HL7, HB7, HS7, HX'⟩ | ((repeat apply Exists.intro); exact ⟨⟨q + 1, row ++ [x], by omega, by go_num, HL7, HB7, HS7, HX'⟩, rfl⟩)
          case measure => simp [intOf]; omega
        · have hq6 : q = 6 := by omega
          subst hq6
          have hba : Below wy.heap.size wy (wy.alloc (.cells #[.slice ar 6 cr] 22)) := below_alloc1 _ _
          have HGL := Lib.hid ((HG.out.below HBY.out).below hba)
          have HGU : Hid (G1 (wy.alloc (.cells #[.slice ar 6 cr] 22)) (.slice ar 6 cr) row) := Lib.hid (HS.out.g1.below hba)
          have HBZ := Lib.hid (HB1Y.out.trans (hba.mono HB1Y.out.size))
          have hcell := cell_alloc1 wy (.slice ar 6 cr) 22
          have HP' := Lib.hid (HP.out.snoc HR.out)
          clear hba HS HR c0 c1 c2 c3
          go_wp2_with (at_builtin; refine wpList_appendG rfl (some 33) rfl (.tmp 30) (.tmp 32) rfl w0.heap.size _ tb rfl HGL.out wy.heap.size rfl ar 6 cr hcell row HGU.out ?c1 ?c2 ?_)
          case c1 => rw [HGN.out]; omega
          case c2 => first | (simp; omega) | omega
          intro v7 W7 hg7 hgr7
          have HG7 := Lib.hid hg7
          have HB7 : Hid (Below w0.heap.size w0 W7) := Lib.hid (HBZ.out.grown hgr7 (by simp; omega) (fun g hg => (HGL.out.lt g hg).1))
          have HL7 : (tb ++ [row]).length = k + 1 := by rw [List.length_append, HGN.out]; rfl
          clear hg7 hgr7 hcell
          go_wp2
          go_roundw
          case rel => first | exact ⟨k + 1, tb ++ [row], by omega, by go_num, HL7, HB7, HG7, HP'⟩ | ((repeat apply Exists.intro); exact ⟨⟨k + 1, tb ++ [row], by omega, by go_num, HL7, HB7, HG7, HP'⟩, rfl⟩)
          case measure => simp [intOf]; omega
    · have HKE : Hid (k = ds.length) := Lib.hid (by omega)
      have hkl : ¬ (k : Int) < (ls.length : Int) := by rw [HLL.out]; omega
      go_wp2
      go_ret
      exact ⟨_, tb, rfl, HG.out.l2, HXX.out.below, by rw [← HKE.out]; exact HP.out⟩
set_option maxHeartbeats 1600000 in
set_option maxRecDepth 100000 in
theorem spPageTable_any (p r : Int) (dv mv lv : Value) (ds : List Int) (ms : List (List (List Int))) (ls : List (List Int)) (w : World) (h : Fi 0 w dv mv lv ds ms ls) (hd : ds.length ≤ 1048576) (hm : Bd3 1048576 ms) (hl : Bd2 1048576 ls) :
    Calls Try.prog 36 #[.agg #[.int .i64 p, dv, mv, lv], .int .i64 r] w (AnsS (L2 0) (PtTab p ds ms ls r ds.length) [] (celCode p ds ms ls r 0 0) w) := by
  have HX0 := Lib.hid (Fx.start (p := p) 33 h)
  have HCK := Lib.hid (l02Code_any p r 0 0 dv mv lv ds ms ls _ HX0.out.fi hd hm hl)
  have c0 := HX0.out.c0
  have c1 := HX0.out.c1
  have c2 := HX0.out.c2
  have c3 := HX0.out.c3
  obtain ⟨kc, hkc⟩ : ∃ kc, kc = celCode p ds ms ls r 0 0 := ⟨_, rfl⟩
  rw [← hkc] at HCK ⊢
  have HKE := Lib.hid hkc
  clear h hm hl hkc
  go_enter Try.func36, Try.ntmps36
  go_wp2_with fail
  refine HCK.out.mono ?_
  rintro e w1 ⟨rfl, hb1⟩
  have HX1 := Lib.hid (HX0.out.next hb1)
  clear hb1 c0 c1 c2 c3 HCK
  have c0 := HX1.out.c0
  have c1 := HX1.out.c1
  have c2 := HX1.out.c2
  have c3 := HX1.out.c3
  by_cases hk : kc = 0
  · subst hk
    obtain ⟨hfil, hcr, _, _⟩ := celCode_zero HKE.out.symm
    have HB := Lib.hid (l02Table_any p r _ _ _ ds ms ls _ HX1.out.fi hfil hcr)
    clear hfil hcr
    go_wp2_with fail
    refine HB.out.mono ?_
    rintro e w2 ⟨u2, R, rfl, ht2, hb2, hr2⟩
    have HT2 := Lib.hid ht2
    have HX2 := Lib.hid (HX1.out.next hb2)
    have HR2 := Lib.hid hr2
    clear ht2 hb2 hr2 HB
    go_wp2
    go_ret2
    exact ⟨u2, R, 0, rfl, HT2.out, HX2.out.below, RsOut.of_yes rfl HR2.out⟩
  · have hne2 : (kc != 0) = true := by simp [hk]
    have hne3 : (kc == 0) = false := by simp [hk]
    have HNE := Lib.hid hk
    clear hk
    go_wp2
    go_ret2
    exact ⟨_, [], kc, rfl, Or.inl ⟨rfl, _, _, rfl⟩, HX1.out.below, RsOut.of_no HNE.out⟩
end Go.Proofs.Ytpdkfidmmjlmnab
