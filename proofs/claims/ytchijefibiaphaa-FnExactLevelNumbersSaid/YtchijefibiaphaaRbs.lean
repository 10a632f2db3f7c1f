/-
  The spaces of levels of the model by contract: spec.l09Space, l09Bounds.
-/
import Derived.Test.YtchijefibiaphaaRbm
import Derived.Test.YtchijefibiaphaaMpo
import Derived.Test.YtchijefibiaphaaGt
import Derived.Test.YtchijefibiaphaaQg
namespace Go.Proofs.Ytchijefibiaphaa
open Go.RowKit

theorem sl_cell2 {α : Type} {lo : Nat} {R : World → Value → α → Prop} {w : World} {v : Value} {xs : List α} (h : Sl lo R w v xs) {k : Nat} (hk : k < xs.length) : ∃ b off u, (∃ c, v = .slice (some ⟨b, off, none⟩) xs.length c) ∧ True ∧ w.cell? ⟨b, off + k, none⟩ = some u ∧ R w u xs[k] := by
  rcases h with ⟨h, _⟩ | ⟨b, off, cap, hv, _, _, hc⟩
  · subst h; simp at hk
  · obtain ⟨u, h1, h2⟩ := hc k hk
    exact ⟨b, off, u, ⟨cap, hv⟩, trivial, h1, h2⟩

set_option maxHeartbeats 6400000 in
set_option maxRecDepth 100000 in
theorem l09Space_any (p : Int) (n : Nat) (q : Int) (dv mv lv : Value) (ds : List Int) (ms : List (List (List Int))) (ls : List (List Int)) (w : World) (h : Fi 0 w dv mv lv ds ms ls) (hf : IsFil p ds ms ls) (hn : n < ds.length) :
    Calls Try.prog 120 #[.agg #[.int .i64 p, dv, mv, lv], .int .i64 (n : Int), .int .i64 q] w (GsR ((fqL (ls.getD n []) q (dimN ds (n : Int))).map (toL (dimN ds (n : Int)))) w) := by
  obtain ⟨W0, hW0⟩ : ∃ W0, W0 = w.alloc (.cells #[.int .i64 p, dv, mv, lv] 67) := ⟨_, rfl⟩
  have hl6 := hf.1.1.len1
  have hs0 : W0.heap.size = w.heap.size + 1 := by rw [hW0]; simp
  have HX0 : Hid (Fx w W0 w.heap.size p dv mv lv ds ms ls) := Lib.hid (by rw [hW0]; exact Fx.start _ h)
  have HNX : Hid (∀ W, Below W0.heap.size W0 W → Fx w W w.heap.size p dv mv lv ds ms ls) := Lib.hid (fun W hb => HX0.out.next hb)
  obtain ⟨d, hd⟩ : ∃ d, d = dimN ds (n : Int) := ⟨_, rfl⟩
  have hd8 : d ≤ 8 := by rw [hd]; exact (dimN_le8 hf.1 n).1
  have HDZ : Hid (dimZ ds (n : Int) = (d : Int)) := Lib.hid (by
    unfold dimZ
    rw [if_pos (by omega), Int.toNat_natCast, hd]
    exact (dimN_le8 hf.1 n).2)
  rw [← hd]
  obtain ⟨l, hl⟩ : ∃ l, l = ls.getD n [] := ⟨_, rfl⟩
  rw [← hl]
  have hnl : n < ls.length := by have := hf.2.len; omega
  have HLL : Hid (l.length = d) := Lib.hid (by rw [hl, hd]; have := (hf.2.lvs n hnl).1; have := (dimN_le8 hf.1 n).2; omega)
  have hdl6 : ds.length ≤ 1048576 := by omega
  have HL := Lib.hid hl
  have hmk := run_make_row' (P := Try.prog) 22 2 (.int .i64 0) 8 Try.underlying22 Try.infoI rfl .i64 .i64 d (by omega) (by omega)
  have hn00 : (0 : Int) ≤ (n : Int) := by omega
  have HBA0 := Lib.hid (below_alloc1 W0 (.cells #[] 22))
  have HS0 := Lib.hid hs0
  have HG0 : Hid (Gs W0.heap.size (W0.alloc (.cells #[] 22)) (.slice (some ⟨w.heap.size + 1, 0, none⟩) 0 0) []) := Lib.hid (by
    have h := Gs.new (base := W0.heap.size) W0 (Nat.le_refl _)
    rw [HS0.out] at h ⊢
    exact h)
  have HDA := Lib.hid (l01Dim_any p (n : Int) dv mv ds ms _ (HNX.out _ HBA0.out).fi.cx hdl6)
  rw [HDZ.out] at HDA
  clear h hf hd hl hs0
  go_enter Try.func120, Try.ntmps120
  go_wp2_with fail
  rw [← hW0]
  clear hW0
  refine HDA.out.mono ?_
  rintro e w2 ⟨rfl, hb2⟩
  have HB2 := Lib.hid (HBA0.out.trans (hb2.mono HBA0.out.size))
  have HG2 := Lib.hid (HG0.out.below hb2)
  clear hb2 HG0 HBA0 HDA
  go_wp2
  go_loopw [7, 9, 10] (fun ov i _ wr => ∃ (k : Nat), k ≤ d ∧ i = .int .i64 k ∧ Hid (Below W0.heap.size W0 wr) ∧ Hid (Gs W0.heap.size wr ov ((fqL l q k).map (toL d)))) (fun _ i _ _ => d - (intOf i).toNat)
  case atStart => exact ⟨0, Nat.zero_le _, rfl, HB2, HG2⟩
  case round =>
    clear HB2 HG2
    obtain ⟨k, hk, rfl, HB, HG⟩ := hrel
    obtain ⟨wx, hwx⟩ : ∃ wx : World, wx = wr := ⟨_, rfl⟩
    subst hwx
    have hsx : W0.heap.size ≤ wx.heap.size := HB.out.size
    obtain ⟨ao, co, hov⟩ := Sl.shape HG.out.l2
    obtain ⟨nl, hnl2⟩ : ∃ nl, nl = ((fqL l q k).map (toL d)).length := ⟨_, rfl⟩
    rw [← hnl2] at hov
    subst hov
    have HNL : Hid (((fqL l q k).map (toL d)).length ≤ 8) := Lib.hid (by rw [List.length_map]; have := fqL_len l q k; omega)
    clear hnl2
    by_cases hlt : k < d
    · have hkl : (k : Int) < (d : Int) := by omega
      have hk00 : (0 : Int) ≤ (k : Int) := by omega
      have c3 := (HNX.out _ HB.out).c3
      obtain ⟨bl, ol, ul, ⟨clv, hlv⟩, hnn, hcl, hrl⟩ := sl_cell2 (HNX.out _ HB.out).fi.lv hnl
      obtain ⟨x, hx⟩ : ∃ x, x = l.getD k 0 := ⟨_, rfl⟩
      have hkl2 : k < (ls[n]).length := by
        have := HLL.out
        rw [HL.out, getD_of_lt _ hnl] at this
        omega
      obtain ⟨bx, ox, ux, ⟨cax, hax⟩, hxn, hcx2, hrx⟩ := sl_cell2 hrl hkl2
      have hux : ux = .int .i64 x := by
        have e : (ls[n])[k] = x := by rw [hx, HL.out, getD_of_lt _ hnl, getD_of_lt _ hkl2]
        rw [← e]
        exact hrx
      subst hux hax
      have hxl : (ls[n]).length = d := by
        have := HLL.out
        rwa [HL.out, getD_of_lt _ hnl] at this
      rw [hxl] at hcl
      have HX := Lib.hid hx
      have hnli : (n : Int) < (ls.length : Int) := by omega
      clear hrl hrx hx hxl hxn hnn hkl2
      by_cases hle : x ≤ q
      · have HF : Hid ((fqL l q (k + 1)).map (toL d) = (fqL l q k).map (toL d) ++ [toL d (unitV k)]) := Lib.hid (by rw [fqL_yes (by rw [← HX.out]; exact hle), List.map_append]; rfl)
        subst hlv
        obtain ⟨wz, hwz⟩ : ∃ wz : World, wz = wx.alloc (.cells (madeCells #[.int .i64 0] d) 2) := ⟨_, rfl⟩
        have hbz : Below wx.heap.size wx wz := by rw [hwz]; exact below_alloc1 _ _
        have hrow : wz.rowIs wx.heap.size 2 d (fun _ => .int .i64 0) := by rw [hwz]; exact World.rowIs_made wx (.int .i64 0) d 2
        have hcell := hrow.cell hlt
        have hfz := hrow.frozen k
        have hrow2 := hrow.set k (.int .i64 1)
        have HG1 : Hid (G1 (wz.setCell ⟨wx.heap.size, k, none⟩ (.int .i64 1)) (.slice (some ⟨wx.heap.size, 0, none⟩) d d) (toL d (unitV k))) := Lib.hid (g1_row hrow2 (fun i _ => by unfold unitV; by_cases e : i = k <;> simp [e]) (by unfold maxLen; omega))
        have hbz2 : Below wx.heap.size wx (wz.setCell ⟨wx.heap.size, k, none⟩ (.int .i64 1)) := hbz.setCell (Nat.le_refl _) _
        have HGZ := Lib.hid (HG.out.below hbz2)
        have HBZ := Lib.hid (HB.out.trans (hbz2.mono hsx))
        clear hrow hrow2 hbz hbz2
        go_upto_region 7 with fail
        rw [← hwz]
        clear hwz
        go_upto_region 8 with fail
        obtain ⟨wy, hwy⟩ : ∃ wy : World, wy = wz.setCell ⟨wx.heap.size, k, none⟩ (.int .i64 1) := ⟨_, rfl⟩
        rw [← hwy] at HG1 HGZ HBZ ⊢
        clear hwy hcell hfz hcl hcx2 c3
        have hsy : W0.heap.size ≤ wy.heap.size := HBZ.out.size
        have hba : Below wy.heap.size wy (wy.alloc (.cells #[.slice (some ⟨wx.heap.size, 0, none⟩) d d] 22)) := below_alloc1 _ _
        have HGL6 := Lib.hid (HGZ.out.below hba)
        have HG6 := Lib.hid (HG1.out.below hba)
        have hcell6 := cell_alloc1 wy (.slice (some ⟨wx.heap.size, 0, none⟩) d d) 22
        have HB6 := Lib.hid (HBZ.out.trans (hba.mono hsy))
        clear hba
        go_wp2_with (at_builtin; refine wpList_appendG rfl (some 39) rfl (.tmp 36) (.tmp 38) rfl W0.heap.size _ ((fqL l q k).map (toL d)) rfl HGL6.out wy.heap.size rfl (some ⟨wx.heap.size, 0, none⟩) d d hcell6 _ HG6.out ?c1 ?c2 ?_)
        case c1 => have := HNL.out; omega
        case c2 => simp; omega
        intro v7 W7 hg7 hgr7
        have HG7 : Hid (Gs W0.heap.size W7 v7 ((fqL l q (k + 1)).map (toL d))) := Lib.hid (by rw [HF.out]; exact hg7)
        have HB7 : Hid (Below W0.heap.size W0 W7) := Lib.hid (HB6.out.grown hgr7 (by simp; omega) (fun g hg => (HGL6.out.lt g hg).1))
        clear hg7 hgr7 hcell6
        go_wp2
        go_roundw
        case rel => first | exact ⟨k + 1, by omega, by go_num, HB7, HG7⟩ | ((repeat apply Exists.intro); exact ⟨⟨k + 1, by omega, by go_num, HB7, HG7⟩, rfl⟩)
        case measure => simp [intOf]; omega
      · have HF : Hid (Gs W0.heap.size wx (.slice ao nl co) ((fqL l q (k + 1)).map (toL d))) := Lib.hid (by rw [fqL_no (by rw [← HX.out]; exact hle)]; exact HG.out)
        subst hlv
        go_wp2
        go_roundw
        case rel => exact ⟨k + 1, by omega, by go_num, HB, HF⟩
        case measure => simp [intOf]; omega
    · have hkl : ¬ (k : Int) < (d : Int) := by omega
      have HKD : Hid (k = d) := Lib.hid (by omega)
      have hs0 := HS0.out
      have HB9 : Hid (Below w.heap.size w wx) := Lib.hid (HNX.out _ HB.out).below
      go_wp2
      go_ret
      exact ⟨_, rfl, by have h9 := HG.out; rw [HKD.out] at h9; exact h9.mono (by omega), HB9.out⟩
end Go.Proofs.Ytchijefibiaphaa
