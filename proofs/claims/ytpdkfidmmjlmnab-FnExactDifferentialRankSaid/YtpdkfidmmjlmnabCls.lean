/-
  classNumbers: the numbers of a class at the leads of a basis, in a row of their own.
-/
import Derived.Test.YtpdkfidmmjlmnabPdm
import Derived.Test.YtpdkfidmmjlmnabRc
import Derived.Test.YtpdkfidmmjlmnabApw
namespace Go.Proofs.Ytpdkfidmmjlmnab
open Go.RowKit

/-- The numbers of a class, in a row of their own. -/
def ClsR (p : Int) (B Wl : List Lin.V) (v : Lin.V) (w : World) (e : Ending) (w' : World) : Prop :=
  ∃ (u : Value) (x : Lin.V), e = .returned u ∧ Rw1 w.heap.size w'.heap.size w' u (leadRow Wl x) ∧ Below w.heap.size w w' ∧ Lin.RestE p B v B.length x

set_option maxHeartbeats 6400000 in
set_option maxRecDepth 100000 in
theorem classNumbers_any (p : Int) (v : Lin.V) (sb sw : Value) (B Wl : List Lin.V) (w : World) (hp : IsP p) (hm : Lin.Md p v) (hw : Lin.Wd 40 v) (hB : Vs 0 w sb B) (hBr : Lin.Red p B) (hBw : ∀ u ∈ B, Lin.Wd 40 u) (hBl : B.length ≤ 1048576) (hW : Vs 0 w sw Wl) (hWr : Lin.Red p Wl) (hWw : ∀ u ∈ Wl, Lin.Wd 40 u) (hWl : Wl.length ≤ 40) :
    Calls Try.prog 170 #[.int .i64 p, vv v, sb, sw] w (ClsR p B Wl v w) := by
  have HP := Lib.hid hp
  have HM := Lib.hid hm
  have HVW := Lib.hid hw
  have HSB := Lib.hid hB
  have HSW := Lib.hid hW
  have HBR := Lib.hid hBr
  have HBW := Lib.hid hBw
  have HWR := Lib.hid hWr
  have HWW := Lib.hid hWw
  have HIV := Lib.hid (Try.infoVl v)
  obtain ⟨aw, cw, rfl⟩ := Vs.shape hW
  have hmk := run_make_row' (P := Try.prog) 22 2 (.int .i64 0) 8 Try.underlying22 Try.infoI rfl .i64 .i64 Wl.length (by omega) (by omega)
  clear hp hm hw hB hBr hBw hW hWr hWw
  unfold vv
  go_enter Try.func170, Try.ntmps170
  go_upto_region 1 with fail
  refine forget_wp (fun W => Hid (At W w.heap.size 0 v ∧ Below w.heap.size w W)) (Lib.hid ⟨at_alloc w v _, below_alloc1 _ _⟩) ?_
  intro W3 HS3
  have HREST := Lib.hid (restModuloE_any p v sb B W3 HP.out HM.out HVW.out (HSB.out.below HS3.out.2) HBR.out HBW.out hBl)
  go_wp2_with (with_reducible refine wpList_load_mid rfl 161 (.tmp 5) rfl w.heap.size 0 rfl (vl v) _ HS3.out.1.range Try.underlyingV rfl HIV.out ?_)
  refine HREST.out.mono ?_
  rintro e W4 ⟨x, rfl, hb4, hr4, hxw⟩
  have HR4 := Lib.hid hr4
  have HXW := Lib.hid hxw
  have HB4 := Lib.hid (HS3.out.2.trans (hb4.mono HS3.out.2.size))
  have HIX := Lib.hid (Try.infoVl x)
  have HIX2 : Hid ((Try.prog.info? 161).map (·.size) = some (vl x).toArray.size) := Lib.hid (by have := HIX.out; simpa using this)
  unfold vv
  clear hb4 hr4 hxw HREST HS3
  go_upto_region 2 with (first | (with_reducible refine wpList_allocV rfl (some 9) rfl rfl ?_; intro W5 hn5; have HN5 := Lib.hid hn5; have HT5 : Hid (W5.there W4.heap.size 0 (vl x).toArray.size) := (Lib.hid (by have := hn5.there; simpa [vl_length] using this)); clear hn5) | (with_reducible refine wpList_store_mid rfl 161 (.tmp 9) (.tmp 16) rfl W4.heap.size 0 (vl x).toArray rfl rfl HT5.out HIX2.out (vl_all _) ?_))
  refine forget_wp (fun W => Hid (At W W4.heap.size 0 x ∧ Below W4.heap.size W4 W)) (Lib.hid ?_) ?_
  · have hp2 := HN5.out.put x
    exact ⟨hp2.2.1, hp2.1⟩
  intro W6 HS6
  clear HN5 HT5 HIX2
  have HB6 := Lib.hid (HB4.out.trans (HS6.out.2.mono HB4.out.size))
  have HX6 : Hid (At W6 W4.heap.size 0 x) := Lib.hid HS6.out.1
  have hs46 : W4.heap.size < W6.heap.size := HS6.out.1.lt
  clear HB4 HS6
  obtain ⟨n, hn⟩ : ∃ n, n = Wl.length := ⟨_, rfl⟩
  have HN := Lib.hid hn
  rw [← hn] at hmk hWl
  rw [← hn]
  clear hn
  obtain ⟨Z, hZ⟩ : ∃ Z : Nat → Int, Z = fun j => x (Lin.ld (Wl.getD j Lin.zv)) := ⟨_, rfl⟩
  have HZ := Lib.hid hZ
  clear hZ
  go_wp2
  clear hmk
  have HROW0 : Hid ((W6.alloc (.cells (madeCells #[.int .i64 0] n) 2)).rowIs W6.heap.size 2 n (fun j => .int .i64 (if j < 0 then Z j else 0))) := Lib.hid ((World.rowIs_made W6 (.int .i64 0) n 2).congr (fun j _ => by simp))
  go_loopw [22] (fun i wr => ∃ k : Nat, k ≤ n ∧ i = .int .i64 k ∧ Hid (Below W6.heap.size W6 wr) ∧ Hid (wr.rowIs W6.heap.size 2 n (fun j => .int .i64 (if j < k then Z j else 0)))) (fun i _ => n - (intOf i).toNat)
  case atStart => exact ⟨0, Nat.zero_le _, rfl, Lib.hid (below_alloc1 _ _), HROW0⟩
  case round =>
    clear HROW0
    obtain ⟨k, hk, rfl, HB, HROW⟩ := hrel
    obtain ⟨wx, hwx⟩ : ∃ wx : World, wx = wr := ⟨_, rfl⟩
    subst hwx
    by_cases hlt : k < n
    · refine Vs.cases ((HSW.out.below HB6.out).below HB.out) (fun _ _ hx _ => absurd hlt (by rw [HN.out, hx]; simp)) (fun b o cap2 hv _ _ hc => ?_)
      obtain ⟨rfl, rfl⟩ : aw = some ⟨b, o, none⟩ ∧ cw = cap2 := by simpa using hv
      have hlt2 : k < Wl.length := by have := HN.out; omega
      obtain ⟨t, ht⟩ : ∃ t, t = Wl[k] := ⟨_, rfl⟩
      have HVT : Hid (At wx b (o + k * 40) t) := Lib.hid (by rw [ht]; exact hc k hlt2)
      have HI2T := Lib.hid (Try.infoVl t)
      have HIT : Hid ((Try.prog.info? 161).map (·.size) = some (vl t).toArray.size) := Lib.hid (by have := HI2T.out; simpa using this)
      have HTW : Hid (Lin.Wd 40 t) := Lib.hid (by rw [ht]; exact HWW.out _ (List.getElem_mem hlt2))
      have HTN : Hid (t ≠ Lin.zv) := Lib.hid (by rw [ht]; exact HWR.out.ne (List.getElem_mem hlt2))
      obtain ⟨hd40, _, _⟩ := ld_lt HTW.out HTN.out
      obtain ⟨d, hd⟩ : ∃ d, d = Lin.ld t := ⟨_, rfl⟩
      have HD := Lib.hid hd
      rw [← hd] at hd40
      obtain ⟨f, hf⟩ : ∃ f, f = Z k := ⟨_, rfl⟩
      have HF := Lib.hid hf
      have HFD : Hid (f = x d) := Lib.hid (by
        rw [hf, HZ.out, hd, ht]
        show x (Lin.ld (Wl.getD k Lin.zv)) = _
        rw [getD_of_lt _ hlt2])
      have hsy : W6.heap.size < wx.heap.size := HROW.out.lt
      have hkn : (k : Int) < (n : Int) := by omega
      clear hv hc ht hd hf
      go_upto_region 6 with (first | (with_reducible refine wpList_load_mid rfl 161 (.tmp 25) rfl b (o + k * 40) rfl (vl t) _ HVT.out.range Try.underlyingV rfl HI2T.out ?_) | (with_reducible refine wpList_allocV rfl (some 12) rfl rfl ?_; intro W7 hn7; have HN7 := Lib.hid hn7; have HT7 : Hid (W7.there wx.heap.size 0 (vl t).toArray.size) := (Lib.hid (by have := hn7.there; simpa [vl_length] using this)); clear hn7) | (with_reducible refine wpList_store_mid rfl 161 (.tmp 12) (.tmp 26) rfl wx.heap.size 0 (vl t).toArray rfl rfl HT7.out HIT.out (vl_all _) ?_))
      refine forget_wp (fun W => Hid (At W wx.heap.size 0 t ∧ Below wx.heap.size wx W)) (Lib.hid ?_) ?_
      · have hp2 := HN7.out.put t
        exact ⟨hp2.2.1, hp2.1⟩
      intro W8 HS8
      clear HN7 HT7 HVT HIT
      have HB8 := Lib.hid (HB.out.trans (HS8.out.2.mono HB.out.size))
      have HR8 : Hid (W8.rowIs W6.heap.size 2 n (fun j => .int .i64 (if j < k then Z j else 0))) := Lib.hid (HROW.out.of_block (HS8.out.2.block _ HROW.out.lt))
      have HX8 : Hid (At W8 W4.heap.size 0 x) := Lib.hid ((HX6.out.later HB.out).later HS8.out.2)
      go_wp2_with (with_reducible refine wpList_load_mid rfl 161 (.tmp 12) rfl wx.heap.size 0 rfl (vl t) _ HS8.out.1.range Try.underlyingV rfl HI2T.out ?_)
      refine (leadOf_any t _ HTW.out HTN.out).mono ?_
      rw [← HD.out]
      rintro ee W9 ⟨rfl, hb9⟩
      have HB9 := Lib.hid (HB8.out.trans (hb9.mono HB8.out.size))
      have hr9 : W9.rowIs W6.heap.size 2 n (fun j => .int .i64 (if j < k then Z j else 0)) := HR8.out.of_block (hb9.block _ HR8.out.lt)
      have hxc : W9.cell? ⟨W4.heap.size, d, none⟩ = some (.int .i64 f) := by rw [HFD.out]; have := (HX8.out.later hb9).cell hd40; rwa [Nat.zero_add] at this
      have hcell := hr9.cell hlt
      have hfz := hr9.frozen k
      have HB10 : Hid (Below W6.heap.size W6 (W9.setCell ⟨W6.heap.size, k, none⟩ (.int .i64 f))) := Lib.hid (HB9.out.setCell (Nat.le_refl _) _)
      have HR10 : Hid ((W9.setCell ⟨W6.heap.size, k, none⟩ (.int .i64 f)).rowIs W6.heap.size 2 n (fun j => .int .i64 (if j < k + 1 then Z j else 0))) := Lib.hid ((hr9.set k (.int .i64 f)).congr (fun j _ => by
        by_cases e : j = k
        · subst e; rw [if_pos rfl, if_pos (Nat.lt_succ_self _), HF.out]
        · rw [if_neg e]
          by_cases e2 : j < k
          · rw [if_pos e2, if_pos (by omega)]
          · rw [if_neg e2, if_neg (by omega)]))
      have hd1 : (d : Int) < 40 := by omega
      have hd2 : ¬ (40 : Int) ≤ (d : Int) := by omega
      clear hb9 hr9 HS8 HB8 HR8 HX8 HF HFD
      go_wp2
      go_roundw
      case rel => exact ⟨k + 1, by omega, by go_num, HB10, HR10⟩
      case measure => simp [intOf]; omega
    · have hK : k = n := by omega
      subst hK
      have hlk : ¬ (k : Int) < (k : Int) := by omega
      have hgl := HROW.out.lt
      have hBB := HB6.out.trans (HB.out.mono HB6.out.size)
      have hle : w.heap.size ≤ W6.heap.size := HB6.out.size
      have hlen : (leadRow Wl x).length = k := by simp [leadRow, HN.out]
      have HRW : Hid (Rw1 w.heap.size wx.heap.size wx (.slice (some ⟨W6.heap.size, 0, none⟩) k k) (leadRow Wl x)) := Lib.hid (w1_rw1 (row_rc (xs := leadRow Wl x) (lo := w.heap.size) HROW.out hlen (fun i hi => by
        have hi' : i < k := by omega
        have hi2 : i < Wl.length := by have := HN.out; omega
        simp only [if_pos hi', HZ.out, leadRow, List.getElem_map, getD_of_lt _ hi2]) (by omega) hle).1 (by omega))
      have HBB := Lib.hid hBB
      clear hBB
      go_wp2
      go_ret
      exact ⟨_, x, rfl, HRW.out, HBB.out, HR4.out⟩
end Go.Proofs.Ytpdkfidmmjlmnab
