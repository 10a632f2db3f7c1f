/-
  append of a row to a row that the call gathers; spec.l05Blocks by its contract.
-/
import Derived.Test.YtaaficdlckcgkaaAz
import Derived.Test.YtaaficdlckcgkaaSmt
import Derived.Test.YtaaficdlckcgkaaBim
import Derived.Test.YtaaficdlckcgkaaSd
namespace Go.Proofs.Ytaaficdlckcgkaa
open Go.RowKit

theorem run_append_row {base : Nat} (w : World) (ty : TypeId) (v : Value) (xs : List Int) (hown : Gb base w v xs) (u : Value) (ys : List Int) (hy : L1 0 w u ys) (h63 : xs.length + ys.length ≤ 2097152) (hb : base ≤ w.heap.size) :
    ∃ v' w', (Builtin.append_ #[22, 22] ty #[v, u]).run Try.prog w = .ok v' w' ∧ Gb base w' v' (xs ++ ys) ∧ w.grownBy w' v.ownBlock := by
  obtain ⟨i, hi, hz, hs, hbt⟩ := info_parts Try.infoI
  rcases hy with ⟨rfl, ad, cap, rfl⟩ | ⟨b, o, cap, rfl, _, _, hc⟩
  · exact ⟨v, w, run_append_none' w _ _ _ i Try.underlying22 hi hown ad cap, by rw [List.append_nil]; exact hown, ⟨rfl, rfl, rfl, Nat.le_refl _, fun _ _ _ => rfl⟩⟩
  · obtain ⟨v', w', hr, h2, h3, _⟩ := run_append_own (P := Try.prog) w base 22 ty 2 i _ 1 8 Try.underlying22 hi hz hs hbt (by rfl) (by decide) v xs.length (xs.map (Value.int .i64)) hown ⟨b, o, none⟩ ys.length cap (ys.map (Value.int .i64)) (by simp)
      (fun j u hj => by
        have hj' : j < ys.length := by have := (List.getElem?_eq_some_iff.1 hj).1; simpa using this
        obtain ⟨u2, hu2, hr2⟩ := hc j hj'
        rw [Addr.add_mid, hu2, hr2]
        simp [hj'] at hj
        rw [← hj]) (fun u hu => by
        obtain ⟨y, _, rfl⟩ := List.mem_map.1 hu
        rfl) (by unfold maxLen; omega) (by omega) hb
    exact ⟨v', w', hr, by simpa [Gb] using h2, h3⟩
theorem sumT_take_a {a : List (List Int)} {l : Nat} {b : List (List Int)} {r k : Nat} (h : k < a.length) : (sumT a l b r).take (k + 1) = (sumT a l b r).take k ++ [a[k] ++ List.replicate r 0] := by
  rw [List.take_succ_eq_append_getElem (by rw [sumT_length]; omega)]
  congr 1
  unfold sumT
  rw [List.getElem_append_left (by simpa using h), List.getElem_map]
theorem sumT_take_b {a : List (List Int)} {l : Nat} {b : List (List Int)} {r k : Nat} (h : k < b.length) : (sumT a l b r).take (a.length + k + 1) = (sumT a l b r).take (a.length + k) ++ [List.replicate l 0 ++ b[k]] := by
  rw [List.take_succ_eq_append_getElem (by rw [sumT_length]; omega)]
  congr 1
  unfold sumT
  rw [List.getElem_append_right (by simp), List.getElem_map]
  simp
theorem madeI (w : World) (l : Nat) (hl : l ≤ 1048576) (base : Nat) (hb : base ≤ w.heap.size) : Gb base (w.alloc (.cells (madeCells #[.int .i64 0] l) 2)) (.slice (some ⟨w.heap.size, 0, none⟩) l l) (List.replicate l 0) := by
  have h := gb_row (base := base) (W := w.alloc (.cells (madeCells #[.int .i64 0] l) 2)) (xs := List.replicate l 0) (World.rowIs_made w (.int .i64 0) l 2) (by simp) (fun i hi => by simp) (by unfold maxLen; omega) hb
  exact h

set_option maxHeartbeats 6400000 in
set_option maxRecDepth 100000 in
theorem l05Blocks_any (va vb : Value) (a b : List (List Int)) (l r : Nat) (w : World) (hva : L2 0 w va a) (hvb : L2 0 w vb b) (hal : a.length ≤ 524288) (hbl : b.length ≤ 524288) (hl : l ≤ 524288) (hr : r ≤ 524288) (ha : ∀ x ∈ a, x.length = l) (hb : ∀ x ∈ b, x.length = r) :
    Calls Try.prog 89 #[va, .int .i64 (l : Int), vb, .int .i64 (r : Int)] w (GsR (sumT a l b r) w) := by
  obtain ⟨aa, ca, rfl⟩ := Sl.shape hva
  obtain ⟨ab, cb, rfl⟩ := Sl.shape hvb
  have HVA := Lib.hid (fun W (h : Below w.heap.size w W) => hva.below h)
  have HVB := Lib.hid (fun W (h : Below w.heap.size w W) => hvb.below h)
  have HA := Lib.hid ha
  have HB := Lib.hid hb
  have HT0 := Lib.hid (Gs.new (base := w.heap.size) w (Nat.le_refl _))
  clear hva hvb ha hb
  go_enter Try.func89, Try.ntmps89
  go_wp2
  go_loopw [9, 10] (fun ov i wr => ∃ (k : Nat), k ≤ a.length ∧ i = .int .i64 k ∧ Hid (Below w.heap.size w wr) ∧ Hid (Gs w.heap.size wr ov ((sumT a l b r).take k))) (fun _ i _ => a.length - (intOf i).toNat)
  case atStart => exact ⟨0, Nat.zero_le _, rfl, Lib.hid (below_alloc1 _ _), Lib.hid (by rw [List.take_zero]; exact HT0.out)⟩
  case round =>
    clear HT0
    obtain ⟨k, hk, rfl, HBE, HG⟩ := hrel
    obtain ⟨wx, hwx⟩ : ∃ wx : World, wx = wr := ⟨_, rfl⟩
    subst hwx
    have hsx : w.heap.size ≤ wx.heap.size := HBE.out.size
    have hgl : ((sumT a l b r).take k).length = k := by rw [List.length_take, sumT_length]; omega
    obtain ⟨ao, co, hov⟩ := Sl.shape HG.out.l2
    rw [hgl] at hov
    subst hov
    have HGN := Lib.hid hgl
    clear hgl
    by_cases hlt : k < a.length
    · have hlk : (k : Int) < (a.length : Int) := by omega
      refine Sl.cases (HVA.out _ HBE.out) (fun _ _ hx _ => absurd hlt (by simp [hx])) (fun bk ok c2' hvv _ _ hcl => ?_)
      injection hvv with e1 e2 e3
      clear e2
      subst e1 e3
      obtain ⟨ur, hur, hrr⟩ := hcl k hlt
      obtain ⟨y, hy⟩ : ∃ y, y = a[k] := ⟨_, rfl⟩
      rw [← hy] at hrr
      have hyl : y.length = l := by rw [hy]; exact HA.out _ (List.getElem_mem hlt)
      have HYL := Lib.hid hyl
      have HTK : Hid ((sumT a l b r).take (k + 1) = (sumT a l b r).take k ++ [y ++ List.replicate r 0]) := Lib.hid (by rw [hy]; exact sumT_take_a hlt)
      obtain ⟨ar, cr, hus⟩ := Sl.shape hrr
      rw [hyl] at hus
      have HOW := Lib.hid (l01Own_any ur y wx hrr (by omega))
      subst hus
      clear hcl hrr hy hyl
      go_wp2_with fail
      refine HOW.out.mono ?_
      rintro ee w2 ⟨u2, rfl, hg2, hb2⟩
      obtain ⟨v3, w3, hrun, hg3, hgr3⟩ := run_append_zeros w2 22 u2 y hg2 .i64 r (by have := HYL.out; omega) hb2.size
      have hb3 : Below wx.heap.size wx w3 := hb2.grown hgr3 hb2.size (fun g hg => (hg2.lt g hg).1)
      have hrun2 : ∀ ty, (Builtin.append_ #[22, 2] ty #[u2, .int .i64 (r : Int)]).run Try.prog w2 = .ok v3 w3 := fun ty => hrun
      have HRUN := Lib.hid hrun2
      obtain ⟨a3, n3, c3, hv3⟩ : ∃ a n c, v3 = .slice a n c := by obtain ⟨a', c', ee⟩ := Sl.shape hg3.g1.l1; exact ⟨a', _, c', ee⟩
      subst hv3
      have hs3 : wx.heap.size ≤ w3.heap.size := hb3.size
      have hba : Below w3.heap.size w3 (w3.alloc (.cells #[.slice a3 n3 c3] 22)) := below_alloc1 _ _
      have HSL := Lib.hid ((HG.out.below hb3).below hba)
      have HGU := Lib.hid (hg3.g1.below hba)
      have HBZ := Lib.hid ((HBE.out.trans (hb3.mono hsx)).trans (hba.mono (by omega)))
      have hcell := cell_alloc1 w3 (.slice a3 n3 c3) 22
      clear hb2 hg2 hba hur HOW hb3 hg3 hrun hrun2 hgr3 HG HBE
      have hc1 : ((sumT a l b r).take k).length ≤ 2097151 := by rw [HGN.out]; omega
      have hc2 : w.heap.size ≤ (w3.alloc (.cells #[.slice a3 n3 c3] 22)).heap.size := by simp; omega
      have HC1 := Lib.hid hc1
      have HC2 := Lib.hid hc2
      clear hc1 hc2
      go_wp2_with (first | (at_builtin; refine Lib.wpList_append_run _ rfl _ _ _ _ rfl _ _ rfl rfl _ _ (HRUN.out _) ?_) | (at_builtin; refine wpList_appendG rfl (some 28) rfl (.tmp 19) (.tmp 27) rfl w.heap.size _ ((sumT a l b r).take k) rfl HSL.out w3.heap.size rfl a3 n3 c3 hcell _ HGU.out HC1.out HC2.out ?_))
      clear HRUN
      intro v7 W7 hg7 hgr7
      have HS7 : Hid (Gs w.heap.size W7 v7 ((sumT a l b r).take (k + 1))) := Lib.hid (by rw [HTK.out]; exact hg7)
      have HB7 : Hid (Below w.heap.size w W7) := Lib.hid (HBZ.out.grown hgr7 (by simp; omega) (fun g hg => (HSL.out.lt g hg).1))
      clear hg7 hgr7 hcell
      go_wp2
      go_roundw
      case rel => first | exact ⟨k + 1, by omega, by go_num, HB7, HS7⟩ | ((repeat apply Exists.intro); exact ⟨⟨k + 1, by omega, by go_num, HB7, HS7⟩, rfl⟩)
      case measure => simp [intOf]; omega
    · have hlk : ¬ (k : Int) < (a.length : Int) := by omega
      have HKE : Hid (k = a.length) := Lib.hid (by omega)
      obtain ⟨wo, hwo⟩ : ∃ wo : World, wo = wx := ⟨_, rfl⟩
      subst hwo
      have HG1 : Hid (Gs w.heap.size wo (.slice ao k co) ((sumT a l b r).take (a.length + 0))) := Lib.hid (by have h0 := HG.out; rw [Nat.add_zero, ← HKE.out]; exact h0)
      have HB1 := HBE
      clear HG HBE HGN
      go_wp2
      go_loopw [9, 11] (fun ov i wr => ∃ (k : Nat), k ≤ b.length ∧ i = .int .i64 k ∧ Hid (Below w.heap.size w wr) ∧ Hid (Gs w.heap.size wr ov ((sumT a l b r).take (a.length + k)))) (fun _ i _ => b.length - (intOf i).toNat)
      case atStart => exact ⟨0, Nat.zero_le _, rfl, HB1, HG1⟩
      case round =>
        clear HG1 HB1
        obtain ⟨k2, hk2, rfl, HBE, HG⟩ := hrel
        obtain ⟨wy, hwy⟩ : ∃ wy : World, wy = wr := ⟨_, rfl⟩
        subst hwy
        have hsy : w.heap.size ≤ wy.heap.size := HBE.out.size
        have hgl : ((sumT a l b r).take (a.length + k2)).length = a.length + k2 := by rw [List.length_take, sumT_length]; omega
        obtain ⟨ao2, co2, hov⟩ := Sl.shape HG.out.l2
        rw [hgl] at hov
        obtain ⟨m, hm⟩ : ∃ m, m = a.length + k2 := ⟨_, rfl⟩
        rw [← hm] at hov hgl
        subst hov
        have HGN := Lib.hid hgl
        have HME := Lib.hid hm
        rw [← hm] at HG
        clear hgl hm
        by_cases hlt2 : k2 < b.length
        · have hlk2 : (k2 : Int) < (b.length : Int) := by omega
          refine Sl.cases (HVB.out _ (Below.refl _ _)) (fun _ _ hx _ => absurd hlt2 (by simp [hx])) (fun bk ok c2' hvv _ _ hcl => ?_)
          injection hvv with e1 e2 e3
          clear e2
          subst e1 e3
          obtain ⟨ur, hur, hrr⟩ := hcl k2 hlt2
          obtain ⟨y, hy⟩ : ∃ y, y = b[k2] := ⟨_, rfl⟩
          rw [← hy] at hrr
          have hyl : y.length = r := by rw [hy]; exact HB.out _ (List.getElem_mem hlt2)
          have HYL := Lib.hid hyl
          have HTK : Hid ((sumT a l b r).take (m + 1) = (sumT a l b r).take m ++ [List.replicate l 0 ++ y]) := Lib.hid (by rw [hy, HME.out]; exact sumT_take_b hlt2)
          have HRR := Lib.hid hrr
          have HUR : Hid (∀ W, Below w.heap.size w W → W.cell? ⟨bk, ok + k2, none⟩ = some ur) := Lib.hid (fun W h => later h (Nat.le_refl _) hur)
          obtain ⟨ar, cr, hus⟩ := Sl.shape hrr
          have hmk2 := run_make_row' (P := Try.prog) 22 2 (.int .i64 0) 8 Try.underlying22 Try.infoI rfl .i64 .i64 l (by omega) (by omega)
          have HMK := Lib.hid hmk2
          subst hus
          clear hcl hur hrr hy hyl hmk2
          go_wp2
          refine wp_region_held (S := fun W => Below w.heap.size w W) (by kernel_rfl) ?_
          have S0 : Below w.heap.size w wy.drew := HBE.out.drew
          have HGD := Lib.hid (HG.out.below (Below.refl wy.heap.size wy).drew)
          have hsd : w.heap.size ≤ wy.drew.heap.size := hsy
          change wpAnyH _ _ _ _ _ _ _ _ wy.drew
          clear HG HBE
          generalize wy.drew = wd at *
          refine held_take (i := 0) (v := .slice ao2 m co2) (some 35) rfl rfl (by kernel_rfl) (by kernel_rfl) (by kernel_rfl) (fun _ _ _ h => h) (yieldsIf_move (by kernel_rfl) rfl (by kernel_rfl)) S0 ?_
          refine held_take (i := 1) (v := .int .i64 (l : Int)) (some 36) rfl rfl (by kernel_rfl) (by kernel_rfl) (by kernel_rfl) (fun _ _ _ h => h) (yieldsIf_move (by kernel_rfl) rfl (by kernel_rfl)) S0 ?_
          refine held_take (i := 3) (v := .slice (some ⟨bk, ok, none⟩) b.length cb) (some 38) rfl rfl (by kernel_rfl) (by kernel_rfl) (by kernel_rfl) (fun _ _ _ h => h) (yieldsIf_move (by kernel_rfl) rfl (by kernel_rfl)) S0 ?_
          refine held_take (i := 4) (v := .int .i64 (k2 : Int)) (some 39) rfl rfl (by kernel_rfl) (by kernel_rfl) (by kernel_rfl) (fun _ _ _ h => h) (yieldsIf_move (by kernel_rfl) rfl (by kernel_rfl)) S0 ?_
          refine held_take (i := 5) (v := .pointer (some ⟨bk, ok + k2, none⟩)) (some 40) rfl rfl (by kernel_rfl) (by kernel_rfl) (by kernel_rfl) (fun _ _ _ h => h) (yieldsIf_index (by kernel_rfl) rfl (by kernel_rfl) (by kernel_rfl) (hidxS bk ok cb hlt2)) S0 ?_
          refine held_take (i := 6) (v := .slice ar y.length cr) (some 41) rfl rfl (by kernel_rfl) (by kernel_rfl) (by kernel_rfl) (fun _ _ _ h => h) (yieldsIf_cell (by kernel_rfl) rfl (by kernel_rfl) (fun W h => hloadS W (HUR.out W h))) S0 ?_
          obtain ⟨we, hwe⟩ : ∃ we, we = wd.alloc (.cells (madeCells #[.int .i64 0] l) 2) := ⟨_, rfl⟩
          have hbe : Below wd.heap.size wd we := by rw [hwe]; exact below_alloc1 _ _
          have hge : Gb wd.heap.size we (.slice (some ⟨wd.heap.size, 0, none⟩) l l) (List.replicate l 0) := by rw [hwe]; exact madeI wd l (by omega) _ (Nat.le_refl _)
          have S1 : Below w.heap.size w we := S0.trans (hbe.mono hsd)
          refine held_mem (i := 2) (v := .slice (some ⟨wd.heap.size, 0, none⟩) l l) (w' := we) (some 37) (by kernel_rfl) rfl rfl rfl (by rw [hwe]; have := HMK.out; go_simp) S1 ?_
          obtain ⟨v3, w3, hrun, hg3, hgr3⟩ := run_append_row we 22 _ _ hge (.slice ar y.length cr) y (HRR.out.below S1) (by have := HYL.out; simp; omega) hbe.size
          have hb3 : Below wd.heap.size wd w3 := hbe.grown hgr3 hbe.size (fun g hg => (hge.lt g hg).1)
          have S2 : Below w.heap.size w w3 := S0.trans (hb3.mono hsd)
          refine held_call (i := 7) (by kernel_rfl) rfl rfl ?_
          refine Lib.wp_append_run _ (.tmp 37) (.tmp 41) _ _ rfl _ _ (by kernel_rfl) (by kernel_rfl) _ _ hrun ?_
          refine ⟨S2, ?_⟩
          obtain ⟨a3, n3, c3, hv3⟩ : ∃ a n c, v3 = .slice a n c := by obtain ⟨a', c', ee⟩ := Sl.shape hg3.g1.l1; exact ⟨a', _, c', ee⟩
          subst hv3
          have hba : Below w3.heap.size w3 (w3.alloc (.cells #[.slice a3 n3 c3] 22)) := below_alloc1 _ _
          have S4 : Below w.heap.size w (w3.alloc (.cells #[.slice a3 n3 c3] 22)) := S2.trans (hba.mono S2.size)
          refine held_buildS (i := 8) (some 43) (by kernel_rfl) rfl rfl rfl (.tmp 42) a3 n3 c3 rfl (by kernel_rfl) ⟨S4, ?_⟩
          refine held_appendG (i := 9) (some 44) (by kernel_rfl) rfl rfl rfl (.tmp 35) (.tmp 43) rfl w.heap.size (.slice ao2 m co2) _ (by kernel_rfl) ((HGD.out.below hb3).below hba) w3.heap.size a3 n3 c3 (by kernel_rfl) (cell_alloc1 w3 _ _) (List.replicate l 0 ++ y) (hg3.g1.below hba) (by rw [HGN.out]; have := HME.out; omega) S4.size ?_
          intro v7 W7 hg7 hb7
          have S5 : Below w.heap.size w W7 := S4.trans hb7
          have HG7 : Hid (Gs w.heap.size W7 v7 ((sumT a l b r).take (a.length + (k2 + 1)))) := Lib.hid (by rw [show a.length + (k2 + 1) = m + 1 by have := HME.out; omega, HTK.out]; exact hg7)
          have HB7 := Lib.hid S5
          refine ⟨S5, ?_⟩
          refine held_take (i := 10) (v := v7) (some 9) rfl rfl (by kernel_rfl) (by kernel_rfl) (by kernel_rfl) (fun _ _ _ h => h) (yieldsIf_assign (by kernel_rfl) rfl (by kernel_rfl)) S5 ?_
          refine wpAnyH_done (by kernel_rfl) ?_ _
          simp only [Act.put, List.setIfInBounds_toArray, List.set_cons_zero, List.set_cons_succ]
          clear S0 S1 S2 S4 S5 hwe hbe hge hrun hg3 hgr3 hb3 hba hg7 hb7 hsd HMK
          go_wp2
          go_roundw
          case rel => exact ⟨k2 + 1, by omega, by go_num, HB7, HG7⟩
          case measure => simp [intOf]; omega
        · have hlk2 : ¬ (k2 : Int) < (b.length : Int) := by omega
          have HGF : Hid (Gs w.heap.size wy (.slice ao2 m co2) (sumT a l b r)) := Lib.hid (by
            have h0 := HG.out
            rwa [List.take_of_length_le (by rw [sumT_length]; have := HME.out; omega)] at h0)
          clear HG
          go_wp2
          go_ret
          exact ⟨_, rfl, HGF.out, HBE.out⟩
end Go.Proofs.Ytaaficdlckcgkaa
