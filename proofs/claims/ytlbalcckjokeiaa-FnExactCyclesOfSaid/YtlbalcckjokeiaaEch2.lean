/-
  The reference model's elimination: l01Rest by its contract.
-/
import Derived.Test.YtlbalcckjokeiaaEch1
namespace Go.Proofs.Ytlbalcckjokeiaa
open Go.RowKit

def RestR (p : Int) (n : Nat) (R : List Lin.V) (v : Lin.V) (w : World) (e : Ending) (w' : World) : Prop :=
  ∃ (u : Value) (r : Lin.V), e = .returned u ∧ Gb w.heap.size w' u (toL n r) ∧ Below w.heap.size w w' ∧ Lin.Rest p R v R.length r ∧ Lin.Wd n r

/-- A row of n numbers lies somewhere, if there are any. -/
theorem l1_toL {lo : Nat} {w : World} {u : Value} {n : Nat} {v : Lin.V} (h : L1 lo w u (toL n v)) (hn : 0 < n) : ∃ b o cap, u = .slice (some ⟨b, o, none⟩) n cap ∧ ∀ k, k < n → w.cell? ⟨b, o + k, none⟩ = some (.int .i64 (v k)) := by
  refine Sl.cases h (fun _ _ hx _ => by have := congrArg List.length hx; rw [toL_length] at this; simp at this; omega) (fun b o cap hv _ _ hc => ⟨b, o, cap, by rw [hv, toL_length], fun k hk => ?_⟩)
  obtain ⟨x, hx, hr⟩ := hc k (by rw [toL_length]; exact hk)
  rw [toL_get] at hr
  rw [hx, hr]
theorem l1_slice {lo : Nat} {w : World} {u : Value} {n : Nat} {v : Lin.V} (h : L1 lo w u (toL n v)) : ∃ ad cap, u = .slice ad n cap := by
  obtain ⟨ad, cap, hv⟩ := Sl.shape h
  exact ⟨ad, cap, by rw [hv, toL_length]⟩

set_option maxHeartbeats 3200000 in
set_option maxRecDepth 100000 in
theorem l01Rest_any (p : Int) (n : Nat) (vl vr : Value) (R : List Lin.V) (v : Lin.V) (w : World) (hp : IsP p) (hL : L2 0 w vl (R.map (toL n))) (hv : L1 0 w vr (toL n v)) (hR : Lin.Red p R) (hw : ∀ u ∈ R, Lin.Wd n u) (hm : Lin.Md p v) (hvw : Lin.Wd n v) (hn : n ≤ 1048576) (hl : R.length ≤ 1048576) :
    Calls Try.prog 83 #[.int .i64 p, vl, vr] w (RestR p n R v w) := by
  have HP := Lib.hid hp
  have HL := Lib.hid hL
  have HR := Lib.hid hR
  have HW := Lib.hid hw
  have HM := Lib.hid hm
  have HVW := Lib.hid hvw
  have HOWN := Lib.hid (l01Own_any vr (toL n v) w hv (by rw [toL_length]; exact hn))
  obtain ⟨al, cl, hvl⟩ := Sl.shape hL
  rw [List.length_map] at hvl
  subst hvl
  clear hp hL hR hw hm hvw hv
  go_enter Try.func83, Try.ntmps83
  go_wp2_with fail
  refine HOWN.out.mono ?_
  rintro e w1 ⟨u1, rfl, hg1, hb1⟩
  have HG1 := Lib.hid hg1
  have HB1 := Lib.hid hb1
  clear hg1 hb1 HOWN
  go_wp2
  go_loopw [7, 8] (fun o i wr => ∃ (k : Nat) (r : Lin.V), k ≤ R.length ∧ i = .int .i64 k ∧ Hid (Below w.heap.size w wr) ∧ Hid (Gb w.heap.size wr o (toL n r)) ∧ Hid (Lin.Rest p R v k r) ∧ Hid (Lin.Wd n r)) (fun _ i _ => R.length - (intOf i).toNat)
  case atStart => exact ⟨0, v, Nat.zero_le _, rfl, HB1, HG1, Lib.hid (Lin.Rest.start HM.out), HVW⟩
  case round =>
    clear HG1 HB1
    obtain ⟨k, r, hk, rfl, HB, HG, HRE, HRW⟩ := hrel
    have hsz : w.heap.size ≤ wr.heap.size := HB.out.size
    by_cases hlt : k < R.length
    · refine Sl.cases HL.out (fun _ _ hx _ => absurd hlt (by have := congrArg List.length hx; simp at this; simp [this])) (fun b o c2 hvv _ _ hc => ?_)
      rw [List.length_map] at hvv
      obtain ⟨rfl, rfl⟩ : al = some ⟨b, o, none⟩ ∧ cl = c2 := by simpa using hvv
      obtain ⟨ur, hur, hrr⟩ := hc k (by rw [List.length_map]; exact hlt)
      rw [List.getElem_map] at hrr
      obtain ⟨t, ht⟩ : ∃ t, t = R[k] := ⟨_, rfl⟩
      have HTE := Lib.hid ht
      rw [← ht] at hrr
      have HTW : Hid (Lin.Wd n t) := Lib.hid (by rw [ht]; exact HW.out _ (List.getElem_mem hlt))
      have HTM : Hid (Lin.Md p t) := Lib.hid (by rw [ht]; exact HR.out.md _ (List.getElem_mem hlt))
      have HTN : Hid (t ≠ Lin.zv) := Lib.hid (by rw [ht]; exact HR.out.ne (List.getElem_mem hlt))
      obtain ⟨hdn, _, _⟩ := ld_ltn HTW.out HTN.out
      obtain ⟨d, hd⟩ : ∃ d, d = Lin.ld t := ⟨_, rfl⟩
      have HD := Lib.hid hd
      rw [← hd] at hdn
      obtain ⟨g, og, cg, hou, hcell⟩ := l1_toL HG.out.l1 (show 0 < n by omega)
      subst hou
      obtain ⟨f, hf⟩ : ∃ f, f = r d := ⟨_, rfl⟩
      have HF := Lib.hid hf
      have hfb := HRE.out.md d
      rw [← hf] at hfb
      obtain ⟨ar, cr, hus⟩ := l1_slice hrr
      subst hus
      have HROW := Lib.hid hrr
      have hrow1 : ∀ W, Below wr.heap.size wr W → W.cell? ⟨b, o + k, none⟩ = some (.slice ar n cr) := fun W h => later (HB.out.trans (h.mono hsz)) (Nat.le_refl _) hur
      have hcell1 : ∀ W, Below wr.heap.size wr W → W.cell? ⟨g, og + d, none⟩ = some (.int .i64 f) := fun W h => by rw [hf]; exact later h (Nat.le_refl _) (hcell d hdn)
      obtain ⟨y, hy⟩ : ∃ y, y = Lin.add p r (-f) t := ⟨_, rfl⟩
      have HRE2 : Hid (Lin.Rest p R v (k + 1) y) := Lib.hid (by rw [hy, HF.out, HD.out, HTE.out]; exact HRE.out.step (by have := HP.out.lo1; omega) HR.out hlt)
      have HYW : Hid (Lin.Wd n y) := Lib.hid (by rw [hy]; exact Lin.add_wd _ HRW.out HTW.out)
      have HLEAD : Hid (∀ W, Below wr.heap.size wr W → Calls Try.prog 111 #[.slice ar n cr] W (QW (.int .i64 (d : Int)) W)) := Lib.hid (fun W h => by
        have := l01Lead_any _ _ W (HROW.out.below (HB.out.trans (h.mono hsz))) (by rw [toL_length]; exact hn)
        rwa [leadOf_toL HTW.out HTN.out, ← HD.out] at this)
      have HLESS : Hid (∀ W, Below wr.heap.size wr W → Calls Try.prog 113 #[.int .i64 p, .slice (some ⟨g, og, none⟩) n cg, .slice ar n cr, .int .i64 f] W (GbR (toL n y) W)) := Lib.hid (fun W h => by
        rw [hy]
        exact l01Less_any p f n _ _ r t W HP.out ((HG.out.below h).l1) (HROW.out.below (HB.out.trans (h.mono hsz))) HRE.out.md HTM.out hfb hn)
      clear hvv hc hur hrr ht hd hcell hf hy hfb
      go_wp2
      refine wp_region_held (S := fun W => Below wr.heap.size wr W) (by kernel_rfl) ?_
      have S0 : Below wr.heap.size wr wr.drew := (Below.refl _ _).drew
      refine held_take (i := 0) (v := .int .i64 p) (some 17) rfl rfl (by kernel_rfl) (by kernel_rfl) (by kernel_rfl) (fun _ _ _ h => h) (yieldsIf_move (by kernel_rfl) rfl (by kernel_rfl)) S0 ?_
      refine held_take (i := 1) (v := .slice (some ⟨g, og, none⟩) n cg) (some 18) rfl rfl (by kernel_rfl) (by kernel_rfl) (by kernel_rfl) (fun _ _ _ h => h) (yieldsIf_move (by kernel_rfl) rfl (by kernel_rfl)) S0 ?_
      refine held_take (i := 2) (v := .slice (some ⟨b, o, none⟩) R.length cl) (some 19) rfl rfl (by kernel_rfl) (by kernel_rfl) (by kernel_rfl) (fun _ _ _ h => h) (yieldsIf_move (by kernel_rfl) rfl (by kernel_rfl)) S0 ?_
      refine held_take (i := 3) (v := .int .i64 (k : Int)) (some 20) rfl rfl (by kernel_rfl) (by kernel_rfl) (by kernel_rfl) (fun _ _ _ h => h) (yieldsIf_move (by kernel_rfl) rfl (by kernel_rfl)) S0 ?_
      refine held_take (i := 4) (v := .pointer (some ⟨b, o + k, none⟩)) (some 21) rfl rfl (by kernel_rfl) (by kernel_rfl) (by kernel_rfl) (fun _ _ _ h => h) (yieldsIf_index (by kernel_rfl) rfl (by kernel_rfl) (by kernel_rfl) (hidxS b o cl hlt)) S0 ?_
      refine held_take (i := 5) (v := .slice ar n cr) (some 22) rfl rfl (by kernel_rfl) (by kernel_rfl) (by kernel_rfl) (fun _ _ _ h => h) (yieldsIf_cell (by kernel_rfl) rfl (by kernel_rfl) (fun W h => hloadS W (hrow1 W h))) S0 ?_
      refine held_take (i := 6) (v := .slice (some ⟨g, og, none⟩) n cg) (some 23) rfl rfl (by kernel_rfl) (by kernel_rfl) (by kernel_rfl) (fun _ _ _ h => h) (yieldsIf_move (by kernel_rfl) rfl (by kernel_rfl)) S0 ?_
      refine held_take (i := 7) (v := .slice (some ⟨b, o, none⟩) R.length cl) (some 24) rfl rfl (by kernel_rfl) (by kernel_rfl) (by kernel_rfl) (fun _ _ _ h => h) (yieldsIf_move (by kernel_rfl) rfl (by kernel_rfl)) S0 ?_
      refine held_take (i := 8) (v := .int .i64 (k : Int)) (some 25) rfl rfl (by kernel_rfl) (by kernel_rfl) (by kernel_rfl) (fun _ _ _ h => h) (yieldsIf_move (by kernel_rfl) rfl (by kernel_rfl)) S0 ?_
      refine held_take (i := 9) (v := .pointer (some ⟨b, o + k, none⟩)) (some 26) rfl rfl (by kernel_rfl) (by kernel_rfl) (by kernel_rfl) (fun _ _ _ h => h) (yieldsIf_index (by kernel_rfl) rfl (by kernel_rfl) (by kernel_rfl) (hidxS b o cl hlt)) S0 ?_
      refine held_take (i := 10) (v := .slice ar n cr) (some 27) rfl rfl (by kernel_rfl) (by kernel_rfl) (by kernel_rfl) (fun _ _ _ h => h) (yieldsIf_cell (by kernel_rfl) rfl (by kernel_rfl) (fun W h => hloadS W (hrow1 W h))) S0 ?_
      refine held_enter (i := 11) (some 28) (f := 111) (args := #[.slice ar n cr]) (by kernel_rfl) rfl rfl rfl (by kernel_rfl) (HLEAD.out _ S0) ?_ (fun c w' h => by cases h.1) (fun w' h => by cases h.1)
      rintro e4 W4 ⟨he4, rfl⟩
      injection he4 with he4
      subst he4
      refine ⟨S0, ?_⟩
      refine held_take (i := 12) (v := .pointer (some ⟨g, og + d, none⟩)) (some 29) rfl rfl (by kernel_rfl) (by kernel_rfl) (by kernel_rfl) (fun _ _ _ h => h) (yieldsIf_index (by kernel_rfl) rfl (by kernel_rfl) (by kernel_rfl) (hidxI g og cg hdn)) S0 ?_
      refine held_take (i := 13) (v := .int .i64 f) (some 30) rfl rfl (by kernel_rfl) (by kernel_rfl) (by kernel_rfl) (fun _ _ _ h => h) (yieldsIf_cell (by kernel_rfl) rfl (by kernel_rfl) (fun W h => hload W (hcell1 W h))) S0 ?_
      refine held_enter (i := 14) (some 31) (f := 113) (args := #[.int .i64 p, .slice (some ⟨g, og, none⟩) n cg, .slice ar n cr, .int .i64 f]) (by kernel_rfl) rfl rfl rfl (by kernel_rfl) (HLESS.out _ S0) ?_ (fun c w' h => by obtain ⟨_, h, _⟩ := h; cases h) (fun w' h => by obtain ⟨_, h, _⟩ := h; cases h)
      rintro e5 W5 ⟨u5, he5, hg5, hb5⟩
      injection he5 with he5
      subst he5
      have S1 : Below wr.heap.size wr W5 := S0.trans hb5
      have HB5 := Lib.hid (HB.out.trans (S1.mono hsz))
      have HG5 : Hid (Gb w.heap.size W5 e5 (toL n y)) := Lib.hid (hg5.mono hsz)
      refine ⟨S1, ?_⟩
      refine held_take (i := 15) (v := e5) (some 7) rfl rfl (by kernel_rfl) (by kernel_rfl) (by kernel_rfl) (fun _ _ _ h => h) (yieldsIf_assign (by kernel_rfl) rfl (by kernel_rfl)) S1 ?_
      refine wpAnyH_done (by kernel_rfl) ?_ _
      simp only [Act.put, List.setIfInBounds_toArray, List.set_cons_zero, List.set_cons_succ]
      clear S0 S1 hg5 hb5 hrow1 hcell1 HLEAD HLESS HB HG
      go_wp2
      go_roundw
      case rel => exact ⟨k + 1, y, by omega, by go_num, HB5, HG5, HRE2, HYW⟩
      case measure => simp [intOf]; omega
    · have hkk : Hid (k = R.length) := Lib.hid (by omega)
      go_wp2
      go_ret
      exact ⟨_, r, rfl, HG.out, HB.out, by have := HRE.out; rwa [hkk.out] at this, HRW.out⟩
end Go.Proofs.Ytlbalcckjokeiaa
