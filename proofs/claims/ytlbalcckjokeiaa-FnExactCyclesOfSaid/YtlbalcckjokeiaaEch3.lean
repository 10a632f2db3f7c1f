/-
  The reference model's elimination: l01Echelon by its contract.
-/
import Derived.Test.YtlbalcckjokeiaaEch2
import Derived.Deep.AppendLies
namespace Go.Proofs.Ytlbalcckjokeiaa
open Go.RowKit

/-- A table gathered row by row, above a base. -/
def Gs (base : Nat) (w : World) (u : Value) (t : List (List Int)) : Prop := ∃ vs, w.ownsRow base 31 1 u t.length vs ∧ ∀ k (h1 : k < vs.length) (h2 : k < t.length), G1 w vs[k] t[k]
theorem Gs.below {base : Nat} {w w' : World} {u : Value} {t : List (List Int)} (h : Gs base w u t) (hb : Below w.heap.size w w') : Gs base w' u t := by
  obtain ⟨vs, ho, hr⟩ := h
  exact ⟨vs, owns_below ho hb, fun k h1 h2 => (hr k h1 h2).below hb⟩
theorem Gs.mono {base base' : Nat} {w : World} {u : Value} {t : List (List Int)} (h : Gs base w u t) (hb : base' ≤ base) : Gs base' w u t := by
  obtain ⟨vs, ho, hr⟩ := h
  exact ⟨vs, owns_mono ho hb, hr⟩
theorem Gs.l2 {base : Nat} {w : World} {u : Value} {t : List (List Int)} (h : Gs base w u t) : L2 0 w u t := by
  obtain ⟨vs, ho, hr⟩ := h
  exact sl_of_owns ho (Nat.zero_le _) rfl (fun k h1 h2 => (hr k h2 h1).l1)
theorem Gs.push {base : Nat} {w w3 : World} {v v' row : Value} {t : List (List Int)} {vs : List Value} {x : List Int} (ho : w.ownsRow base 31 1 v t.length vs) (hr : ∀ k (h1 : k < vs.length) (h2 : k < t.length), G1 w vs[k] t[k]) (hx : G1 w row x)
    (ho3 : w3.ownsRow base 31 1 v' (t.length + 1) (vs ++ [row])) (hg : w.grownBy w3 v.ownBlock) : Gs base w3 v' (t ++ [x]) := by
  have hvl : vs.length = t.length := by have := ho.1; omega
  have keep : ∀ u xs, G1 w u xs → G1 w3 u xs := fun u xs h => owns_grown h ho (by decide) hg
  refine ⟨vs ++ [row], by simpa using ho3, fun k h1 h2 => ?_⟩
  by_cases e : k < vs.length
  · rw [List.getElem_append_left e, List.getElem_append_left (by omega)]
    exact keep _ _ (hr k e (by omega))
  · have e2 : k = vs.length := by simp at h1; omega
    subst e2
    rw [List.getElem_append_right (by omega), List.getElem_append_right (by omega)]
    simp only [hvl, Nat.sub_self, List.getElem_cons_zero]
    exact keep _ _ hx

/-- The first q numbers of a row multiplied. -/
def scal (p inv : Int) (r : Lin.V) (q : Nat) : Lin.V := fun i => if i < q then r i * inv % p else r i
theorem scal_zero (p inv : Int) (r : Lin.V) : scal p inv r 0 = r := by (funext i; simp [scal])
theorem toL_congr {n : Nat} {u v : Lin.V} (h : ∀ i, i < n → u i = v i) : toL n u = toL n v := List.map_congr_left (fun i hi => h i (List.mem_range.1 hi))
theorem toL_set {n : Nat} (v : Lin.V) (q : Nat) (x : Int) : ((toL n v).map (Value.int .i64)).set q (.int .i64 x) = (toL n (fun i => if i = q then x else v i)).map (Value.int .i64) := by
  refine List.ext_getElem (by simp [toL_length]) fun i h1 h2 => ?_
  rw [List.getElem_set]
  by_cases e : q = i
  · subst e
    simp [toL]
  · have e2 : ¬ i = q := fun h => e h.symm
    simp [toL, e, e2]

def EchR (p : Int) (n : Nat) (TS : List Lin.V) (w : World) (e : Ending) (w' : World) : Prop :=
  ∃ (u : Value) (R : List Lin.V), e = .returned u ∧ Gs w.heap.size w' u (R.map (toL n)) ∧ Below w.heap.size w w' ∧ RedN p n R TS ∧ R.length ≤ TS.length

set_option maxHeartbeats 12800000 in
set_option maxRecDepth 100000 in
theorem l01Echelon_any (p : Int) (n : Nat) (vl : Value) (TS : List Lin.V) (w : World) (hp : IsP p) (hL : L2 0 w vl (TS.map (toL n))) (hm : ∀ u ∈ TS, Lin.Md p u) (hw : ∀ u ∈ TS, Lin.Wd n u) (hn : n ≤ 1048576) (hl : TS.length ≤ 1048575) :
    Calls Try.prog 59 #[.int .i64 p, vl] w (EchR p n TS w) := by
  have HP := Lib.hid hp
  have HL := Lib.hid hL
  have HTM := Lib.hid hm
  have HTW := Lib.hid hw
  have hp7 := hp.hi7
  have hp1 := hp.lo1
  obtain ⟨al, cl, hvl⟩ := Sl.shape hL
  rw [List.length_map] at hvl
  subst hvl
  obtain ⟨i0, hi0, hz0, hz1, hz2⟩ := info_parts Try.infoS
  have HOWN0 := Lib.hid (World.ownsRow_made (base := w.heap.size) (e := 31) (size := 1) w #[] 0 (Nat.le_refl _) (by unfold maxLen; omega) (by simp))
  clear hp hL hm hw
  go_enter Try.func59, Try.ntmps59
  go_wp2
  go_loopw [5, 6] (fun o i wr => ∃ (k : Nat) (R : List Lin.V), k ≤ TS.length ∧ i = .int .i64 k ∧ Hid (Below w.heap.size w wr) ∧ Hid (Gs w.heap.size wr o (R.map (toL n))) ∧ Hid (RedN p n R (TS.take k)) ∧ R.length ≤ k) (fun _ i _ => TS.length - (intOf i).toNat)
  case atStart => exact ⟨0, [], Nat.zero_le _, rfl, Lib.hid ((Below.refl _ _).alloc (Nat.le_refl _) _), Lib.hid ⟨[], by simpa using HOWN0.out, fun k h1 _ => absurd h1 (Nat.not_lt_zero _)⟩, Lib.hid (by rw [List.take_zero]; exact RedN.nil p n), Nat.le_refl _⟩
  case round =>
    clear HOWN0
    obtain ⟨k, R, hk, rfl, HB, HO, HR, hRk⟩ := hrel
    obtain ⟨wo, hwo⟩ : ∃ wo : World, wo = wr := ⟨_, rfl⟩
    subst hwo
    have hsz : w.heap.size ≤ wo.heap.size := HB.out.size
    obtain ⟨ao, co, hov⟩ := Sl.shape HO.out.l2
    rw [List.length_map] at hov
    subst hov
    by_cases hlt : k < TS.length
    · refine Sl.cases HL.out (fun _ _ hx _ => absurd hlt (by have := congrArg List.length hx; simp at this; simp [this])) (fun b o c2 hvv _ _ hc => ?_)
      rw [List.length_map] at hvv
      obtain ⟨rfl, rfl⟩ : al = some ⟨b, o, none⟩ ∧ cl = c2 := by simpa using hvv
      obtain ⟨ur, hur, hrr⟩ := hc k (by rw [List.length_map]; exact hlt)
      rw [List.getElem_map] at hrr
      obtain ⟨t, ht⟩ : ∃ t, t = TS[k] := ⟨_, rfl⟩
      have HTK : Hid (TS.take (k + 1) = TS.take k ++ [t]) := Lib.hid (by rw [ht]; exact List.take_succ_eq_append_getElem hlt)
      have HTKM : Hid (∀ x ∈ TS.take k, Lin.Md p x) := Lib.hid (fun x hx => HTM.out x (List.mem_of_mem_take hx))
      rw [← ht] at hrr
      have HTT : Hid (Lin.Md p t ∧ Lin.Wd n t) := Lib.hid (by rw [ht]; exact ⟨HTM.out _ (List.getElem_mem hlt), HTW.out _ (List.getElem_mem hlt)⟩)
      have hur2 := later HB.out (Nat.le_refl _) hur
      obtain ⟨ar, cr, hus⟩ := l1_slice hrr
      subst hus
      have HRST := Lib.hid (l01Rest_any p n _ _ R t wo HP.out HO.out.l2 (hrr.below HB.out) HR.out.red HR.out.wd HTT.out.1 HTT.out.2 hn (by omega))
      clear hvv hc hur hrr ht
      go_wp2_with fail
      refine HRST.out.mono ?_
      rintro e w1 ⟨u7, r, rfl, hg1, hb1, hrest, hrw⟩
      have HRE := Lib.hid hrest
      have HRW := Lib.hid hrw
      have HB1 := Lib.hid hb1
      have hs1 : wo.heap.size ≤ w1.heap.size := hb1.size
      by_cases hz : r = Lin.zv
      · have hlead := l01Lead_any u7 (toL n r) w1 hg1.l1 (by rw [toL_length]; exact hn)
        rw [hz, leadOf_zv] at hlead
        have HR2 : Hid (RedN p n R (TS.take (k + 1))) := Lib.hid (by
          rw [HTK.out]
          have := HRE.out
          rw [hz] at this
          exact HR.out.skip (by omega) HTKM.out HTT.out.1 this)
        have HLEAD := Lib.hid hlead
        obtain ⟨a7, c7, hv7⟩ := l1_slice hg1.l1
        subst hv7
        clear hlead hg1 hb1 hrest hrw hz hur2 HRST
        go_wp2_with fail
        refine HLEAD.out.mono ?_
        rintro e w' ⟨rfl, rfl⟩
        go_wp2
        go_roundw
        case rel => exact ⟨k + 1, R, by omega, by go_num, Lib.hid (HB.out.trans (HB1.out.mono hsz)), Lib.hid (HO.out.below HB1.out), HR2, by omega⟩
        case measure => simp [intOf]; omega
      · obtain ⟨hdn, hdne, _⟩ := ld_ltn hrw hz
        have hlead := l01Lead_any u7 (toL n r) w1 hg1.l1 (by rw [toL_length]; exact hn)
        rw [leadOf_toL hrw hz] at hlead
        obtain ⟨d, hd⟩ : ∃ d, d = Lin.ld r := ⟨_, rfl⟩
        have HD := Lib.hid hd
        rw [← hd] at hlead hdn hdne
        have hown := hg1
        unfold Gb at hown
        rw [toL_length] at hown
        obtain ⟨g, c7, hv7, hgb, hgl⟩ := World.ownsRow.form hown (by omega)
        subst hv7
        obtain ⟨a, ha⟩ : ∃ a, a = r d := ⟨_, rfl⟩
        have HA := Lib.hid ha
        have hab := hrest.md d
        rw [← ha] at hab hdne
        have hcell : w1.cell? ⟨g, d, none⟩ = some (.int .i64 a) := by
          rw [World.ownsRow.cellAt hown d (by omega), ha]
          simp [toL, hdn]
        have HZ := Lib.hid hz
        have HOWN := Lib.hid hown
        have HLEAD := Lib.hid hlead
        have HINV := Lib.hid (l01Inverse_any p a w1 HP.out (by omega) (by omega))
        clear hlead hg1 hb1 hrest hrw hz hur2 HRST hd ha hown
        go_wp2_with fail
        refine HLEAD.out.mono ?_
        rintro e w' ⟨rfl, rfl⟩
        go_wp2_with fail
        refine HINV.out.mono ?_
        rintro e w' ⟨inv, rfl, rfl, hi1, hip, hinv⟩
        have HIV := Lib.hid hinv
        clear hinv hcell HINV HLEAD
        go_wp2
        go_loopw [10] (fun i wr => ∃ (q : Nat), q ≤ n ∧ i = .int .i64 q ∧ Hid (Below wo.heap.size wo wr) ∧ Hid (wr.ownsRow wo.heap.size 2 1 (.slice (some ⟨g, 0, none⟩) n c7) n ((toL n (scal p inv r q)).map (Value.int .i64)))) (fun i _ => n - (intOf i).toNat)
        case atStart => exact ⟨0, Nat.zero_le _, rfl, HB1, Lib.hid (by rw [scal_zero]; exact HOWN.out)⟩
        case round =>
          clear HOWN HB1
          obtain ⟨q, hq, rfl, HBI, HOI⟩ := hrel
          by_cases hltq : q < n
          · obtain ⟨x, hx⟩ : ∃ x, x = r q := ⟨_, rfl⟩
            have hxb := HRE.out.md q
            rw [← hx] at hxb
            have hc : wr.cell? ⟨g, q, none⟩ = some (.int .i64 x) := by
              rw [World.ownsRow.cellAt HOI.out q (by omega), hx]
              simp [toL, scal, hltq]
            have hf := World.ownsRow.frozenAt HOI.out q
            obtain ⟨m0, m1⟩ := mul_bd HP.out (a := x) (b := (inv : Int)) hxb.1 hxb.2 (by omega) (by omega)
            have hst := World.ownsRow.stored HOI.out q (.int .i64 (x * inv % p))
            have HO2 : Hid ((wr.setCell ⟨g, q, none⟩ (.int .i64 (x * inv % p))).ownsRow wo.heap.size 2 1 (.slice (some ⟨g, 0, none⟩) n c7) n ((toL n (scal p inv r (q + 1))).map (Value.int .i64))) := Lib.hid (by
              have h := hst.1
              rw [toL_set] at h
              have e : toL n (scal p inv r (q + 1)) = toL n (fun i => if i = q then x * inv % p else scal p inv r q i) := toL_congr (fun i _ => by
                unfold scal
                by_cases e1 : i = q
                · subst e1
                  rw [if_pos (Nat.lt_succ_self _), if_pos rfl, hx]
                · rw [if_neg e1]
                  by_cases e2 : i < q
                  · rw [if_pos e2, if_pos (by omega)]
                  · rw [if_neg e2, if_neg (by omega)])
              rw [e]
              exact h)
            have HB2 : Hid (Below wo.heap.size wo (wr.setCell ⟨g, q, none⟩ (.int .i64 (x * inv % p)))) := Lib.hid (HBI.out.setCell hgb _)
            clear hst hx HOI HBI
            go_wp2
            go_roundw
            case rel => exact ⟨q + 1, by omega, by go_num, HB2, HO2⟩
            case measure => simp [intOf]; omega
          · obtain ⟨w2, hw2⟩ : ∃ w2 : World, w2 = wr := ⟨_, rfl⟩
            subst hw2
            have hqq : Hid (q = n) := Lib.hid (by omega)
            obtain ⟨u, hu⟩ : ∃ u : Lin.V, u = fun i => (inv : Int) * r i % p := ⟨_, rfl⟩
            have HUU : Hid (Lin.Unit p r u) := Lib.hid (by rw [hu]; exact Lin.Unit.mk' (by omega) HRE.out.md HZ.out (by rw [← HD.out, ← HA.out]; exact HIV.out))
            have HUW : Hid (Lin.Wd n u) := Lib.hid (fun i hi => by rw [hu]; simp [HRW.out i hi])
            have HLU : Hid (Lin.ld u = d) := Lib.hid (HUU.out.lead.trans HD.out.symm)
            have HOWN7 : Hid (G1 w2 (.slice (some ⟨g, 0, none⟩) n c7) (toL n u)) := Lib.hid (by
              have h := HOI.out
              have e : toL n (scal p inv r q) = toL n u := toL_congr (fun i hi => by
                unfold scal
                rw [hu, if_pos (by have := hqq.out; omega), Int.mul_comm])
              rw [e] at h
              unfold G1
              rw [toL_length]
              exact owns_mono h (Nat.zero_le _))
            have hs2 : wo.heap.size ≤ w2.heap.size := HBI.out.size
            have HO2 := Lib.hid (HO.out.below HBI.out)
            have HB2 := HBI
            have HOWN1 := Lib.hid (World.ownsRow_made (base := w2.heap.size) (e := 31) (size := 1) w2 #[] 0 (Nat.le_refl _) (by unfold maxLen; omega) (by simp))
            clear HOI HBI hu HIV HA hqq
            go_wp2
            go_loopw [11, 12, 13] (fun nx pb i wr => ∃ (j : Nat) (pt : Bool) (N : List Lin.V), j ≤ R.length ∧ i = .int .i64 j ∧ pb = .bool pt ∧ Hid (Below w2.heap.size w2 wr) ∧ Hid (Gs w2.heap.size wr nx (N.map (toL n))) ∧ Hid (Nx p R u j pt N)) (fun _ _ i _ => R.length - (intOf i).toNat)
            case atStart => exact ⟨0, false, [], Nat.zero_le _, rfl, rfl, Lib.hid ((Below.refl _ _).alloc (Nat.le_refl _) _), Lib.hid ⟨[], by simpa using HOWN1.out, fun k h1 _ => absurd h1 (Nat.not_lt_zero _)⟩, Lib.hid (Nx.start p R u)⟩
            case round =>
              clear HOWN1
              obtain ⟨j, pt, N, hjl, rfl, rfl, HBX, HGN0, HNX⟩ := hrel
              have hsx : w2.heap.size ≤ wr.heap.size := HBX.out.size
              have hNl : N.length ≤ j + 1 := HNX.out.length hjl
              obtain ⟨vs, hvo, hvr⟩ := HGN0.out
              have HVO := Lib.hid hvo
              have HVR := Lib.hid hvr
              obtain ⟨an, cn, hnv⟩ := Sl.shape HGN0.out.l2
              rw [List.length_map] at hnv
              subst hnv
              clear hvo hvr
              by_cases hj : j < R.length
              · refine Sl.cases HO2.out.l2 (fun _ _ hx _ => absurd hj (by have := congrArg List.length hx; simp at this; simp [this])) (fun bo oo c2 hvv _ _ hc => ?_)
                rw [List.length_map] at hvv
                obtain ⟨rfl, rfl⟩ : ao = some ⟨bo, oo, none⟩ ∧ co = c2 := by simpa using hvv
                obtain ⟨uj, huj, hrj⟩ := hc j (by rw [List.length_map]; exact hj)
                rw [List.getElem_map] at hrj
                obtain ⟨s, hs⟩ : ∃ s, s = R[j] := ⟨_, rfl⟩
                have HSE := Lib.hid hs
                rw [← hs] at hrj
                have HSW : Hid (Lin.Wd n s) := Lib.hid (by rw [hs]; exact HR.out.wd _ (List.getElem_mem hj))
                have HSM : Hid (Lin.Md p s) := Lib.hid (by rw [hs]; exact HR.out.red.md _ (List.getElem_mem hj))
                have HSN : Hid (s ≠ Lin.zv) := Lib.hid (by rw [hs]; exact HR.out.red.ne (List.getElem_mem hj))
                have HSL : Hid (Lin.ld s ≠ Lin.ld u) := Lib.hid (by rw [hs]; exact lead_apart HRE.out HUU.out (List.getElem_mem hj))
                obtain ⟨bj, oj, cj, huv, hcj⟩ := l1_toL hrj (show 0 < n by omega)
                subst huv
                obtain ⟨f, hf⟩ : ∃ f, f = s d := ⟨_, rfl⟩
                have hfb := HSM.out d
                rw [← hf] at hfb
                have HROWJ := Lib.hid hrj
                have hrowj : ∀ W, Below w2.heap.size w2 W → W.cell? ⟨bo, oo + j, none⟩ = some (.slice (some ⟨bj, oj, none⟩) n cj) := fun W h => later h (Nat.le_refl _) huj
                have hcellj : ∀ W, Below w2.heap.size w2 W → W.cell? ⟨bj, oj + d, none⟩ = some (.int .i64 f) := fun W h => by rw [hf]; exact later h (Nat.le_refl _) (hcj d hdn)
                have HLESS : Hid (∀ W, Below w2.heap.size w2 W → Calls Try.prog 113 #[.int .i64 p, .slice (some ⟨bj, oj, none⟩) n cj, .slice (some ⟨g, 0, none⟩) n c7, .int .i64 f] W (GbR (toL n (less1 p u R[j])) W)) := Lib.hid (fun W h => by
                  have e : less1 p u R[j] = Lin.add p s (-f) u := by rw [less1, ← HSE.out, HLU.out, hf]
                  rw [e]
                  exact l01Less_any p f n _ _ s u W HP.out (HROWJ.out.below h) ((HOWN7.out.below h).l1) HSM.out HUU.out.md hfb hn)
                have hrow0 := hrowj _ HBX.out
                have HLJ : Hid (Calls Try.prog 111 #[.slice (some ⟨bj, oj, none⟩) n cj] wr (QW (.int .i64 (Lin.ld s : Int)) wr)) := Lib.hid (by
                  have := l01Lead_any _ _ wr (HROWJ.out.below HBX.out) (by rw [toL_length]; exact hn)
                  rwa [leadOf_toL HSW.out HSN.out] at this)
                clear hvv hc huj hrj hs hcj hf hfb
                cases pt with
                | true =>
                  clear HLJ
                  go_wp2
                  clear hrow0
                  refine wp_region_held (S := fun W => Below w2.heap.size w2 W) (by kernel_rfl) ?_
                  have S0 : Below w2.heap.size w2 wr.drew := HBX.out.drew
                  refine held_take (i := 0) (v := .slice an N.length cn) (some 77) rfl rfl (by kernel_rfl) (by kernel_rfl) (by kernel_rfl) (fun _ _ _ h => h) (yieldsIf_move (by kernel_rfl) rfl (by kernel_rfl)) S0 ?_
                  refine held_take (i := 1) (v := .int .i64 p) (some 78) rfl rfl (by kernel_rfl) (by kernel_rfl) (by kernel_rfl) (fun _ _ _ h => h) (yieldsIf_move (by kernel_rfl) rfl (by kernel_rfl)) S0 ?_
                  refine held_take (i := 2) (v := .slice (some ⟨bo, oo, none⟩) R.length co) (some 79) rfl rfl (by kernel_rfl) (by kernel_rfl) (by kernel_rfl) (fun _ _ _ h => h) (yieldsIf_move (by kernel_rfl) rfl (by kernel_rfl)) S0 ?_
                  refine held_take (i := 3) (v := .int .i64 (j : Int)) (some 80) rfl rfl (by kernel_rfl) (by kernel_rfl) (by kernel_rfl) (fun _ _ _ h => h) (yieldsIf_move (by kernel_rfl) rfl (by kernel_rfl)) S0 ?_
                  refine held_take (i := 4) (v := .pointer (some ⟨bo, oo + j, none⟩)) (some 81) rfl rfl (by kernel_rfl) (by kernel_rfl) (by kernel_rfl) (fun _ _ _ h => h) (yieldsIf_index (by kernel_rfl) rfl (by kernel_rfl) (by kernel_rfl) (hidxS bo oo co hj)) S0 ?_
                  refine held_take (i := 5) (v := .slice (some ⟨bj, oj, none⟩) n cj) (some 82) rfl rfl (by kernel_rfl) (by kernel_rfl) (by kernel_rfl) (fun _ _ _ h => h) (yieldsIf_cell (by kernel_rfl) rfl (by kernel_rfl) (fun W h => hloadS W (hrowj W h))) S0 ?_
                  refine held_take (i := 6) (v := .slice (some ⟨g, 0, none⟩) n c7) (some 83) rfl rfl (by kernel_rfl) (by kernel_rfl) (by kernel_rfl) (fun _ _ _ h => h) (yieldsIf_move (by kernel_rfl) rfl (by kernel_rfl)) S0 ?_
                  refine held_take (i := 7) (v := .slice (some ⟨bo, oo, none⟩) R.length co) (some 84) rfl rfl (by kernel_rfl) (by kernel_rfl) (by kernel_rfl) (fun _ _ _ h => h) (yieldsIf_move (by kernel_rfl) rfl (by kernel_rfl)) S0 ?_
                  refine held_take (i := 8) (v := .int .i64 (j : Int)) (some 85) rfl rfl (by kernel_rfl) (by kernel_rfl) (by kernel_rfl) (fun _ _ _ h => h) (yieldsIf_move (by kernel_rfl) rfl (by kernel_rfl)) S0 ?_
                  refine held_take (i := 9) (v := .pointer (some ⟨bo, oo + j, none⟩)) (some 86) rfl rfl (by kernel_rfl) (by kernel_rfl) (by kernel_rfl) (fun _ _ _ h => h) (yieldsIf_index (by kernel_rfl) rfl (by kernel_rfl) (by kernel_rfl) (hidxS bo oo co hj)) S0 ?_
                  refine held_take (i := 10) (v := .slice (some ⟨bj, oj, none⟩) n cj) (some 87) rfl rfl (by kernel_rfl) (by kernel_rfl) (by kernel_rfl) (fun _ _ _ h => h) (yieldsIf_cell (by kernel_rfl) rfl (by kernel_rfl) (fun W h => hloadS W (hrowj W h))) S0 ?_
                  refine held_take (i := 11) (v := .int .i64 (d : Int)) (some 88) rfl rfl (by kernel_rfl) (by kernel_rfl) (by kernel_rfl) (fun _ _ _ h => h) (yieldsIf_move (by kernel_rfl) rfl (by kernel_rfl)) S0 ?_
                  refine held_take (i := 12) (v := .pointer (some ⟨bj, oj + d, none⟩)) (some 89) rfl rfl (by kernel_rfl) (by kernel_rfl) (by kernel_rfl) (fun _ _ _ h => h) (yieldsIf_index (by kernel_rfl) rfl (by kernel_rfl) (by kernel_rfl) (hidxI bj oj cj hdn)) S0 ?_
                  refine held_take (i := 13) (v := .int .i64 f) (some 90) rfl rfl (by kernel_rfl) (by kernel_rfl) (by kernel_rfl) (fun _ _ _ h => h) (yieldsIf_cell (by kernel_rfl) rfl (by kernel_rfl) (fun W h => hload W (hcellj W h))) S0 ?_
                  refine held_enter (i := 14) (some 91) (f := 113) (args := #[.int .i64 p, .slice (some ⟨bj, oj, none⟩) n cj, .slice (some ⟨g, 0, none⟩) n c7, .int .i64 f]) (by kernel_rfl) rfl rfl rfl (by kernel_rfl) (HLESS.out _ S0) ?_ (fun c w' h => by obtain ⟨_, h, _⟩ := h; cases h) (fun w' h => by obtain ⟨_, h, _⟩ := h; cases h)
                  rintro e5 W5 ⟨u5, he5, hg5, hb5⟩
                  injection he5 with he5
                  subst he5
                  have S1 : Below w2.heap.size w2 W5 := S0.trans (hb5.mono S0.size)
                  have hb5' : Below wr.heap.size wr W5 := ((Below.refl wr.heap.size wr).drew).trans hb5
                  have HO5 := Lib.hid (owns_below HVO.out hb5')
                  have HG5 := Lib.hid hg5.g1
                  obtain ⟨a5, c5, hv5⟩ := l1_slice hg5.l1
                  subst hv5
                  refine ⟨S1, ?_⟩
                  have hs5 : w2.heap.size ≤ W5.heap.size := S1.size
                  have S2 : Below w2.heap.size w2 (W5.alloc (.cells #[.slice a5 n c5] 31)) := S1.alloc hs5 _
                  have hba : Below W5.heap.size W5 (W5.alloc (.cells #[.slice a5 n c5] 31)) := (Below.refl _ _).alloc (Nat.le_refl _) _
                  have HOX := Lib.hid (owns_below HO5.out hba)
                  refine held_buildS (i := 15) (some 92) (by kernel_rfl) rfl rfl rfl (.tmp 91) a5 n c5 rfl (by kernel_rfl) ⟨S2, ?_⟩
                  refine held_appendS (i := 16) (some 93) (by kernel_rfl) rfl rfl rfl (.tmp 77) (.tmp 92) rfl w2.heap.size (.slice an N.length cn) _ _ (by kernel_rfl) HOX.out W5.heap.size a5 n c5 (by kernel_rfl) (cell_alloc1 W5 _ _) (by simp; omega) (by simp; omega) ?_
                  intro v' w3 hown hgrow
                  have S3 : Below w2.heap.size w2 w3 := S2.grown hgrow (by simp; omega) (fun g hg => ((HOX.out.lt) g hg).1)
                  have HB3 := Lib.hid S3
                  have HGS3 : Hid (Gs w2.heap.size w3 v' ((N ++ [less1 p u R[j]]).map (toL n))) := Lib.hid (by
                    rw [List.map_append]
                    exact Gs.push HOX.out (fun i h1 h2 => ((HVR.out i h1 h2).below hb5').below hba) (HG5.out.below hba) hown hgrow)
                  refine ⟨S3, ?_⟩
                  refine held_take (i := 17) (v := v') (some 11) rfl rfl (by kernel_rfl) (by kernel_rfl) (by kernel_rfl) (fun _ _ _ h => h) (yieldsIf_assign (by kernel_rfl) rfl (by kernel_rfl)) S3 ?_
                  refine wpAnyH_done (by kernel_rfl) ?_ _
                  simp only [Act.put, List.setIfInBounds_toArray, List.set_cons_zero, List.set_cons_succ]
                  clear S0 S1 S2 S3 hown hgrow hb5 hb5' hba hg5 HOX HO5 HG5 hrowj hcellj HLESS hs5
                  go_wp2
                  go_roundw
                  case rel => exact ⟨j + 1, true, _, by omega, by go_num, rfl, HB3, HGS3, Lib.hid (HNX.out.keep hj)⟩
                  case measure => simp [intOf]; omega
                | false =>
                  by_cases hgt : Lin.ld u < Lin.ld s
                  · have hgt2 : (d : Int) < (Lin.ld s : Int) := by have := HLU.out; omega
                    have HNX2 : Hid (Nx p R u (j + 1) true (N ++ [u] ++ [less1 p u R[j]])) := Lib.hid (HNX.out.in' hj (by rw [← HSE.out]; exact hgt))
                    go_wp2_with fail
                    refine HLJ.out.mono ?_
                    rintro e w' ⟨rfl, rfl⟩
                    clear hrow0 HLJ
                    go_wp2_with (at_builtin; refine wpList_append_own _ rfl (.tmp 73) (.tmp 75) 22 rfl w2.heap.size 31 i0 (.slice none 0 0) 1 24 Try.underlying22 hi0 hz0 hz1 hz2 rfl (by decide) _ _ _ rfl (HVO.out.alloc _) ⟨wr.heap.size, 0, none⟩ 1 1 [.slice (some ⟨g, 0, none⟩) n c7] rfl rfl ?c1 ?c2 ?c3 ?c4 ?c5 ?_)
                    case c1 =>
                      intro j u hj
                      match j, hj with
                      | 0, hj => simp at hj; subst hj; simp [Addr.add]
                    case c2 => intro u hu; simp at hu; subst hu; rfl
                    case c3 => rw [List.length_map]; unfold maxLen; omega
                    case c4 => rw [List.length_map]; omega
                    case c5 => simp; omega
                    intro v' w3 hown hgrow _
                    have hba : Below wr.heap.size wr (wr.alloc (.cells #[.slice (some ⟨g, 0, none⟩) n c7] 31)) := (Below.refl _ _).alloc (Nat.le_refl _) _
                    have HOX := Lib.hid (owns_below HVO.out hba)
                    have HBN := Lib.hid ((HBX.out.alloc hsx (.cells #[.slice (some ⟨g, 0, none⟩) n c7] 31)).grown hgrow (by simp; omega) (fun g hg => ((HOX.out.lt) g hg).1))
                    have HGN : Hid (Gs w2.heap.size w3 v' ((N ++ [u]).map (toL n))) := Lib.hid (by
                      rw [List.map_append]
                      exact Gs.push HOX.out (fun i h1 h2 => (HVR.out i h1 h2).below hba) ((HOWN7.out.below HBX.out).below hba) (by rw [List.length_map]; exact hown) hgrow)
                    clear hown hgrow hba HOX
                    have HNE : Hid (True) := Lib.hid trivial
                    obtain ⟨vs3, hvo3, hvr3⟩ := HGN.out
                    have HVO3 := Lib.hid hvo3
                    have HVR3 := Lib.hid hvr3
                    clear hvo3 hvr3 HNE
                    go_wp2
                    refine wp_region_held (S := fun W => Below w2.heap.size w2 W) (by kernel_rfl) ?_
                    have S0 : Below w2.heap.size w2 w3.drew := HBN.out.drew
                    refine held_take (i := 0) (v := v') (some 77) rfl rfl (by kernel_rfl) (by kernel_rfl) (by kernel_rfl) (fun _ _ _ h => h) (yieldsIf_move (by kernel_rfl) rfl (by kernel_rfl)) S0 ?_
                    refine held_take (i := 1) (v := .int .i64 p) (some 78) rfl rfl (by kernel_rfl) (by kernel_rfl) (by kernel_rfl) (fun _ _ _ h => h) (yieldsIf_move (by kernel_rfl) rfl (by kernel_rfl)) S0 ?_
                    refine held_take (i := 2) (v := .slice (some ⟨bo, oo, none⟩) R.length co) (some 79) rfl rfl (by kernel_rfl) (by kernel_rfl) (by kernel_rfl) (fun _ _ _ h => h) (yieldsIf_move (by kernel_rfl) rfl (by kernel_rfl)) S0 ?_
                    refine held_take (i := 3) (v := .int .i64 (j : Int)) (some 80) rfl rfl (by kernel_rfl) (by kernel_rfl) (by kernel_rfl) (fun _ _ _ h => h) (yieldsIf_move (by kernel_rfl) rfl (by kernel_rfl)) S0 ?_
                    refine held_take (i := 4) (v := .pointer (some ⟨bo, oo + j, none⟩)) (some 81) rfl rfl (by kernel_rfl) (by kernel_rfl) (by kernel_rfl) (fun _ _ _ h => h) (yieldsIf_index (by kernel_rfl) rfl (by kernel_rfl) (by kernel_rfl) (hidxS bo oo co hj)) S0 ?_
                    refine held_take (i := 5) (v := .slice (some ⟨bj, oj, none⟩) n cj) (some 82) rfl rfl (by kernel_rfl) (by kernel_rfl) (by kernel_rfl) (fun _ _ _ h => h) (yieldsIf_cell (by kernel_rfl) rfl (by kernel_rfl) (fun W h => hloadS W (hrowj W h))) S0 ?_
                    refine held_take (i := 6) (v := .slice (some ⟨g, 0, none⟩) n c7) (some 83) rfl rfl (by kernel_rfl) (by kernel_rfl) (by kernel_rfl) (fun _ _ _ h => h) (yieldsIf_move (by kernel_rfl) rfl (by kernel_rfl)) S0 ?_
                    refine held_take (i := 7) (v := .slice (some ⟨bo, oo, none⟩) R.length co) (some 84) rfl rfl (by kernel_rfl) (by kernel_rfl) (by kernel_rfl) (fun _ _ _ h => h) (yieldsIf_move (by kernel_rfl) rfl (by kernel_rfl)) S0 ?_
                    refine held_take (i := 8) (v := .int .i64 (j : Int)) (some 85) rfl rfl (by kernel_rfl) (by kernel_rfl) (by kernel_rfl) (fun _ _ _ h => h) (yieldsIf_move (by kernel_rfl) rfl (by kernel_rfl)) S0 ?_
                    refine held_take (i := 9) (v := .pointer (some ⟨bo, oo + j, none⟩)) (some 86) rfl rfl (by kernel_rfl) (by kernel_rfl) (by kernel_rfl) (fun _ _ _ h => h) (yieldsIf_index (by kernel_rfl) rfl (by kernel_rfl) (by kernel_rfl) (hidxS bo oo co hj)) S0 ?_
                    refine held_take (i := 10) (v := .slice (some ⟨bj, oj, none⟩) n cj) (some 87) rfl rfl (by kernel_rfl) (by kernel_rfl) (by kernel_rfl) (fun _ _ _ h => h) (yieldsIf_cell (by kernel_rfl) rfl (by kernel_rfl) (fun W h => hloadS W (hrowj W h))) S0 ?_
                    refine held_take (i := 11) (v := .int .i64 (d : Int)) (some 88) rfl rfl (by kernel_rfl) (by kernel_rfl) (by kernel_rfl) (fun _ _ _ h => h) (yieldsIf_move (by kernel_rfl) rfl (by kernel_rfl)) S0 ?_
                    refine held_take (i := 12) (v := .pointer (some ⟨bj, oj + d, none⟩)) (some 89) rfl rfl (by kernel_rfl) (by kernel_rfl) (by kernel_rfl) (fun _ _ _ h => h) (yieldsIf_index (by kernel_rfl) rfl (by kernel_rfl) (by kernel_rfl) (hidxI bj oj cj hdn)) S0 ?_
                    refine held_take (i := 13) (v := .int .i64 f) (some 90) rfl rfl (by kernel_rfl) (by kernel_rfl) (by kernel_rfl) (fun _ _ _ h => h) (yieldsIf_cell (by kernel_rfl) rfl (by kernel_rfl) (fun W h => hload W (hcellj W h))) S0 ?_
                    refine held_enter (i := 14) (some 91) (f := 113) (args := #[.int .i64 p, .slice (some ⟨bj, oj, none⟩) n cj, .slice (some ⟨g, 0, none⟩) n c7, .int .i64 f]) (by kernel_rfl) rfl rfl rfl (by kernel_rfl) (HLESS.out _ S0) ?_ (fun c w' h => by obtain ⟨_, h, _⟩ := h; cases h) (fun w' h => by obtain ⟨_, h, _⟩ := h; cases h)
                    rintro e5 W5 ⟨u5, he5, hg5, hb5⟩
                    injection he5 with he5
                    subst he5
                    have S1 : Below w2.heap.size w2 W5 := S0.trans (hb5.mono S0.size)
                    have hb5' : Below w3.heap.size w3 W5 := ((Below.refl w3.heap.size w3).drew).trans hb5
                    have HO5 := Lib.hid (owns_below HVO3.out hb5')
                    have HG5 := Lib.hid hg5.g1
                    obtain ⟨a5, c5, hv5⟩ := l1_slice hg5.l1
                    subst hv5
                    refine ⟨S1, ?_⟩
                    have hs5 : w2.heap.size ≤ W5.heap.size := S1.size
                    have S2 : Below w2.heap.size w2 (W5.alloc (.cells #[.slice a5 n c5] 31)) := S1.alloc hs5 _
                    have hba : Below W5.heap.size W5 (W5.alloc (.cells #[.slice a5 n c5] 31)) := (Below.refl _ _).alloc (Nat.le_refl _) _
                    have HOX := Lib.hid (owns_below HO5.out hba)
                    refine held_buildS (i := 15) (some 92) (by kernel_rfl) rfl rfl rfl (.tmp 91) a5 n c5 rfl (by kernel_rfl) ⟨S2, ?_⟩
                    refine held_appendS (i := 16) (some 93) (by kernel_rfl) rfl rfl rfl (.tmp 77) (.tmp 92) rfl w2.heap.size (v') _ _ (by kernel_rfl) HOX.out W5.heap.size a5 n c5 (by kernel_rfl) (cell_alloc1 W5 _ _) (by simp; omega) (by simp; omega) ?_
                    intro v4 w4 hown hgrow
                    have S3 : Below w2.heap.size w2 w4 := S2.grown hgrow (by simp; omega) (fun g hg => ((HOX.out.lt) g hg).1)
                    have HB3 := Lib.hid S3
                    have HGS3 : Hid (Gs w2.heap.size w4 v4 (((N ++ [u]) ++ [less1 p u R[j]]).map (toL n))) := Lib.hid (by
                      rw [List.map_append]
                      exact Gs.push HOX.out (fun i h1 h2 => ((HVR3.out i h1 h2).below hb5').below hba) (HG5.out.below hba) hown hgrow)
                    refine ⟨S3, ?_⟩
                    refine held_take (i := 17) (v := v4) (some 11) rfl rfl (by kernel_rfl) (by kernel_rfl) (by kernel_rfl) (fun _ _ _ h => h) (yieldsIf_assign (by kernel_rfl) rfl (by kernel_rfl)) S3 ?_
                    refine wpAnyH_done (by kernel_rfl) ?_ _
                    simp only [Act.put, List.setIfInBounds_toArray, List.set_cons_zero, List.set_cons_succ]
                    clear S0 S1 S2 S3 hown hgrow hb5 hb5' hba hg5 HOX HO5 HG5 hrowj hcellj HLESS hs5
                    go_wp2
                    go_roundw
                    case rel => exact ⟨j + 1, true, _, by omega, by go_num, rfl, HB3, HGS3, Lib.hid (HNX2.out)⟩
                    case measure => simp [intOf]; omega
                  · have hle2 : ¬ ((d : Int) < (Lin.ld s : Int)) := by have := HLU.out; omega
                    have HNX2 : Hid (Nx p R u (j + 1) false (N ++ [less1 p u R[j]])) := Lib.hid (HNX.out.pass hj (by rw [← HSE.out]; have := HSL.out; omega))
                    go_wp2_with fail
                    refine HLJ.out.mono ?_
                    rintro e w' ⟨rfl, rfl⟩
                    clear hrow0 HLJ
                    go_wp2
                    refine wp_region_held (S := fun W => Below w2.heap.size w2 W) (by kernel_rfl) ?_
                    have S0 : Below w2.heap.size w2 wr.drew := HBX.out.drew
                    refine held_take (i := 0) (v := .slice an N.length cn) (some 77) rfl rfl (by kernel_rfl) (by kernel_rfl) (by kernel_rfl) (fun _ _ _ h => h) (yieldsIf_move (by kernel_rfl) rfl (by kernel_rfl)) S0 ?_
                    refine held_take (i := 1) (v := .int .i64 p) (some 78) rfl rfl (by kernel_rfl) (by kernel_rfl) (by kernel_rfl) (fun _ _ _ h => h) (yieldsIf_move (by kernel_rfl) rfl (by kernel_rfl)) S0 ?_
                    refine held_take (i := 2) (v := .slice (some ⟨bo, oo, none⟩) R.length co) (some 79) rfl rfl (by kernel_rfl) (by kernel_rfl) (by kernel_rfl) (fun _ _ _ h => h) (yieldsIf_move (by kernel_rfl) rfl (by kernel_rfl)) S0 ?_
                    refine held_take (i := 3) (v := .int .i64 (j : Int)) (some 80) rfl rfl (by kernel_rfl) (by kernel_rfl) (by kernel_rfl) (fun _ _ _ h => h) (yieldsIf_move (by kernel_rfl) rfl (by kernel_rfl)) S0 ?_
                    refine held_take (i := 4) (v := .pointer (some ⟨bo, oo + j, none⟩)) (some 81) rfl rfl (by kernel_rfl) (by kernel_rfl) (by kernel_rfl) (fun _ _ _ h => h) (yieldsIf_index (by kernel_rfl) rfl (by kernel_rfl) (by kernel_rfl) (hidxS bo oo co hj)) S0 ?_
                    refine held_take (i := 5) (v := .slice (some ⟨bj, oj, none⟩) n cj) (some 82) rfl rfl (by kernel_rfl) (by kernel_rfl) (by kernel_rfl) (fun _ _ _ h => h) (yieldsIf_cell (by kernel_rfl) rfl (by kernel_rfl) (fun W h => hloadS W (hrowj W h))) S0 ?_
                    refine held_take (i := 6) (v := .slice (some ⟨g, 0, none⟩) n c7) (some 83) rfl rfl (by kernel_rfl) (by kernel_rfl) (by kernel_rfl) (fun _ _ _ h => h) (yieldsIf_move (by kernel_rfl) rfl (by kernel_rfl)) S0 ?_
                    refine held_take (i := 7) (v := .slice (some ⟨bo, oo, none⟩) R.length co) (some 84) rfl rfl (by kernel_rfl) (by kernel_rfl) (by kernel_rfl) (fun _ _ _ h => h) (yieldsIf_move (by kernel_rfl) rfl (by kernel_rfl)) S0 ?_
                    refine held_take (i := 8) (v := .int .i64 (j : Int)) (some 85) rfl rfl (by kernel_rfl) (by kernel_rfl) (by kernel_rfl) (fun _ _ _ h => h) (yieldsIf_move (by kernel_rfl) rfl (by kernel_rfl)) S0 ?_
                    refine held_take (i := 9) (v := .pointer (some ⟨bo, oo + j, none⟩)) (some 86) rfl rfl (by kernel_rfl) (by kernel_rfl) (by kernel_rfl) (fun _ _ _ h => h) (yieldsIf_index (by kernel_rfl) rfl (by kernel_rfl) (by kernel_rfl) (hidxS bo oo co hj)) S0 ?_
                    refine held_take (i := 10) (v := .slice (some ⟨bj, oj, none⟩) n cj) (some 87) rfl rfl (by kernel_rfl) (by kernel_rfl) (by kernel_rfl) (fun _ _ _ h => h) (yieldsIf_cell (by kernel_rfl) rfl (by kernel_rfl) (fun W h => hloadS W (hrowj W h))) S0 ?_
                    refine held_take (i := 11) (v := .int .i64 (d : Int)) (some 88) rfl rfl (by kernel_rfl) (by kernel_rfl) (by kernel_rfl) (fun _ _ _ h => h) (yieldsIf_move (by kernel_rfl) rfl (by kernel_rfl)) S0 ?_
                    refine held_take (i := 12) (v := .pointer (some ⟨bj, oj + d, none⟩)) (some 89) rfl rfl (by kernel_rfl) (by kernel_rfl) (by kernel_rfl) (fun _ _ _ h => h) (yieldsIf_index (by kernel_rfl) rfl (by kernel_rfl) (by kernel_rfl) (hidxI bj oj cj hdn)) S0 ?_
                    refine held_take (i := 13) (v := .int .i64 f) (some 90) rfl rfl (by kernel_rfl) (by kernel_rfl) (by kernel_rfl) (fun _ _ _ h => h) (yieldsIf_cell (by kernel_rfl) rfl (by kernel_rfl) (fun W h => hload W (hcellj W h))) S0 ?_
                    refine held_enter (i := 14) (some 91) (f := 113) (args := #[.int .i64 p, .slice (some ⟨bj, oj, none⟩) n cj, .slice (some ⟨g, 0, none⟩) n c7, .int .i64 f]) (by kernel_rfl) rfl rfl rfl (by kernel_rfl) (HLESS.out _ S0) ?_ (fun c w' h => by obtain ⟨_, h, _⟩ := h; cases h) (fun w' h => by obtain ⟨_, h, _⟩ := h; cases h)
                    rintro e5 W5 ⟨u5, he5, hg5, hb5⟩
                    injection he5 with he5
                    subst he5
                    have S1 : Below w2.heap.size w2 W5 := S0.trans (hb5.mono S0.size)
                    have hb5' : Below wr.heap.size wr W5 := ((Below.refl wr.heap.size wr).drew).trans hb5
                    have HO5 := Lib.hid (owns_below HVO.out hb5')
                    have HG5 := Lib.hid hg5.g1
                    obtain ⟨a5, c5, hv5⟩ := l1_slice hg5.l1
                    subst hv5
                    refine ⟨S1, ?_⟩
                    have hs5 : w2.heap.size ≤ W5.heap.size := S1.size
                    have S2 : Below w2.heap.size w2 (W5.alloc (.cells #[.slice a5 n c5] 31)) := S1.alloc hs5 _
                    have hba : Below W5.heap.size W5 (W5.alloc (.cells #[.slice a5 n c5] 31)) := (Below.refl _ _).alloc (Nat.le_refl _) _
                    have HOX := Lib.hid (owns_below HO5.out hba)
                    refine held_buildS (i := 15) (some 92) (by kernel_rfl) rfl rfl rfl (.tmp 91) a5 n c5 rfl (by kernel_rfl) ⟨S2, ?_⟩
                    refine held_appendS (i := 16) (some 93) (by kernel_rfl) rfl rfl rfl (.tmp 77) (.tmp 92) rfl w2.heap.size (.slice an N.length cn) _ _ (by kernel_rfl) HOX.out W5.heap.size a5 n c5 (by kernel_rfl) (cell_alloc1 W5 _ _) (by simp; omega) (by simp; omega) ?_
                    intro v' w3 hown hgrow
                    have S3 : Below w2.heap.size w2 w3 := S2.grown hgrow (by simp; omega) (fun g hg => ((HOX.out.lt) g hg).1)
                    have HB3 := Lib.hid S3
                    have HGS3 : Hid (Gs w2.heap.size w3 v' ((N ++ [less1 p u R[j]]).map (toL n))) := Lib.hid (by
                      rw [List.map_append]
                      exact Gs.push HOX.out (fun i h1 h2 => ((HVR.out i h1 h2).below hb5').below hba) (HG5.out.below hba) hown hgrow)
                    refine ⟨S3, ?_⟩
                    refine held_take (i := 17) (v := v') (some 11) rfl rfl (by kernel_rfl) (by kernel_rfl) (by kernel_rfl) (fun _ _ _ h => h) (yieldsIf_assign (by kernel_rfl) rfl (by kernel_rfl)) S3 ?_
                    refine wpAnyH_done (by kernel_rfl) ?_ _
                    simp only [Act.put, List.setIfInBounds_toArray, List.set_cons_zero, List.set_cons_succ]
                    clear S0 S1 S2 S3 hown hgrow hb5 hb5' hba hg5 HOX HO5 HG5 hrowj hcellj HLESS hs5
                    go_wp2
                    go_roundw
                    case rel => exact ⟨j + 1, false, _, by omega, by go_num, rfl, HB3, HGS3, Lib.hid (HNX2.out)⟩
                    case measure => simp [intOf]; omega
              · have hjj : Hid (j = R.length) := Lib.hid (by omega)
                have HBO : Hid (Below w.heap.size w wr) := Lib.hid (HB.out.trans ((HB2.out.trans (HBX.out.mono hs2)).mono hsz))
                cases pt with
                | true =>
                  have hdone : ∃ K, K ≤ R.length ∧ N = Lin.put p R K u ∧ (∀ w ∈ R.take K, Lin.ld w < Lin.ld u) ∧ ∀ w ∈ R.drop K, ¬ Lin.ld w < Lin.ld u := Nx.done HR.out.red (by have := HNX.out; rwa [hjj.out] at this)
                  obtain ⟨KK, hK, hN, hlo, hhi⟩ := hdone
                  have HR6 : Hid (RedN p n N (TS.take (k + 1))) := Lib.hid (by
                    rw [HTK.out, hN]
                    exact HR.out.put hp1 HTKM.out HTT.out.1 HRE.out HZ.out HUU.out HUW.out hK hlo hhi)
                  have hNl2 : N.length ≤ k + 1 := by rw [hN, put_length p R KK u hK]; omega
                  clear hlo hhi hN
                  go_wp2
                  go_roundw
                  case rel => exact ⟨k + 1, N, by omega, by go_num, HBO, Lib.hid (HGN0.out.mono (by omega)), HR6, hNl2⟩
                  case measure => simp [intOf]; omega
                | false =>
                  have hdone : ∃ K, K ≤ R.length ∧ N ++ [u] = Lin.put p R K u ∧ (∀ w ∈ R.take K, Lin.ld w < Lin.ld u) ∧ ∀ w ∈ R.drop K, ¬ Lin.ld w < Lin.ld u := Nx.end (by have := HNX.out; rwa [hjj.out] at this)
                  obtain ⟨KK, hK, hN, hlo, hhi⟩ := hdone
                  have HR6 : Hid (RedN p n (N ++ [u]) (TS.take (k + 1))) := Lib.hid (by
                    rw [HTK.out, hN]
                    exact HR.out.put hp1 HTKM.out HTT.out.1 HRE.out HZ.out HUU.out HUW.out hK hlo hhi)
                  have hNl2 : (N ++ [u]).length ≤ k + 1 := by rw [hN, put_length p R KK u hK]; omega
                  clear hlo hhi hN
                  go_wp2_with (at_builtin; refine wpList_append_own _ rfl (.tmp 96) (.tmp 98) 22 rfl w2.heap.size 31 i0 (.slice none 0 0) 1 24 Try.underlying22 hi0 hz0 hz1 hz2 rfl (by decide) _ _ _ rfl (HVO.out.alloc _) ⟨wr.heap.size, 0, none⟩ 1 1 [.slice (some ⟨g, 0, none⟩) n c7] rfl rfl ?c1 ?c2 ?c3 ?c4 ?c5 ?_)
                  case c1 =>
                    intro j u hj
                    match j, hj with
                    | 0, hj => simp at hj; subst hj; simp [Addr.add]
                  case c2 => intro u hu; simp at hu; subst hu; rfl
                  case c3 => rw [List.length_map]; unfold maxLen; omega
                  case c4 => rw [List.length_map]; omega
                  case c5 => simp; omega
                  intro v' w3 hown hgrow _
                  have hba : Below wr.heap.size wr (wr.alloc (.cells #[.slice (some ⟨g, 0, none⟩) n c7] 31)) := (Below.refl _ _).alloc (Nat.le_refl _) _
                  have HOX := Lib.hid (owns_below HVO.out hba)
                  have HBN := Lib.hid ((HBX.out.alloc hsx (.cells #[.slice (some ⟨g, 0, none⟩) n c7] 31)).grown hgrow (by simp; omega) (fun g hg => ((HOX.out.lt) g hg).1))
                  have HGN : Hid (Gs w2.heap.size w3 v' ((N ++ [u]).map (toL n))) := Lib.hid (by
                    rw [List.map_append]
                    exact Gs.push HOX.out (fun i h1 h2 => (HVR.out i h1 h2).below hba) ((HOWN7.out.below HBX.out).below hba) (by rw [List.length_map]; exact hown) hgrow)
                  clear hown hgrow hba HOX
                  have HBO2 : Hid (Below w.heap.size w w3) := Lib.hid (HB.out.trans ((HB2.out.trans (HBN.out.mono hs2)).mono hsz))
                  go_wp2
                  go_roundw
                  case rel => exact ⟨k + 1, N ++ [u], by omega, by go_num, HBO2, Lib.hid (HGN.out.mono (by omega)), HR6, hNl2⟩
                  case measure => simp [intOf]; omega
    · have hkk : Hid (TS.take k = TS) := Lib.hid (List.take_of_length_le (by omega))
      go_wp2
      go_ret
      exact ⟨_, R, rfl, HO.out, HB.out, by have := HR.out; rwa [hkk.out] at this, by omega⟩
end Go.Proofs.Ytlbalcckjokeiaa
