/-
  spec.l02Less by its contract.
-/
import Derived.Test.YtpdkfidmmjlmnabHom
namespace Go.Proofs.Ytpdkfidmmjlmnab
open Go.RowKit

theorem Gb.put {base g n cap : Nat} {w : World} {xs : List Int} (h : Gb base w (.slice (some ⟨g, 0, none⟩) n cap) xs) {k : Nat} (_hk : k < xs.length) (x : Int) :
    Gb base (w.setCell ⟨g, k, none⟩ (.int .i64 x)) (.slice (some ⟨g, 0, none⟩) n cap) (xs.set k x) ∧ w.frozen? ⟨g, k, none⟩ = false ∧ base ≤ g := by
  obtain ⟨hl, h2⟩ := h
  rcases h2 with ⟨h0, _⟩ | ⟨g', c', cur, hv, hlo, hh, hnc, hcm, hcs, htk⟩
  · cases h0
  · injection hv with e1 e2 e3
    injection e1 with e1
    injection e1 with e1
    subst e1 e2 e3
    refine ⟨⟨by simp, Or.inr ⟨g, cap, cur.setIfInBounds k (.int .i64 x), by simp, hlo, block_setCell' hh _, by simpa using hnc, hcm, by simpa using hcs, ?_⟩⟩, by simp [World.frozen?, hh], hlo⟩
    simp only [List.length_set, Nat.mul_one] at htk ⊢
    rw [Array.toList_setIfInBounds, List.take_set, htk, List.map_set]
theorem Gb.cell {base g n cap : Nat} {w : World} {v : Lin.V} (h : Gb base w (.slice (some ⟨g, 0, none⟩) n cap) (toL n v)) {k : Nat} (hk : k < n) : w.cell? ⟨g, k, none⟩ = some (.int .i64 (v k)) := by
  obtain ⟨b, o, c, hv, hc⟩ := l1_toL h.l1 (show 0 < n by omega)
  injection hv with e1 _ _
  injection e1 with e1
  injection e1 with e1 e2
  subst e1 e2
  have := hc k hk
  rwa [Nat.zero_add] at this
theorem Gb.block {base n cap : Nat} {w : World} {xs : List Int} {ad : Option Addr} (h : Gb base w (.slice ad n cap) xs) (hx : 0 < xs.length) : ∃ g, ad = some ⟨g, 0, none⟩ ∧ base ≤ g := by
  obtain ⟨hl, h2⟩ := h
  rcases h2 with ⟨_, h0⟩ | ⟨g', c', cur, hv, hlo, _⟩
  · omega
  · injection hv with e1 _ _
    exact ⟨g', e1, hlo⟩

/-- A row whose first j numbers have been put anew. -/
def mixV (y r : Lin.V) (j : Nat) : Lin.V := fun i => if i < j then y i else r i
theorem mix_zero (y r : Lin.V) : mixV y r 0 = r := funext fun i => if_neg (Nat.not_lt_zero i)
theorem mix_at (y r : Lin.V) (j : Nat) : mixV y r j j = r j := if_neg (Nat.lt_irrefl j)
theorem mix_set (y r : Lin.V) {n j : Nat} (_hj : j < n) : (toL n (mixV y r j)).set j (y j) = toL n (mixV y r (j + 1)) := by
  refine List.ext_getElem (by simp [toL_length]) fun i h1 h2 => ?_
  rw [List.getElem_set, toL_get, toL_get]
  unfold mixV
  by_cases e : j = i
  · subst e; simp
  · rw [if_neg e]
    by_cases h : i < j
    · rw [if_pos h, if_pos (by omega)]
    · rw [if_neg h, if_neg (by omega)]
theorem mix_done (y r : Lin.V) (n : Nat) : toL n (mixV y r n) = toL n y := by
  refine List.ext_getElem (by simp [toL_length]) fun i h1 h2 => ?_
  rw [toL_get, toL_get]
  exact if_pos (by rw [toL_length] at h1; exact h1)
theorem add_zero {p : Int} {r t : Lin.V} (h : Lin.Md p r) : Lin.add p r (-0) t = r := funext fun i => by
  unfold Lin.add
  rw [Int.neg_zero, Int.zero_mul, Int.add_zero]
  exact Lin.md_mod (h i).1 (h i).2
section
variable {P : Program} {md : Region.Mode} {ops : Array Oper} {n : Nat} {Q : Exit → Act → World → Prop}
theorem lastQ_storeI {on : Oper} {a : Act} {w : World} (hn : ops[n]? = some on) (hg : on.guard = none) (hd : on.dst = none) (x y : Operand) (ho : on.op = .store 2 x y)
    (b o : Nat) (z : Int) (u : Value) (hx : a.eval x = .pointer (some ⟨b, o, none⟩)) (hy : a.eval y = .int .i64 z) (hc : w.cell? ⟨b, o, none⟩ = some u) (hf : w.frozen? ⟨b, o, none⟩ = false)
    (h : Q .normal a (w.setCell ⟨b, o, none⟩ (.int .i64 z))) : lastQ Try.prog ops n Q .normal a w :=
  lastQ_of hn hg (by
    have e : a.put on.dst undef = a := by rw [hd]; rfl
    rw [← e] at h
    unfold Oper.wp execOp
    simp only [ho, hx, hy, Sem.run_bind, Sem.run_pure, hstoreI w z hc hf, Result.andThen_ok]
    exact h)
end

/-- As RestR, the rest told exactly. -/
def RestRE (p : Int) (n : Nat) (R : List Lin.V) (v : Lin.V) (w : World) (e : Ending) (w' : World) : Prop :=
  ∃ (u : Value) (r : Lin.V), e = .returned u ∧ Gb w.heap.size w' u (toL n r) ∧ Below w.heap.size w w' ∧ Lin.RestE p R v R.length r ∧ Lin.Wd n r

set_option maxHeartbeats 3200000 in
set_option maxRecDepth 100000 in
theorem l02LessE_any (p : Int) (n : Nat) (vl vr : Value) (R : List Lin.V) (v : Lin.V) (w : World) (hp : IsP p) (hL : L2 0 w vl (R.map (toL n))) (hv : L1 0 w vr (toL n v)) (hR : Lin.Red p R) (hw : ∀ u ∈ R, Lin.Wd n u) (hm : Lin.Md p v) (hvw : Lin.Wd n v) (hn : n ≤ 1048576) (hl : R.length ≤ 1048576) :
    Calls Try.prog 107 #[.int .i64 p, vr, vl] w (RestRE p n R v w) := by
  have HP := Lib.hid hp
  have hp7 := hp.hi7
  have hp1 := hp.lo1
  have HL := Lib.hid hL
  have HR := Lib.hid hR
  have HW := Lib.hid hw
  have HM := Lib.hid hm
  have HVW := Lib.hid hvw
  have HOWN := Lib.hid (l01Own_any vr (toL n v) w hv (by rw [toL_length]; exact hn))
  obtain ⟨al, cl, hvl⟩ := Sl.shape hL
  rw [List.length_map] at hvl
  subst hvl
  clear hp hL hR hw hm hvw hv
  go_enter Try.func107, Try.ntmps107
  go_wp2_with fail
  refine HOWN.out.mono ?_
  rintro e w1 ⟨u1, rfl, hg1, hb1⟩
  obtain ⟨au, cu, hu1⟩ := l1_slice hg1.l1
  subst hu1
  have HG1 := Lib.hid hg1
  have HB1 := Lib.hid hb1
  clear hg1 hb1 HOWN
  go_wp2
  go_loopw [8, 9, 10] (fun i _ _ wr => ∃ (k : Nat) (r : Lin.V), k ≤ R.length ∧ i = .int .i64 k ∧ Hid (Below w.heap.size w wr) ∧ Hid (Gb w.heap.size wr (.slice au n cu) (toL n r)) ∧ Hid (Lin.RestE p R v k r) ∧ Hid (Lin.Wd n r)) (fun i _ _ _ => R.length - (intOf i).toNat)
  case atStart => exact ⟨0, v, Nat.zero_le _, rfl, HB1, HG1, Lib.hid (Lin.RestE.start HM.out), HVW⟩
  case round =>
    clear HG1 HB1
    obtain ⟨k, r, hk, rfl, HB, HG, HRE, HRW⟩ := hrel
    obtain ⟨wo, hwo⟩ : ∃ wo : World, wo = wr := ⟨_, rfl⟩
    subst hwo
    have hsz : w.heap.size ≤ wo.heap.size := HB.out.size
    by_cases hlt : k < R.length
    · refine Sl.cases HL.out (fun _ _ hx _ => absurd hlt (by have := congrArg List.length hx; simp at this; simp [this])) (fun b o c2 hvv _ _ hc => ?_)
      rw [List.length_map] at hvv
      obtain ⟨rfl, rfl⟩ : al = some ⟨b, o, none⟩ ∧ cl = c2 := by simpa using hvv
      obtain ⟨ur, hur, hrr⟩ := hc k (by rw [List.length_map]; exact hlt)
      rw [List.getElem_map] at hrr
      obtain ⟨t, ht⟩ : ∃ t, t = R[k] := ⟨_, rfl⟩
      have HTE := Lib.hid ht
      rw [← ht] at hrr
      have HTW : Hid (Lin.Wd n t) := Lib.hid (by rw [ht]; exact HW.out _ (List.getElem_mem hlt))
      have HTM : Hid (Lin.Md p t) := Lib.hid (by rw [ht]; exact HR.out.md _ (List.getElem_mem hlt))
      have HTN : Hid (t ≠ Lin.zv) := Lib.hid (by rw [ht]; exact HR.out.ne (List.getElem_mem hlt))
      obtain ⟨hdn, _, _⟩ := ld_ltn HTW.out HTN.out
      obtain ⟨d, hd⟩ : ∃ d, d = Lin.ld t := ⟨_, rfl⟩
      have HD := Lib.hid hd
      rw [← hd] at hdn
      obtain ⟨g, hg, hgl⟩ := HG.out.block (by rw [toL_length]; omega)
      subst hg
      obtain ⟨br, ro, cr, hus, hrc⟩ := l1_toL hrr (show 0 < n by omega)
      subst hus
      have HROW := Lib.hid hrr
      have HRC := Lib.hid hrc
      obtain ⟨f, hf⟩ : ∃ f, f = r d := ⟨_, rfl⟩
      have HF := Lib.hid hf
      have hfb := HRE.out.rest.md d
      rw [← hf] at hfb
      have HROWC : Hid (∀ W, Below w.heap.size w W → W.cell? ⟨b, o + k, none⟩ = some (.slice (some ⟨br, ro, none⟩) n cr)) := Lib.hid (fun W h => later h (Nat.le_refl _) hur)
      have hrow0 := HROWC.out wo HB.out
      have hcell0 : wo.cell? ⟨g, d, none⟩ = some (.int .i64 f) := by rw [hf]; exact HG.out.cell hdn
      obtain ⟨y, hy⟩ : ∃ y, y = Lin.add p r (-f) t := ⟨_, rfl⟩
      have HYE := Lib.hid hy
      have HRE2 : Hid (Lin.RestE p R v (k + 1) y) := Lib.hid (by rw [hy, HF.out, HD.out, HTE.out]; exact HRE.out.step (by omega) HR.out hlt)
      have HYW : Hid (Lin.Wd n y) := Lib.hid (by rw [hy]; exact Lin.add_wd _ HRW.out HTW.out)
      have HLEAD : Hid (Calls Try.prog 108 #[.slice (some ⟨br, ro, none⟩) n cr] wo (QW (.int .i64 (d : Int)) wo)) := Lib.hid (by
        have := l01Lead_any _ _ wo (HROW.out.below HB.out) (by rw [toL_length]; exact hn)
        rwa [leadOf_toL HTW.out HTN.out, ← HD.out] at this)
      clear hvv hc hur hrr ht hd hf hy hrc
      go_wp2_with fail
      refine HLEAD.out.mono ?_
      rintro e w2 ⟨rfl, rfl⟩
      clear HLEAD
      by_cases hf0 : f = 0
      · subst hf0
        have HYR : Hid (y = r) := Lib.hid (by rw [HYE.out]; exact add_zero HRE.out.rest.md)
        have HRE3 : Hid (Lin.RestE p R v (k + 1) r) := Lib.hid (by have := HRE2.out; rwa [HYR.out] at this)
        go_wp2
        go_roundw
        case rel => exact ⟨k + 1, r, by omega, by go_num, HB, HG, HRE3, HRW⟩
        case measure => simp [intOf]; omega
      · have hne2 : (f != 0) = true := by simp [hf0]
        have hne3 : (f == 0) = false := by simp [hf0]
        have hf1 : 0 < f := by omega
        clear hf0
        go_wp2
        clear hne2 hne3 hrow0 hcell0
        go_loopw [10] (fun i wr => ∃ (j : Nat), j ≤ n ∧ i = .int .i64 j ∧ Hid (Below w.heap.size w wr) ∧ Hid (Gb w.heap.size wr (.slice (some ⟨g, 0, none⟩) n cu) (toL n (mixV y r j)))) (fun i _ => n - (intOf i).toNat)
        case atStart => exact ⟨0, Nat.zero_le _, rfl, HB, Lib.hid (by rw [mix_zero]; exact HG.out)⟩
        case round =>
          clear HG HB
          obtain ⟨j, hj, rfl, HB, HG⟩ := hrel
          by_cases hlj : j < n
          · obtain ⟨a, ha⟩ : ∃ a, a = r j := ⟨_, rfl⟩
            obtain ⟨x, hx⟩ : ∃ x, x = t j := ⟨_, rfl⟩
            have hab := HRE.out.rest.md j
            have hxb := HTM.out j
            rw [← ha] at hab
            rw [← hx] at hxb
            have HYJ : Hid ((a - f * x) % p = y j) := Lib.hid (by rw [HYE.out, ha, hx]; show _ = (r j + -f * t j) % p; rw [Int.neg_mul, Int.sub_eq_add_neg])
            have m0 : 0 ≤ f * x := Int.mul_nonneg (by omega) hxb.1
            have m1 : f * x ≤ 36 := Int.le_trans (Int.mul_le_mul (show f ≤ 6 by omega) (show x ≤ 6 by omega) hxb.1 (by omega)) (by omega)
            have hmod := l01Mod_any p (a - f * x) wr.drew HP.out
            rw [HYJ.out] at hmod
            have HMOD := Lib.hid hmod
            have hcx : ∀ W, Below w.heap.size w W → W.cell? ⟨br, ro + j, none⟩ = some (.int .i64 x) := fun W h => by rw [hx]; exact later h (Nat.le_refl _) (HRC.out j hlj)
            have hmul : ∀ w, (binOp .mul 2 (.int .i64 f) (.int .i64 x)).run Try.prog w = .ok (.int .i64 (f * x)) w := fun w => hmulI (by omega) (by omega) w
            have hsub : ∀ w, (binOp .sub 2 (.int .i64 a) (.int .i64 (f * x))).run Try.prog w = .ok (.int .i64 (a - f * x)) w := fun w => hsubI (by omega) (by omega) w
            have HGD := Lib.hid (HG.out.below (Below.refl wr.heap.size wr).drew)
            have hc0 : wr.drew.cell? ⟨g, 0 + j, none⟩ = some (.int .i64 a) := by rw [Nat.zero_add, ha, ← mix_at y r j]; exact HGD.out.cell hlj
            have hput := HGD.out.put (k := j) (by rw [toL_length]; exact hlj) (y j)
            rw [mix_set y r hlj] at hput
            have HPUT := Lib.hid hput
            clear m0 m1 ha hx hmod hput hab hxb
            go_wp2
            refine wp_region_last (fun W => Below w.heap.size w W ∧ W.cell? ⟨g, 0 + j, none⟩ = some (.int .i64 a)) 19 (by kernel_rfl) rfl (by kernel_rfl) ?_
            have S0 : Below w.heap.size w wr.drew ∧ wr.drew.cell? ⟨g, 0 + j, none⟩ = some (.int .i64 a) := ⟨HB.out.drew, hc0⟩
            refine held_take (i := 0) (v := .slice (some ⟨g, 0, none⟩) n cu) (some 35) rfl rfl (by kernel_rfl) (by kernel_rfl) (by kernel_rfl) (fun _ _ _ h => h) (yieldsIf_move (by kernel_rfl) rfl (by kernel_rfl)) S0 ?_
            refine held_take (i := 1) (v := .int .i64 (j : Int)) (some 36) rfl rfl (by kernel_rfl) (by kernel_rfl) (by kernel_rfl) (fun _ _ _ h => h) (yieldsIf_move (by kernel_rfl) rfl (by kernel_rfl)) S0 ?_
            refine held_take (i := 2) (v := .int .i64 p) (some 37) rfl rfl (by kernel_rfl) (by kernel_rfl) (by kernel_rfl) (fun _ _ _ h => h) (yieldsIf_move (by kernel_rfl) rfl (by kernel_rfl)) S0 ?_
            refine held_take (i := 3) (v := .slice (some ⟨g, 0, none⟩) n cu) (some 38) rfl rfl (by kernel_rfl) (by kernel_rfl) (by kernel_rfl) (fun _ _ _ h => h) (yieldsIf_move (by kernel_rfl) rfl (by kernel_rfl)) S0 ?_
            refine held_take (i := 4) (v := .int .i64 (j : Int)) (some 39) rfl rfl (by kernel_rfl) (by kernel_rfl) (by kernel_rfl) (fun _ _ _ h => h) (yieldsIf_move (by kernel_rfl) rfl (by kernel_rfl)) S0 ?_
            refine held_take (i := 5) (v := .pointer (some ⟨g, 0 + j, none⟩)) (some 40) rfl rfl (by kernel_rfl) (by kernel_rfl) (by kernel_rfl) (fun _ _ _ h => h) (yieldsIf_index (by kernel_rfl) rfl (by kernel_rfl) (by kernel_rfl) (hidxI g 0 cu hlj)) S0 ?_
            refine held_take (i := 6) (v := .int .i64 a) (some 41) rfl rfl (by kernel_rfl) (by kernel_rfl) (by kernel_rfl) (fun _ _ _ h => h) (yieldsIf_cell (by kernel_rfl) rfl (by kernel_rfl) (fun W h => hload W (h.2))) S0 ?_
            refine held_take (i := 7) (v := .int .i64 f) (some 42) rfl rfl (by kernel_rfl) (by kernel_rfl) (by kernel_rfl) (fun _ _ _ h => h) (yieldsIf_move (by kernel_rfl) rfl (by kernel_rfl)) S0 ?_
            refine held_take (i := 8) (v := .slice (some ⟨b, o, none⟩) R.length cl) (some 43) rfl rfl (by kernel_rfl) (by kernel_rfl) (by kernel_rfl) (fun _ _ _ h => h) (yieldsIf_move (by kernel_rfl) rfl (by kernel_rfl)) S0 ?_
            refine held_take (i := 9) (v := .int .i64 (k : Int)) (some 44) rfl rfl (by kernel_rfl) (by kernel_rfl) (by kernel_rfl) (fun _ _ _ h => h) (yieldsIf_move (by kernel_rfl) rfl (by kernel_rfl)) S0 ?_
            refine held_take (i := 10) (v := .pointer (some ⟨b, o + k, none⟩)) (some 45) rfl rfl (by kernel_rfl) (by kernel_rfl) (by kernel_rfl) (fun _ _ _ h => h) (yieldsIf_index (by kernel_rfl) rfl (by kernel_rfl) (by kernel_rfl) (hidxS b o cl hlt)) S0 ?_
            refine held_take (i := 11) (v := .slice (some ⟨br, ro, none⟩) n cr) (some 46) rfl rfl (by kernel_rfl) (by kernel_rfl) (by kernel_rfl) (fun _ _ _ h => h) (yieldsIf_cell (by kernel_rfl) rfl (by kernel_rfl) (fun W h => hloadS W (HROWC.out W h.1))) S0 ?_
            refine held_take (i := 12) (v := .int .i64 (j : Int)) (some 47) rfl rfl (by kernel_rfl) (by kernel_rfl) (by kernel_rfl) (fun _ _ _ h => h) (yieldsIf_move (by kernel_rfl) rfl (by kernel_rfl)) S0 ?_
            refine held_take (i := 13) (v := .pointer (some ⟨br, ro + j, none⟩)) (some 48) rfl rfl (by kernel_rfl) (by kernel_rfl) (by kernel_rfl) (fun _ _ _ h => h) (yieldsIf_index (by kernel_rfl) rfl (by kernel_rfl) (by kernel_rfl) (hidxI br ro cr hlj)) S0 ?_
            refine held_take (i := 14) (v := .int .i64 x) (some 49) rfl rfl (by kernel_rfl) (by kernel_rfl) (by kernel_rfl) (fun _ _ _ h => h) (yieldsIf_cell (by kernel_rfl) rfl (by kernel_rfl) (fun W h => hload W (hcx W h.1))) S0 ?_
            refine held_take (i := 15) (v := .int .i64 (f * x)) (some 50) rfl rfl (by kernel_rfl) (by kernel_rfl) (by kernel_rfl) (fun _ _ _ h => h) (yieldsIf_bin (by kernel_rfl) rfl (by kernel_rfl) (by kernel_rfl) (fun _ => rfl) hmul) S0 ?_
            refine held_take (i := 16) (v := .int .i64 (a - f * x)) (some 51) rfl rfl (by kernel_rfl) (by kernel_rfl) (by kernel_rfl) (fun _ _ _ h => h) (yieldsIf_bin (by kernel_rfl) rfl (by kernel_rfl) (by kernel_rfl) (fun _ => rfl) hsub) S0 ?_
            refine held_enter (i := 17) (some 52) (f := 169) (args := #[.int .i64 p, .int .i64 (a - f * x)]) (by kernel_rfl) rfl rfl rfl (by kernel_rfl) HMOD.out ?_ (fun c w' h => by cases h.1) (fun w' h => by cases h.1)
            rintro e4 W4 ⟨he4, rfl⟩
            injection he4 with he4
            subst he4
            refine ⟨S0, ?_⟩
            refine held_take (i := 18) (v := .pointer (some ⟨g, 0 + j, none⟩)) (some 53) rfl rfl (by kernel_rfl) (by kernel_rfl) (by kernel_rfl) (fun _ _ _ h => h) (yieldsIf_index (by kernel_rfl) rfl (by kernel_rfl) (by kernel_rfl) (hidxI g 0 cu hlj)) S0 ?_
            refine held_none (i := 19) (v := .bool false) rfl rfl (by kernel_rfl) (by kernel_rfl) (by kernel_rfl) (fun _ _ _ h => h) (yieldsIf_move (by kernel_rfl) rfl (by kernel_rfl)) S0 ?_
            have HBS : Hid (Below w.heap.size w (wr.drew.setCell ⟨g, 0 + j, none⟩ (.int .i64 (y j)))) := Lib.hid (S0.1.setCell hgl _)
            have HGS : Hid (Gb w.heap.size (wr.drew.setCell ⟨g, 0 + j, none⟩ (.int .i64 (y j))) (.slice (some ⟨g, 0, none⟩) n cu) (toL n (mixV y r (j + 1)))) := Lib.hid (by rw [Nat.zero_add]; exact HPUT.out.1)
            refine wpAnyH_done (by kernel_rfl) (lastQ_storeI rfl (by kernel_rfl) (by kernel_rfl) (.tmp 53) (.tmp 52) (by kernel_rfl) g (0 + j) (y j) _ (by kernel_rfl) (by kernel_rfl) S0.2 (by rw [Nat.zero_add]; exact HPUT.out.2.1) ?_) _
            simp only [Act.put, List.setIfInBounds_toArray, List.set_cons_zero, List.set_cons_succ]
            obtain ⟨W6, hW6⟩ : ∃ W6, W6 = wr.drew.setCell ⟨g, 0 + j, none⟩ (.int .i64 (y j)) := ⟨_, rfl⟩
            rw [← hW6] at HBS HGS ⊢
            clear hW6 S0 hc0 HMOD hmul hsub hcx HPUT HGD
            go_wp2
            go_roundw
            case rel => exact ⟨j + 1, by omega, by go_num, HBS, HGS⟩
            case measure => simp [intOf]; omega
          · have HJ : Hid (j = n) := Lib.hid (by omega)
            have HGY : Hid (Gb w.heap.size wr (.slice (some ⟨g, 0, none⟩) n cu) (toL n y)) := Lib.hid (by rw [← mix_done y r n]; have := HG.out; rwa [HJ.out] at this)
            go_wp2
            go_roundw
            case rel => exact ⟨k + 1, y, by omega, by go_num, HB, HGY, HRE2, HYW⟩
            case measure => simp [intOf]; omega
    · have hkk : Hid (k = R.length) := Lib.hid (by omega)
      go_wp2
      go_ret
      exact ⟨_, r, rfl, HG.out, HB.out, by have := HRE.out; rwa [hkk.out] at this, HRW.out⟩
theorem l02Less_any (p : Int) (n : Nat) (vl vr : Value) (R : List Lin.V) (v : Lin.V) (w : World) (hp : IsP p) (hL : L2 0 w vl (R.map (toL n))) (hv : L1 0 w vr (toL n v)) (hR : Lin.Red p R) (hw : ∀ u ∈ R, Lin.Wd n u) (hm : Lin.Md p v) (hvw : Lin.Wd n v) (hn : n ≤ 1048576) (hl : R.length ≤ 1048576) :
    Calls Try.prog 107 #[.int .i64 p, vr, vl] w (RestR p n R v w) :=
  (l02LessE_any p n vl vr R v w hp hL hv hR hw hm hvw hn hl).mono fun _ _ ⟨u, r, h1, h2, h3, h4, h5⟩ => ⟨u, r, h1, h2, h3, h4.rest, h5⟩
end Go.Proofs.Ytpdkfidmmjlmnab
