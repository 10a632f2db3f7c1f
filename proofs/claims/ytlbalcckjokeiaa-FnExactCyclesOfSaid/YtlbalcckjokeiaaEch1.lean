/-
  The reference model's small steps on rows: l01Own, l01Mod, l01Inverse, l01Less by their contracts.
-/
import Derived.Test.YtlbalcckjokeiaaEchM
import Derived.Test.YtlbalcckjokeiaaFlipS
import Derived.Test.YtlbalcckjokeiaaReg2
namespace Go.Proofs.Ytlbalcckjokeiaa
open Go.RowKit

/-- A row of numbers that a call has gathered above a base. -/
def Gb (base : Nat) (w : World) (u : Value) (xs : List Int) : Prop := w.ownsRow base 2 1 u xs.length (xs.map (Value.int .i64))
theorem Gb.g1 {base : Nat} {w : World} {u : Value} {xs : List Int} (h : Gb base w u xs) : G1 w u xs := owns_mono h (Nat.zero_le _)
theorem Gb.l1 {base : Nat} {w : World} {u : Value} {xs : List Int} (h : Gb base w u xs) : L1 0 w u xs := h.g1.l1
theorem Gb.below {base : Nat} {w w' : World} {u : Value} {xs : List Int} (h : Gb base w u xs) (hb : Below w.heap.size w w') : Gb base w' u xs := owns_below h hb
theorem Gb.mono {base base' : Nat} {w : World} {u : Value} {xs : List Int} (h : Gb base w u xs) (hb : base' ≤ base) : Gb base' w u xs := owns_mono h hb

theorem toL_succ (q : Nat) (v : Lin.V) : toL (q + 1) v = toL q v ++ [v q] := by simp [toL, List.range_succ]

def GbR (xs : List Int) (w : World) (e : Ending) (w' : World) : Prop := ∃ u, e = .returned u ∧ Gb w.heap.size w' u xs ∧ Below w.heap.size w w'

theorem run_append_zero (w : World) (ty : TypeId) (g : Nat) (ad : Option Addr) (cap : Nat) :
    (Builtin.append_ #[31, 31] ty #[.slice (some ⟨g, 0, none⟩) 0 0, .slice ad 0 cap]).run Try.prog w = .ok (.slice (some ⟨g, 0, none⟩) 0 0) w := by
  obtain ⟨i, hi, _, _, _⟩ := info_parts Try.infoI
  cases ad with
  | none => simp [Builtin.append_, run_underlying Try.underlying31, sizeOf, typeInfo, hi, Builtin.lenOf, Builtin.firstCells, storeCells]
  | some a =>
    have hl := run_loadCells_list (P := Try.prog) w a [] (by simp)
    simp at hl
    simp [Builtin.append_, run_underlying Try.underlying31, sizeOf, typeInfo, hi, Builtin.lenOf, Builtin.firstCells, storeCells, hl]
theorem wpList_append_run {ops : Array Oper} {rest : List Oper} {o : Oper} {a : Act} {w : World} {Q : Exit → Act → World → Prop} {P : Program} (hgd : o.guard = none) (d s : Operand) (t t' : TypeId)
    (ho : o.op = .call { callee := .builtin .append, args := #[d, s], argTypes := #[t, t'] }) (v u : Value) (hd : a.eval d = v) (hs : a.eval s = u) {v' : Value} {w' : World}
    (hr : (Builtin.append_ #[t, t'] o.type #[v, u]).run P w = .ok v' w') (h : wpList P ops Q rest (a.put o.dst v') w') : wpList P ops Q (o :: rest) a w :=
  wpList_plain hgd fun K hK => by
    unfold Oper.wp execOp
    simp only [ho, resolve, invoke, builtin, Sem.run_bind, Sem.run_pure, Result.andThen_ok, List.map_toArray, List.map_cons, List.map_nil, hd, hs, hr]
    exact hK _ _ h

set_option maxHeartbeats 800000 in
theorem l01Own_any (v : Value) (xs : List Int) (w : World) (h : L1 0 w v xs) (hm : xs.length ≤ 1048576) :
    Calls Try.prog 98 #[v] w (GbR xs w) := by
  have HOWN := Lib.hid (World.ownsRow_made (base := w.heap.size) (e := 2) (size := 1) w #[] 0 (Nat.le_refl _) (by unfold maxLen; omega) (by simp))
  obtain ⟨i1, hj, hy0, hy1, hy2⟩ := info_parts Try.infoI
  refine Sl.cases h (fun ad cap hx hv => ?_) (fun b o cap hv _ hpos hc => ?_)
  · subst hx hv
    clear h
    have hrun := fun W ty => run_append_zero W ty w.heap.size ad cap
    go_enter Try.func98, Try.ntmps98
    go_wp2_with (at_builtin; refine wpList_append_run rfl (.tmp 3) (.tmp 4) 31 31 rfl _ _ rfl rfl (hrun _ _) ?_)
    go_wp2
    go_ret
    exact ⟨_, rfl, by simpa [Gb] using HOWN.out, (Below.refl _ _).alloc (Nat.le_refl _) _⟩
  · subst hv
    clear h
    have HC := Lib.hid hc
    clear hc
    go_enter Try.func98, Try.ntmps98
    go_wp2_with (at_builtin; refine wpList_append_own _ rfl (.tmp 3) (.tmp 4) 31 rfl w.heap.size 2 i1 (.int .i64 0) 1 8 Try.underlying31 hj hy0 hy1 hy2 rfl (by decide) _ _ _ rfl HOWN.out ⟨b, o, none⟩ xs.length cap (xs.map (Value.int .i64)) rfl ?c0 ?c1 ?c2 ?c3 ?c4 ?c5 ?_)
    case c0 => simp
    case c1 =>
      intro j u hju
      have hj' : j < xs.length := by
        have := (List.getElem?_eq_some_iff.1 hju).1
        simpa using this
      obtain ⟨u2, h2, h3⟩ := HC.out j hj'
      rw [Addr.add_lit]
      have h4 := cell_lt h2
      rw [((Below.refl w.heap.size w).alloc (Nat.le_refl _) _).cell (p := ⟨b, o + j, none⟩) h4, h2, h3]
      simp [hj'] at hju
      rw [hju]
    case c2 => intro u hu; obtain ⟨x, _, rfl⟩ := List.mem_map.1 hu; rfl
    case c3 => unfold maxLen; omega
    case c4 => omega
    case c5 => simp
    intro v' w3 hown' hgrow _
    have HB3 : Hid (Below w.heap.size w w3) := Lib.hid (((Below.refl _ _).alloc (Nat.le_refl _) _).grown hgrow (by simp) (fun g hg => ((HOWN.out.lt) g hg).1))
    have HO3 := Lib.hid hown'
    clear hown' hgrow
    go_wp2
    go_ret
    exact ⟨_, rfl, by simpa [Gb] using HO3.out, HB3.out⟩

theorem tmod_bd {p x : Int} (hp : IsP p) : -7 < x.tmod p ∧ x.tmod p < 7 := by
  have h1 := Int.lt_tmod_of_pos x (show 0 < p by have := hp.lo; omega)
  have h2 := Int.tmod_lt_of_pos x (show 0 < p by have := hp.lo; omega)
  have := hp.hi
  omega
set_option maxHeartbeats 400000 in
theorem l01Mod_any (p x : Int) (w : World) (hp : IsP p) : Calls Try.prog 130 #[.int .i64 p, .int .i64 x] w (QW (.int .i64 (x % p)) w) := by
  have HM := Lib.hid (mod_twice (x := x) (show 0 < p by have := hp.lo; omega))
  obtain ⟨hb0, hb1⟩ := tmod_bd (x := x) hp
  have hp0 := hp.lo
  have hp1 := hp.hi
  obtain ⟨r, hr⟩ : ∃ r, r = x.tmod p := ⟨_, rfl⟩
  rw [← hr] at hb0 hb1
  have HR := Lib.hid hr
  clear hr
  go_enter Try.func130, Try.ntmps130
  go_wp2
  rw [← HR.out]
  have hw : wrap64 (r + p) = r + p := by unfold wrap64; omega
  go_ret
  exact ⟨ret_int (by rw [← HM.out, ← HR.out, hw]), rfl⟩

set_option maxHeartbeats 800000 in
theorem l01Inverse_any (p a : Int) (w : World) (hp : IsP p) (h0 : 0 < a) (h1 : a < p) : Calls Try.prog 112 #[.int .i64 p, .int .i64 a] w (InvR p a w) := by
  obtain ⟨d, hd1, hdp, hd⟩ := inv_ex hp h0 h1
  have hp7 := hp.hi7
  have hp1 := hp.lo1
  have HD := Lib.hid hd
  have HP := Lib.hid hp
  have HAM : Hid (a % p = a) := Lib.hid (Int.emod_eq_of_lt (by omega) h1)
  clear hd hp
  go_enter Try.func112, Try.ntmps112
  go_wp2
  go_loop [5] (fun i => ∃ k : Nat, 1 ≤ k ∧ k ≤ d ∧ i = .int .i64 k) (fun i => d + 1 - (intOf i).toNat)
  case atStart => exact ⟨1, Nat.le_refl _, hd1, rfl⟩
  case round =>
    obtain ⟨k, hk1, hk, rfl⟩ := hrel
    obtain ⟨hm0, hm1⟩ := mul_bd HP.out (a := (k : Int)) (b := a) (by omega) (by omega) (by omega) (by omega)
    have hkp : (k : Int) < p := by omega
    go_wp2_with fail
    have hmod := l01Mod_any p a w HP.out
    rw [HAM.out] at hmod
    refine hmod.mono ?_
    clear hmod
    rintro e w' ⟨rfl, rfl⟩
    by_cases hq : (k : Int) * a % p = 1
    · have hx : ((k : Int) * a % p == 1) = true := by rw [hq]; rfl
      have HQ := Lib.hid hq
      clear hq
      go_wp2
      go_ret
      exact ⟨k, rfl, rfl, hk1, by omega, HQ.out⟩
    · have hx : ((k : Int) * a % p == 1) = false := by simp [hq]
      have hkd : k < d := by
        rcases Nat.lt_or_ge k d with h | h
        · exact h
        · have : k = d := by omega
          subst this
          exact absurd HD.out hq
      clear hq
      go_wp2
      go_round
      case rel => exact ⟨k + 1, by omega, by omega, by go_num⟩
      case measure => simp [intOf]; omega

/-- What l01Less computes, number by number, stays small. -/
theorem less_bd {p k a b : Int} (hp : IsP p) (hb : 0 ≤ b ∧ b < p) (hk : 0 ≤ k ∧ k < p) : 0 ≤ k * b ∧ k * b ≤ 42 ∧ (a - k * b) % p = (a + -k * b) % p := by
  obtain ⟨h1, h2⟩ := mul_bd hp hk.1 hk.2 hb.1 (Int.le_of_lt hb.2)
  exact ⟨h1, h2, by rw [Int.neg_mul, Int.sub_eq_add_neg]⟩

set_option maxHeartbeats 3200000 in
set_option maxRecDepth 100000 in
theorem l01Less_any (p k : Int) (n : Nat) (va vb : Value) (u t : Lin.V) (w : World) (hp : IsP p) (ha : L1 0 w va (toL n u)) (hb : L1 0 w vb (toL n t)) (hu : Lin.Md p u) (ht : Lin.Md p t) (hk : 0 ≤ k ∧ k < p) (hn : n ≤ 1048576) :
    Calls Try.prog 113 #[.int .i64 p, va, vb, .int .i64 k] w (GbR (toL n (Lin.add p u (-k) t)) w) := by
  have HP := Lib.hid hp
  have hp7 := hp.hi7
  have hp1 := hp.lo1
  have HA := Lib.hid ha
  have HB := Lib.hid hb
  have HU := Lib.hid hu
  have HT := Lib.hid ht
  obtain ⟨y, hy⟩ : ∃ y, y = Lin.add p u (-k) t := ⟨_, rfl⟩
  have HY := Lib.hid hy
  rw [← hy]
  obtain ⟨i1, hj, hy0, hy1, hy2⟩ := info_parts Try.infoI
  have HOWN := Lib.hid (World.ownsRow_made (base := w.heap.size) (e := 2) (size := 1) w #[] 0 (Nat.le_refl _) (by unfold maxLen; omega) (by simp))
  obtain ⟨ada, capa, hva⟩ := Sl.shape ha
  obtain ⟨adb, capb, hvb⟩ := Sl.shape hb
  rw [toL_length] at hva hvb
  subst hva hvb
  clear hp ha hb hu ht hy
  go_enter Try.func113, Try.ntmps113
  go_wp2
  go_loopw [9, 10] (fun o i wr => ∃ (q : Nat), q ≤ n ∧ i = .int .i64 q ∧ Hid (Below w.heap.size w wr) ∧ Hid (wr.ownsRow w.heap.size 2 1 o q ((toL q y).map (Value.int .i64)))) (fun _ i _ => n - (intOf i).toNat)
  case atStart => exact ⟨0, Nat.zero_le _, rfl, Lib.hid ((Below.refl _ _).alloc (Nat.le_refl _) _), Lib.hid (by simpa [toL] using HOWN.out)⟩
  case round =>
    clear HOWN
    obtain ⟨q, hq, rfl, HBE, HO⟩ := hrel
    by_cases hlt : q < n
    · refine Sl.cases HA.out (fun _ _ hx _ => absurd hlt (by have := congrArg List.length hx; rw [toL_length] at this; simp at this; omega)) (fun ba oa ca hva _ _ hca => ?_)
      refine Sl.cases HB.out (fun _ _ hx _ => absurd hlt (by have := congrArg List.length hx; rw [toL_length] at this; simp at this; omega)) (fun bb ob cb hvb _ _ hcb => ?_)
      rw [toL_length] at hva hvb
      obtain ⟨rfl, rfl⟩ : ada = some ⟨ba, oa, none⟩ ∧ capa = ca := by simpa using hva
      obtain ⟨rfl, rfl⟩ : adb = some ⟨bb, ob, none⟩ ∧ capb = cb := by simpa using hvb
      obtain ⟨ua, hua, hra⟩ := hca q (by rw [toL_length]; exact hlt)
      obtain ⟨ub, hub, hrb⟩ := hcb q (by rw [toL_length]; exact hlt)
      rw [toL_get] at hra hrb
      obtain ⟨a, haa⟩ : ∃ a, a = u q := ⟨_, rfl⟩
      obtain ⟨b, hbb⟩ : ∃ b, b = t q := ⟨_, rfl⟩
      have hab := HU.out q
      have hbb2 := HT.out q
      rw [← haa] at hra hab
      rw [← hbb] at hrb hbb2
      have h1 : wr.cell? ⟨ba, oa + q, none⟩ = some (.int .i64 a) := by rw [later HBE.out (Nat.le_refl _) hua, hra]
      have h2 : wr.cell? ⟨bb, ob + q, none⟩ = some (.int .i64 b) := by rw [later HBE.out (Nat.le_refl _) hub, hrb]
      obtain ⟨m0, m1, m2⟩ := less_bd (a := a) HP.out hbb2 hk
      have HM2 : Hid ((a - k * b) % p = y q) := Lib.hid (by rw [m2, HY.out, haa, hbb]; rfl)
      have hmod := fun W => l01Mod_any p (a - k * b) W HP.out
      rw [HM2.out] at hmod
      have HMOD := Lib.hid hmod
      have hsz : w.heap.size ≤ wr.heap.size := HBE.out.size
      have hca1 : ∀ W, Below w.heap.size w W → W.cell? ⟨ba, oa + q, none⟩ = some (.int .i64 a) := fun W h => by rw [later h (Nat.le_refl _) hua, hra]
      have hcb1 : ∀ W, Below w.heap.size w W → W.cell? ⟨bb, ob + q, none⟩ = some (.int .i64 b) := fun W h => by rw [later h (Nat.le_refl _) hub, hrb]
      have hmul : ∀ w, (binOp .mul 2 (.int .i64 k) (.int .i64 b)).run Try.prog w = .ok (.int .i64 (k * b)) w := fun w => hmulI (by omega) (by omega) w
      have hsub : ∀ w, (binOp .sub 2 (.int .i64 a) (.int .i64 (k * b))).run Try.prog w = .ok (.int .i64 (a - k * b)) w := fun w => hsubI (by omega) (by omega) w
      clear h1 h2
      clear hra hrb hca hcb hva hvb m2 haa hbb hmod
      go_wp2
      refine wp_region_held (S := fun W => Below w.heap.size w W) (by kernel_rfl) ?_
      have S0 : Below w.heap.size w wr.drew := HBE.out.drew
      refine held_take (i := 0) (v := u9) (some 18) rfl rfl (by kernel_rfl) (by kernel_rfl) (by kernel_rfl) (fun _ _ _ h => h) (yieldsIf_move (by kernel_rfl) rfl (by kernel_rfl)) S0 ?_
      refine held_take (i := 1) (v := .int .i64 p) (some 19) rfl rfl (by kernel_rfl) (by kernel_rfl) (by kernel_rfl) (fun _ _ _ h => h) (yieldsIf_move (by kernel_rfl) rfl (by kernel_rfl)) S0 ?_
      refine held_take (i := 2) (v := .slice (some ⟨ba, oa, none⟩) n capa) (some 20) rfl rfl (by kernel_rfl) (by kernel_rfl) (by kernel_rfl) (fun _ _ _ h => h) (yieldsIf_move (by kernel_rfl) rfl (by kernel_rfl)) S0 ?_
      refine held_take (i := 3) (v := .int .i64 (q : Int)) (some 21) rfl rfl (by kernel_rfl) (by kernel_rfl) (by kernel_rfl) (fun _ _ _ h => h) (yieldsIf_move (by kernel_rfl) rfl (by kernel_rfl)) S0 ?_
      refine held_take (i := 4) (v := .pointer (some ⟨ba, oa + q, none⟩)) (some 22) rfl rfl (by kernel_rfl) (by kernel_rfl) (by kernel_rfl) (fun _ _ _ h => h) (yieldsIf_index (by kernel_rfl) rfl (by kernel_rfl) (by kernel_rfl) (hidxI ba oa capa hlt)) S0 ?_
      refine held_take (i := 5) (v := .int .i64 a) (some 23) rfl rfl (by kernel_rfl) (by kernel_rfl) (by kernel_rfl) (fun _ _ _ h => h) (yieldsIf_cell (by kernel_rfl) rfl (by kernel_rfl) (fun W h => hload W (hca1 W h))) S0 ?_
      refine held_take (i := 6) (v := .int .i64 k) (some 24) rfl rfl (by kernel_rfl) (by kernel_rfl) (by kernel_rfl) (fun _ _ _ h => h) (yieldsIf_move (by kernel_rfl) rfl (by kernel_rfl)) S0 ?_
      refine held_take (i := 7) (v := .slice (some ⟨bb, ob, none⟩) n capb) (some 25) rfl rfl (by kernel_rfl) (by kernel_rfl) (by kernel_rfl) (fun _ _ _ h => h) (yieldsIf_move (by kernel_rfl) rfl (by kernel_rfl)) S0 ?_
      refine held_take (i := 8) (v := .int .i64 (q : Int)) (some 26) rfl rfl (by kernel_rfl) (by kernel_rfl) (by kernel_rfl) (fun _ _ _ h => h) (yieldsIf_move (by kernel_rfl) rfl (by kernel_rfl)) S0 ?_
      refine held_take (i := 9) (v := .pointer (some ⟨bb, ob + q, none⟩)) (some 27) rfl rfl (by kernel_rfl) (by kernel_rfl) (by kernel_rfl) (fun _ _ _ h => h) (yieldsIf_index (by kernel_rfl) rfl (by kernel_rfl) (by kernel_rfl) (hidxI bb ob capb hlt)) S0 ?_
      refine held_take (i := 10) (v := .int .i64 b) (some 28) rfl rfl (by kernel_rfl) (by kernel_rfl) (by kernel_rfl) (fun _ _ _ h => h) (yieldsIf_cell (by kernel_rfl) rfl (by kernel_rfl) (fun W h => hload W (hcb1 W h))) S0 ?_
      refine held_take (i := 11) (v := .int .i64 (k * b)) (some 29) rfl rfl (by kernel_rfl) (by kernel_rfl) (by kernel_rfl) (fun _ _ _ h => h) (yieldsIf_bin (by kernel_rfl) rfl (by kernel_rfl) (by kernel_rfl) (fun _ => rfl) hmul) S0 ?_
      refine held_take (i := 12) (v := .int .i64 (a - k * b)) (some 30) rfl rfl (by kernel_rfl) (by kernel_rfl) (by kernel_rfl) (fun _ _ _ h => h) (yieldsIf_bin (by kernel_rfl) rfl (by kernel_rfl) (by kernel_rfl) (fun _ => rfl) hsub) S0 ?_
      refine held_enter (i := 13) (some 31) (f := 130) (args := #[.int .i64 p, .int .i64 (a - k * b)]) (by kernel_rfl) rfl rfl rfl (by kernel_rfl) (HMOD.out _) ?_ (fun c w' h => by cases h.1) (fun w' h => by cases h.1)
      rintro e4 W4 ⟨he4, rfl⟩
      injection he4 with he4
      subst he4
      refine ⟨S0, ?_⟩
      have S1 : Below w.heap.size w (wr.drew.alloc (.cells #[.int .i64 (y q)] 2)) := S0.alloc hsz _
      have HOX := Lib.hid (HO.out.alloc (.cells #[.int .i64 (y q)] 2))
      refine held_buildI (i := 14) (some 32) (by kernel_rfl) rfl rfl rfl (.tmp 31) (y q) rfl (by kernel_rfl) ⟨S1, ?_⟩
      refine held_appendI (i := 15) (some 33) (by kernel_rfl) rfl rfl rfl (.tmp 18) (.tmp 32) rfl w.heap.size u9 q _ (by kernel_rfl) HOX.out wr.heap.size (y q) (by kernel_rfl) (cell_alloc1 wr.drew _ _) (by omega) (by simp; omega) ?_
      intro v' w3 hown hgrow
      have S2 : Below w.heap.size w w3 := S1.grown hgrow (by simp; omega) (fun g hg => ((HOX.out.lt) g hg).1)
      have HB3 := Lib.hid S2
      have HO3 : Hid (w3.ownsRow w.heap.size 2 1 v' (q + 1) ((toL (q + 1) y).map (Value.int .i64))) := Lib.hid (by rw [toL_succ, List.map_append]; exact hown)
      refine ⟨S2, ?_⟩
      refine held_take (i := 16) (v := v') (some 9) rfl rfl (by kernel_rfl) (by kernel_rfl) (by kernel_rfl) (fun _ _ _ h => h) (yieldsIf_assign (by kernel_rfl) rfl (by kernel_rfl)) S2 ?_
      refine wpAnyH_done (by kernel_rfl) ?_ _
      simp only [Act.put, List.setIfInBounds_toArray, List.set_cons_zero, List.set_cons_succ]
      clear S0 S1 S2 hown hgrow hca1 hcb1 hmul hsub HOX HO HBE
      go_wp2
      go_roundw
      case rel => exact ⟨q + 1, by omega, by go_num, HB3, HO3⟩
      case measure => simp [intOf]; omega
    · have hqq : Hid (q = n) := Lib.hid (by omega)
      go_wp2
      go_ret
      refine ⟨_, rfl, ?_, HBE.out⟩
      have := HO.out
      rw [hqq.out] at this
      unfold Gb
      rw [toL_length]
      exact this
end Go.Proofs.Ytlbalcckjokeiaa
