/-
  The bottom in the model: spec.l02Images, l02Bottom by their contracts.
-/
import Derived.Test.YtpdkfidmmjlmnabBot
import Derived.Test.YtpdkfidmmjlmnabMeet
namespace Go.Proofs.Ytpdkfidmmjlmnab
open Go.RowKit

section
variable {md : Region.Mode} {ops : Array Oper} {Q : Exit → Act → World → Prop} {S : World → Prop}
/-- append of one row to a table that the call gathers, in a drawn region. -/
theorem held_appendG {i : Nat} {oi : Oper} {fuel : Nat} {listed : Array Bool} {a : Act} {w : World} (d : Option Tmp) (hr : Region.ready md ops listed = [i]) (hi : ops[i]? = some oi) (hg : oi.guard = none) (hd : oi.dst = d)
    (s x : Operand) (ho : oi.op = .call { callee := .builtin .append, args := #[s, x], argTypes := #[26, 26] }) (base : Nat) (v : Value) (tb : List (List Int)) (hs : a.eval s = v) (hst : Gs base w v tb)
    (b : Nat) (ad : Option Addr) (m c : Nat) (hx : a.eval x = .slice (some ⟨b, 0, none⟩) 1 1) (hc : w.cell? ⟨b, 0, none⟩ = some (.slice ad m c)) (y : List Int) (hy : G1 w (.slice ad m c) y) (hn : tb.length ≤ 1048576) (hb : base ≤ w.heap.size)
    (h : ∀ v' w', Gs base w' v' (tb ++ [y]) → Below base w w' → S w' ∧ wpAnyH Try.prog md ops Q S fuel (listed.setIfInBounds i true) (a.put d v') w') : wpAnyH Try.prog md ops Q S (fuel + 1) listed a w := by
  obtain ⟨vs, hvo, hvr⟩ := hst
  exact held_appendS d hr hi hg hd s x ho base v tb.length vs hs hvo b ad m c hx hc (by omega) hb (fun v' w' hown hgrow => h v' w' (Gs.push hvo hvr hy hown hgrow) ((Below.refl _ _).grown hgrow hb (fun g hg => (World.ownsRow.lt hvo g hg).1)))
end

set_option maxHeartbeats 6400000 in
set_option maxRecDepth 100000 in
theorem l02Images_any (p : Int) (n : Nat) (vl : Value) (L : List Lin.V) (dv mv lv : Value) (ds : List Int) (ms : List (List (List Int))) (ls : List (List Int)) (w : World) (h : Fi 0 w dv mv lv ds ms ls) (hf : IsFil p ds ms ls) (hn : n < ds.length) (hn0 : 0 < n) (hL : L2 0 w vl (L.map (toL (dimN ds (n : Int))))) (hLm : ∀ u ∈ L, Lin.Md p u) (hl : L.length ≤ 8) :
    Calls Try.prog 106 #[.agg #[.int .i64 p, dv, mv, lv], .int .i64 (n : Int), vl] w (GsR ((dimgs p ds ms n L).map (toL (cycM ds n))) w) := by
  have HX0 := Lib.hid (Fx.start (p := p) 33 h)
  have HCX := Lib.hid hf.1
  have HLM := Lib.hid hLm
  have hl6 := hf.1.1.len1
  obtain ⟨k0, hk0⟩ : ∃ k0, k0 + 1 = n := ⟨n - 1, by omega⟩
  obtain ⟨d, hd⟩ : ∃ d, d = dimN ds (n : Int) := ⟨_, rfl⟩
  have hd8 : d ≤ 8 := by rw [hd]; exact (dimN_le8 hf.1 n).1
  obtain ⟨c, hc⟩ : ∃ c, c = cycM ds n := ⟨_, rfl⟩
  obtain ⟨t, ht⟩ : ∃ t, t = cycT ds ms n := ⟨_, rfl⟩
  have hok := cyc_ok hf.1 hn
  rw [← ht, ← hd, ← hc] at hok
  have hc8 : c ≤ 8 := hok.2.2
  have HTL := Lib.hid hok.1
  have HTR := Lib.hid hok.2.1
  have HMZ : Hid (mapZ ds ms (n : Int) = t) := Lib.hid (by rw [ht]; rfl)
  have HDZ : Hid (dimZ ds (k0 : Int) = (c : Int)) := Lib.hid (by
    unfold dimZ
    rw [if_pos (by omega), Int.toNat_natCast, hc, ← hk0]
    simp only [cycM, Nat.add_sub_cancel]
    rw [if_neg (by omega)]
    exact (dimN_le8 hf.1 k0).2)
  rw [← hd] at hL
  have HDG : Hid (dimgs p ds ms n L = L.map (dimg p d t)) := Lib.hid (by unfold dimgs; rw [hd, ht])
  rw [HDG.out, ← hc]
  obtain ⟨w1, hw1⟩ : ∃ w1, w1 = w.alloc (.cells #[.int .i64 p, dv, mv, lv] 33) := ⟨_, rfl⟩
  have hs01 : w1.heap.size = w.heap.size + 1 := by rw [hw1]; simp
  have HS01 := Lib.hid hs01
  rw [← hw1] at HX0
  have HNX : Hid (∀ W, Below w1.heap.size w1 W → Fx w W w.heap.size p dv mv lv ds ms ls) := Lib.hid (fun W h => HX0.out.next h)
  have HL : Hid (L2 0 w1 vl (L.map (toL d))) := Lib.hid (hL.below (by rw [hw1]; exact below_alloc1 _ _))
  obtain ⟨al, cl, hvl⟩ := Sl.shape hL
  rw [List.length_map] at hvl
  subst hvl
  have hsub := fun w => hsubN (k := k0) (n := n) hk0 (by omega) w
  have HSUB := Lib.hid hsub
  have HOWN0 := Lib.hid (World.ownsRow_made (base := w1.heap.size) (e := 22) (size := 1) w1 #[] 0 (Nat.le_refl _) (by unfold maxLen; omega) (by simp))
  clear h hf hLm hL hk0 hd hc ht hok hs01 hsub
  go_enter Try.func106, Try.ntmps106
  go_wp2
  rw [← hw1]
  clear hw1
  go_loopw [7, 8] (fun ov i wr => ∃ (k : Nat), k ≤ L.length ∧ i = .int .i64 k ∧ Hid (Below w1.heap.size w1 wr) ∧ Hid (Gs w1.heap.size wr ov (((L.take k).map (dimg p d t)).map (toL c)))) (fun _ i _ => L.length - (intOf i).toNat)
  case atStart => exact ⟨0, Nat.zero_le _, rfl, Lib.hid ((Below.refl _ _).alloc (Nat.le_refl _) _), Lib.hid ⟨[], by have h := HOWN0.out; rw [HS01.out] at h ⊢; simpa using h, fun k h1 _ => absurd h1 (Nat.not_lt_zero _)⟩⟩
  case round =>
    clear HOWN0
    obtain ⟨k, hk, rfl, HB, HG⟩ := hrel
    obtain ⟨wx, hwx⟩ : ∃ wx : World, wx = wr := ⟨_, rfl⟩
    subst hwx
    have hsx : w1.heap.size ≤ wx.heap.size := HB.out.size
    have hgl : (((L.take k).map (dimg p d t)).map (toL c)).length = k := by simp; omega
    obtain ⟨ao, co, hov⟩ := Sl.shape HG.out.l2
    rw [hgl] at hov
    subst hov
    have HGN := Lib.hid hgl
    clear hgl
    by_cases hlt : k < L.length
    · have hkl : k < (L.map (toL d)).length := by rw [List.length_map]; exact hlt
      refine Sl.cases HL.out (fun _ _ hx _ => absurd hkl (by simp [hx])) (fun b o c2 hvv _ _ hc => ?_)
      injection hvv with e1 e2 e3
      clear e2
      subst e1 e3
      obtain ⟨ur, hur, hrr0⟩ := hc k hkl
      obtain ⟨u, hu⟩ : ∃ u, u = L[k] := ⟨_, rfl⟩
      rw [List.getElem_map] at hrr0
      have hrr : L1 0 w1 ur (toL d u) := by rw [hu]; exact hrr0
      clear hrr0
      have HUM : Hid (Lin.Md p u) := Lib.hid (by rw [hu]; exact HLM.out _ (List.getElem_mem hlt))
      have HTK : Hid (((L.take (k + 1)).map (dimg p d t)).map (toL c) = ((L.take k).map (dimg p d t)).map (toL c) ++ [toL c (dimg p d t u)]) := Lib.hid (by rw [List.take_succ_eq_append_getElem hlt, List.map_append, List.map_append, hu]; rfl)
      have HAP := Lib.hid (dimg_apT (u := u) HCX.out.1.prime HTL.out HTR.out HUM.out)
      have HRR := Lib.hid hrr
      have HUR : Hid (∀ W, Below w1.heap.size w1 W → W.cell? ⟨b, o + k, none⟩ = some ur) := Lib.hid (fun W h => later h (Nat.le_refl _) hur)
      have hsub := HSUB.out
      have hsx2 : w1.heap.size ≤ wx.drew.heap.size := hsx
      clear hc hur hrr hu hkl
      go_wp2
      refine wp_region_held (S := fun W => Below w1.heap.size w1 W) (by kernel_rfl) ?_
      have S0 : Below w1.heap.size w1 wx.drew := HB.out.drew
      have HGD := Lib.hid (HG.out.below (Below.refl wx.heap.size wx).drew)
      change wpAnyH _ _ _ _ _ _ _ _ wx.drew
      clear HG HB
      generalize wx.drew = wd at *
      refine held_take (i := 0) (v := .slice ao k co) (some 16) rfl rfl (by kernel_rfl) (by kernel_rfl) (by kernel_rfl) (fun _ _ _ h => h) (yieldsIf_move (by kernel_rfl) rfl (by kernel_rfl)) S0 ?_
      refine held_take (i := 1) (v := .pointer (some ⟨w.heap.size, 0, none⟩)) (some 17) rfl rfl (by kernel_rfl) (by kernel_rfl) (by kernel_rfl) (fun _ _ _ h => h) (yieldsIf_run (by kernel_rfl) (fun W _ => by kernel_rfl)) S0 ?_
      refine held_take (i := 2) (v := .pointer (some ⟨w.heap.size, 0, none⟩)) (some 18) rfl rfl (by kernel_rfl) (by kernel_rfl) (by kernel_rfl) (fun _ _ _ h => h) (yieldsIf_run (by kernel_rfl) (fun W _ => by kernel_rfl)) S0 ?_
      refine held_take (i := 3) (v := .int .i64 p) (some 19) rfl rfl (by kernel_rfl) (by kernel_rfl) (by kernel_rfl) (fun _ _ _ h => h) (yieldsIf_cell (by kernel_rfl) rfl (by kernel_rfl) (fun W h => hload W ((HNX.out W h).c0))) S0 ?_
      refine held_take (i := 4) (v := .pointer (some ⟨w.heap.size, 0, none⟩)) (some 20) rfl rfl (by kernel_rfl) (by kernel_rfl) (by kernel_rfl) (fun _ _ _ h => h) (yieldsIf_run (by kernel_rfl) (fun W _ => by kernel_rfl)) S0 ?_
      refine held_take (i := 5) (v := .agg #[.int .i64 p, dv, mv]) (some 21) rfl rfl (by kernel_rfl) (by kernel_rfl) (by kernel_rfl) (fun _ _ _ h => h) (yieldsIf_cell (by kernel_rfl) rfl (by kernel_rfl) (fun W h => hloadC W (HNX.out W h).c0 (HNX.out W h).c1 (HNX.out W h).c2)) S0 ?_
      refine held_take (i := 6) (v := .int .i64 (n : Int)) (some 22) rfl rfl (by kernel_rfl) (by kernel_rfl) (by kernel_rfl) (fun _ _ _ h => h) (yieldsIf_move (by kernel_rfl) rfl (by kernel_rfl)) S0 ?_
      refine held_take (i := 8) (v := .slice (some ⟨b, o, none⟩) L.length cl) (some 24) rfl rfl (by kernel_rfl) (by kernel_rfl) (by kernel_rfl) (fun _ _ _ h => h) (yieldsIf_move (by kernel_rfl) rfl (by kernel_rfl)) S0 ?_
      refine held_take (i := 9) (v := .int .i64 (k : Int)) (some 25) rfl rfl (by kernel_rfl) (by kernel_rfl) (by kernel_rfl) (fun _ _ _ h => h) (yieldsIf_move (by kernel_rfl) rfl (by kernel_rfl)) S0 ?_
      refine held_take (i := 10) (v := .pointer (some ⟨b, o + k, none⟩)) (some 26) rfl rfl (by kernel_rfl) (by kernel_rfl) (by kernel_rfl) (fun _ _ _ h => h) (yieldsIf_index (by kernel_rfl) rfl (by kernel_rfl) (by kernel_rfl) (hidxS b o cl hlt)) S0 ?_
      refine held_take (i := 11) (v := ur) (some 27) rfl rfl (by kernel_rfl) (by kernel_rfl) (by kernel_rfl) (fun _ _ _ h => h) (yieldsIf_cell (by kernel_rfl) rfl (by kernel_rfl) (fun W h => hloadS W (HUR.out W h))) S0 ?_
      refine held_take (i := 12) (v := .pointer (some ⟨w.heap.size, 0, none⟩)) (some 28) rfl rfl (by kernel_rfl) (by kernel_rfl) (by kernel_rfl) (fun _ _ _ h => h) (yieldsIf_run (by kernel_rfl) (fun W _ => by kernel_rfl)) S0 ?_
      refine held_take (i := 13) (v := .agg #[.int .i64 p, dv, mv]) (some 29) rfl rfl (by kernel_rfl) (by kernel_rfl) (by kernel_rfl) (fun _ _ _ h => h) (yieldsIf_cell (by kernel_rfl) rfl (by kernel_rfl) (fun W h => hloadC W (HNX.out W h).c0 (HNX.out W h).c1 (HNX.out W h).c2)) S0 ?_
      refine held_take (i := 14) (v := .int .i64 (n : Int)) (some 30) rfl rfl (by kernel_rfl) (by kernel_rfl) (by kernel_rfl) (fun _ _ _ h => h) (yieldsIf_move (by kernel_rfl) rfl (by kernel_rfl)) S0 ?_
      refine held_take (i := 15) (v := .int .i64 (k0 : Int)) (some 31) rfl rfl (by kernel_rfl) (by kernel_rfl) (by kernel_rfl) (fun _ _ _ h => h) (yieldsIf_bin (by kernel_rfl) rfl (by kernel_rfl) (by kernel_rfl) (fun _ => rfl) hsub) S0 ?_
      refine held_enter (i := 7) (some 23) (f := 144) (args := #[.agg #[.int .i64 p, dv, mv], .int .i64 (n : Int)]) (by kernel_rfl) rfl rfl rfl (by kernel_rfl) (l01Map_any p (n : Int) dv mv ds ms _ (HNX.out _ S0).fi.cx HCX.out) ?_ (fun c w' h => by obtain ⟨_, h, _⟩ := h; cases h) (fun w' h => by obtain ⟨_, h, _⟩ := h; cases h)
      rw [HMZ.out]
      rintro e4 W4 ⟨u4, he4, hl4, hb4⟩
      injection he4 with he4
      subst he4
      have S1 : Below w1.heap.size w1 W4 := S0.trans (hb4.mono S0.size)
      have HL4 := Lib.hid hl4
      have HG4 := Lib.hid (HGD.out.below hb4)
      refine ⟨S1, ?_⟩
      refine held_enter (i := 16) (some 32) (f := 152) (args := #[.agg #[.int .i64 p, dv, mv], .int .i64 (k0 : Int)]) (by kernel_rfl) rfl rfl rfl (by kernel_rfl) (l01Dim_any p (k0 : Int) dv mv ds ms _ (HNX.out _ S1).fi.cx (by omega)) ?_ (fun c w' h => by cases h.1) (fun w' h => by cases h.1)
      rw [HDZ.out]
      rintro e5 W5 ⟨he5, hb5⟩
      injection he5 with he5
      subst he5
      have S2 : Below w1.heap.size w1 W5 := S1.trans (hb5.mono S1.size)
      have HL5 := Lib.hid (HL4.out.below hb5)
      have HG5 := Lib.hid (HG4.out.below hb5)
      refine ⟨S2, ?_⟩
      refine held_enter (i := 17) (some 33) (f := 167) (args := #[.int .i64 p, e4, ur, .int .i64 (c : Int)]) (by kernel_rfl) rfl rfl rfl (by kernel_rfl) (l01ApplyG_any p c ur e4 (toL d u) t W5 HAP.out.1 (HRR.out.below S2) HL5.out (by rw [toL_length]; omega) (by omega)) ?_ (fun c w' h => by obtain ⟨_, h, _⟩ := h; cases h) (fun w' h => by obtain ⟨_, h, _⟩ := h; cases h)
      rintro e6 W6 ⟨u6, he6, hg6, hb6⟩
      injection he6 with he6
      subst he6
      rw [HAP.out.2] at hg6
      have S3 : Below w1.heap.size w1 W6 := S2.trans (hb6.mono S2.size)
      have HG6 := Lib.hid (HG5.out.below hb6)
      obtain ⟨a6, c6, hv6⟩ := l1_slice hg6.l1
      subst hv6
      have HR6 := Lib.hid hg6
      refine ⟨S3, ?_⟩
      have hba : Below W6.heap.size W6 (W6.alloc (.cells #[.slice a6 c c6] 22)) := below_alloc1 _ _
      have S4 : Below w1.heap.size w1 (W6.alloc (.cells #[.slice a6 c c6] 22)) := S3.trans (hba.mono S3.size)
      refine held_buildS (i := 18) (some 34) (by kernel_rfl) rfl rfl rfl (.tmp 33) a6 c c6 rfl (by kernel_rfl) ⟨S4, ?_⟩
      refine held_appendG (i := 19) (some 35) (by kernel_rfl) rfl rfl rfl (.tmp 16) (.tmp 34) rfl w1.heap.size (.slice ao k co) _ (by kernel_rfl) (HG6.out.below hba) W6.heap.size a6 c c6 (by kernel_rfl) (cell_alloc1 W6 _ _) (toL c (dimg p d t u)) (HR6.out.below hba) (by rw [HGN.out]; omega) S4.size ?_
      intro v7 W7 hg7 hb7
      have S5 : Below w1.heap.size w1 W7 := S4.trans hb7
      have HG7 : Hid (Gs w1.heap.size W7 v7 (((L.take (k + 1)).map (dimg p d t)).map (toL c))) := Lib.hid (by rw [HTK.out]; exact hg7)
      have HB7 := Lib.hid S5
      refine ⟨S5, ?_⟩
      refine held_take (i := 20) (v := v7) (some 7) rfl rfl (by kernel_rfl) (by kernel_rfl) (by kernel_rfl) (fun _ _ _ h => h) (yieldsIf_assign (by kernel_rfl) rfl (by kernel_rfl)) S5 ?_
      refine wpAnyH_done (by kernel_rfl) ?_ _
      simp only [Act.put, List.setIfInBounds_toArray, List.set_cons_zero, List.set_cons_succ]
      clear S0 S1 S2 S3 S4 S5 hb4 hl4 hb5 hb6 hg6 hba hg7 hb7 hsub hsx2
      go_wp2
      go_roundw
      case rel => exact ⟨k + 1, by omega, by go_num, HB7, HG7⟩
      case measure => simp [intOf]; omega
    · have hkk : Hid (L.take k = L) := Lib.hid (List.take_of_length_le (by omega))
      go_wp2
      go_ret
      exact ⟨_, rfl, by have h := HG.out; rw [hkk.out] at h; exact h.mono (by have := HS01.out; omega), (HNX.out _ HB.out).below⟩

/-- Gathered rows of a table behind one another. -/
structure CatA (base : Nat) (w : World) (v : Value) (tb : List (List Int)) (xs : List Value) : Prop where
  own : w.ownsRow base 22 1 v tb.length xs
  len : xs.length = tb.length
  rows : ∀ k (h1 : k < xs.length) (h2 : k < tb.length), G1 w xs[k] tb[k]
theorem CatA.below {base : Nat} {w w' : World} {v : Value} {tb : List (List Int)} {xs : List Value} (h : CatA base w v tb xs) (hb : Below w.heap.size w w') : CatA base w' v tb xs := ⟨owns_below h.own hb, h.len, fun k h1 h2 => (h.rows k h1 h2).below hb⟩
theorem CatA.gs {base : Nat} {w : World} {v : Value} {tb : List (List Int)} {xs : List Value} (h : CatA base w v tb xs) : Gs base w v tb := ⟨xs, h.own, h.rows⟩
theorem CatA.start (w : World) (base : Nat) (hb : base ≤ w.heap.size) : CatA base (w.alloc (.cells #[] 22)) (.slice (some ⟨w.heap.size, 0, none⟩) 0 0) [] [] :=
  ⟨by simpa using World.ownsRow_made (base := base) (e := 22) (size := 1) w #[] 0 hb (by unfold maxLen; omega) (by simp), rfl, fun k h1 _ => absurd h1 (Nat.not_lt_zero _)⟩
/-- behind the append of a gathered table. -/
theorem CatA.add {base : Nat} {w w' : World} {v v' : Value} {ta tb : List (List Int)} {xs ys : List Value} (h : CatA base w v ta xs) (hb : ∀ k (h1 : k < ys.length) (h2 : k < tb.length), G1 w ys[k] tb[k]) (hl : ys.length = tb.length)
    (ho : w'.ownsRow base 22 1 v' (ta.length + tb.length) (xs ++ ys)) (hg : w.grownBy w' v.ownBlock) : CatA base w' v' (ta ++ tb) (xs ++ ys) := by
  have h1 := h.len
  refine ⟨by rw [List.length_append]; exact ho, by simp; omega, fun k hk hk2 => ?_⟩
  by_cases e : k < xs.length
  · rw [List.getElem_append_left e, List.getElem_append_left (by omega)]
    exact owns_grown (h.rows k e (by omega)) h.own (by decide) hg
  · rw [List.getElem_append_right (by omega), List.getElem_append_right (by omega)]
    have h3 : k - xs.length < ys.length := by rw [List.length_append] at hk; omega
    have : G1 w' ys[k - xs.length] (tb[k - xs.length]'(by omega)) := owns_grown (hb (k - xs.length) h3 (by omega)) h.own (by decide) hg
    simpa [h1] using this
end Go.Proofs.Ytpdkfidmmjlmnab
