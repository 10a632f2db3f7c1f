/-
  The rank between two levels of the program by contract: downTo, rankTo, rankBetween, RankBetween.
-/
import Derived.Test.YtchijefibiaphaaRbu
import Derived.Test.YtchijefibiaphaaSmt
import Derived.Test.YtchijefibiaphaaPgn
namespace Go.Proofs.Ytchijefibiaphaa
open Go.RowKit

theorem hloadV (w : World) {b o : Nat} {x : Value} (h : w.cell? ⟨b, o, none⟩ = some x) : (Instr.loadAt 174 (.pointer (some ⟨b, o, none⟩))).run Try.prog w = .ok x w := by go_simp

theorem hsubZ {a b : Int} (h0 : -1000 ≤ a - b) (h1 : a - b ≤ 1000) (w : World) : (binOp .sub 3 (.int .i64 a) (.int .i64 b)).run Try.prog w = .ok (.int .i64 (a - b)) w := by
  have hw : IntKind.i64.wrap (a - b) = a - b := IntWalk.i64_in _ (by omega)
  go_simp
/-- The level of a node. -/
def lvOf (w : World) (v : Value) : Nat := match v with
  | .pointer (some a) => match w.cell? a with
    | some (.int _ n) => (n + 1).toNat
    | _ => 0
  | _ => 0
set_option maxHeartbeats 3200000 in
set_option maxRecDepth 100000 in
theorem downTo_any (p : Int) (k q m0 : Nat) (v : Value) (ds : List Int) (ms : List (List (List Int))) (ls : List (List Int)) (w : World) (h : Nd p ds ms ls k m0 w v) (hq : q < m0) (hm0 : m0 ≤ 10) :
    Calls Try.prog 126 #[v, .int .i64 (q : Int)] w (NdR p ds ms ls k (q + 1) w) := by
  have HN := Lib.hid h
  have HB : Hid (Below w.heap.size w w) := Lib.hid (Below.refl _ _)
  clear h
  go_enter Try.func126, Try.ntmps126
  go_wp2_with fail
  go_loopw [0] (fun nv wr => ∃ (m : Nat), q < m ∧ m ≤ m0 ∧ Hid (Below w.heap.size w wr) ∧ Hid (Nd p ds ms ls k m wr nv) ∧ Hid (∃ g, nv = .pointer (some ⟨g, 0, none⟩) ∧ wr.cell? ⟨g, 0, none⟩ = some (.int .i64 ((m : Int) - 1)))) (fun nv wr => lvOf wr nv)
  case atStart => exact ⟨m0, hq, Nat.le_refl _, HB, HN, Lib.hid (by obtain ⟨j, rfl⟩ : ∃ j, m0 = j + 1 := ⟨m0 - 1, by omega⟩; obtain ⟨g, _, _, _, _, _, hv, h0, _⟩ := HN.out; exact ⟨g, hv, by rw [h0]; congr 2; omega⟩)⟩
  case round =>
    clear HN HB
    obtain ⟨m, hqm, hm, HB, HN, HG⟩ := hrel
    obtain ⟨wx, hwx⟩ : ∃ wx : World, wx = wr := ⟨_, rfl⟩
    subst hwx
    obtain ⟨j, rfl⟩ : ∃ j, m = j + 1 := ⟨m - 1, by omega⟩
    obtain ⟨g, cv, bv, bl, A, B, hv, h0, h1, h2, h3, ha, hb, hz, hbd, hn⟩ := HN.out
    subst hv
    by_cases hlt : q < j
    · have hjl : (q : Int) < (j : Int) := by omega
      have HN2 := Lib.hid hn
      have HG2 : Hid (∃ g, bl = .pointer (some ⟨g, 0, none⟩) ∧ wx.cell? ⟨g, 0, none⟩ = some (.int .i64 ((j : Int) - 1))) := Lib.hid (by obtain ⟨i, rfl⟩ : ∃ i, j = i + 1 := ⟨j - 1, by omega⟩; obtain ⟨g, _, _, _, _, _, hv, h0, _⟩ := hn; exact ⟨g, hv, by rw [h0]; congr 2; omega⟩)
      clear ha hb hz hbd hn h1 h2 HN
      obtain ⟨g2, hbl, h02⟩ := HG2.out
      subst hbl
      go_wp2
      go_roundw
      case rel => exact ⟨j, hlt, by omega, HB, HN2, HG2⟩
      case measure => simp only [lvOf, h0, h02]; omega
    · have hjl : ¬ (q : Int) < (j : Int) := by omega
      have HE : Hid (j = q) := Lib.hid (by omega)
      clear ha hb hz hbd hn h1 h2 h3
      go_wp2
      go_ret
      exact ⟨_, rfl, by rw [← HE.out]; exact HN.out, HB.out⟩

set_option maxHeartbeats 3200000 in
set_option maxRecDepth 100000 in
theorem rankTo_any (p : Int) (k q s : Nat) (v u : Value) (ds : List Int) (ms : List (List (List Int))) (ls : List (List Int)) (w : World) (hf : IsFil p ds ms ls) (h : Nd p ds ms ls k (q + 1) w v) (hu : Nd p ds ms ls k (s + 1) w u) :
    Calls Try.prog 127 #[v, .int .i64 p, u] w (IntR (RkBet p ds ms ls k (q : Int) (s : Int)) w) := by
  have hp1 := hf.1.1.prime.lo1
  have HF := Lib.hid hf
  have hd8 := (dimN_le8 hf.1 k).1
  obtain ⟨g, cv, _, _, C, _, hv, _, h1, _, _, ha, _, hz, _, _⟩ := h
  obtain ⟨f, _, bv, _, _, B, hw, _, _, h2, _, _, hb, _, hbd, _⟩ := hu
  have hcl := hz.short
  have hbl := hbd.short
  subst hv hw
  obtain ⟨a1, b1, hv1⟩ := ha.shape
  obtain ⟨a2, b2, hv2⟩ := hb.shape
  subst hv1 hv2
  have HC1 := Lib.hid h1
  have HC2 := Lib.hid h2
  have HZ := Lib.hid hz
  have HBD := Lib.hid hbd
  have HSS : Hid (∀ W, Below w.heap.size w W → Calls Try.prog 158 #[.int .i64 p, .slice a1 C.length b1, .slice a2 B.length b2] W (VsR (fun R => RedOf p R (C ++ B) ∧ R.length ≤ (C ++ B).length) W)) := Lib.hid (fun W hW =>
    sumSpace_any p (.slice a1 C.length b1) (.slice a2 B.length b2) C B W HF.out.1.1.prime (ha.below hW) (hb.below hW) (fun u hu => (List.mem_append.1 hu).elim (HZ.out.1.md u) (HBD.out.1.md u)) (fun u hu => wd_wider ((List.mem_append.1 hu).elim (HZ.out.2.1 u) (HBD.out.2.1 u)) (by omega)) (by rw [List.length_append]; omega))
  have HSB : Hid (∀ E : List Lin.V, E.length ≤ C.length + B.length → ∀ w, (binOp .sub 3 (.int .i64 (E.length : Int)) (.int .i64 (B.length : Int))).run Try.prog w = .ok (.int .i64 ((E.length : Int) - (B.length : Int))) w) := Lib.hid (fun E hE w => hsubZ (by omega) (by omega) w)
  clear ha hb hz hbd h1 h2 hf
  go_enter Try.func127, Try.ntmps127
  go_wp2_with fail
  refine wp_region_held (S := fun W => Below w.heap.size w W) (by kernel_rfl) ?_
  have S0 : Below w.heap.size w w.drew := (Below.refl _ _).drew
  refine held_take (i := 0) (v := (.int .i64 p)) (some 7) rfl rfl (by kernel_rfl) (by kernel_rfl) (by kernel_rfl) (fun _ _ _ h => h) (yieldsIf_move (by kernel_rfl) rfl (by kernel_rfl)) S0 ?_
  refine held_take (i := 1) (v := (.pointer (some ⟨g, 0, none⟩))) (some 8) rfl rfl (by kernel_rfl) (by kernel_rfl) (by kernel_rfl) (fun _ _ _ h => h) (yieldsIf_move (by kernel_rfl) rfl (by kernel_rfl)) S0 ?_
  refine held_take (i := 2) (v := (.pointer (some ⟨g, 0, none⟩))) (some 9) rfl rfl (by kernel_rfl) (by kernel_rfl) (by kernel_rfl) (fun _ _ _ h => h) (yieldsIf_run (by kernel_rfl) (fun W _ => by kernel_rfl)) S0 ?_
  refine held_take (i := 3) (v := (.pointer (some ⟨g, 1, none⟩))) (some 10) rfl rfl (by kernel_rfl) (by kernel_rfl) (by kernel_rfl) (fun _ _ _ h => h) (yieldsIf_run (by kernel_rfl) (fun W _ => by kernel_rfl)) S0 ?_
  refine held_take (i := 4) (v := (.slice a1 C.length b1)) (some 11) rfl rfl (by kernel_rfl) (by kernel_rfl) (by kernel_rfl) (fun _ _ _ h => h) (yieldsIf_cell (by kernel_rfl) rfl (by kernel_rfl) (fun W h => hloadV W (later h (Nat.le_refl _) HC1.out))) S0 ?_
  refine held_take (i := 5) (v := (.pointer (some ⟨f, 0, none⟩))) (some 12) rfl rfl (by kernel_rfl) (by kernel_rfl) (by kernel_rfl) (fun _ _ _ h => h) (yieldsIf_move (by kernel_rfl) rfl (by kernel_rfl)) S0 ?_
  refine held_take (i := 6) (v := (.pointer (some ⟨f, 0, none⟩))) (some 13) rfl rfl (by kernel_rfl) (by kernel_rfl) (by kernel_rfl) (fun _ _ _ h => h) (yieldsIf_run (by kernel_rfl) (fun W _ => by kernel_rfl)) S0 ?_
  refine held_take (i := 7) (v := (.pointer (some ⟨f, 2, none⟩))) (some 14) rfl rfl (by kernel_rfl) (by kernel_rfl) (by kernel_rfl) (fun _ _ _ h => h) (yieldsIf_run (by kernel_rfl) (fun W _ => by kernel_rfl)) S0 ?_
  refine held_take (i := 8) (v := (.slice a2 B.length b2)) (some 15) rfl rfl (by kernel_rfl) (by kernel_rfl) (by kernel_rfl) (fun _ _ _ h => h) (yieldsIf_cell (by kernel_rfl) rfl (by kernel_rfl) (fun W h => hloadV W (later h (Nat.le_refl _) HC2.out))) S0 ?_
  refine held_take (i := 11) (v := (.pointer (some ⟨f, 0, none⟩))) (some 18) rfl rfl (by kernel_rfl) (by kernel_rfl) (by kernel_rfl) (fun _ _ _ h => h) (yieldsIf_move (by kernel_rfl) rfl (by kernel_rfl)) S0 ?_
  refine held_take (i := 12) (v := (.pointer (some ⟨f, 0, none⟩))) (some 19) rfl rfl (by kernel_rfl) (by kernel_rfl) (by kernel_rfl) (fun _ _ _ h => h) (yieldsIf_run (by kernel_rfl) (fun W _ => by kernel_rfl)) S0 ?_
  refine held_take (i := 13) (v := (.pointer (some ⟨f, 2, none⟩))) (some 20) rfl rfl (by kernel_rfl) (by kernel_rfl) (by kernel_rfl) (fun _ _ _ h => h) (yieldsIf_run (by kernel_rfl) (fun W _ => by kernel_rfl)) S0 ?_
  refine held_take (i := 14) (v := (.slice a2 B.length b2)) (some 21) rfl rfl (by kernel_rfl) (by kernel_rfl) (by kernel_rfl) (fun _ _ _ h => h) (yieldsIf_cell (by kernel_rfl) rfl (by kernel_rfl) (fun W h => hloadV W (later h (Nat.le_refl _) HC2.out))) S0 ?_
  refine held_take (i := 15) (v := (.int .i64 (B.length : Int))) (some 22) rfl rfl (by kernel_rfl) (by kernel_rfl) (by kernel_rfl) (fun _ _ _ h => h) (yieldsIf_run (by kernel_rfl) (fun W _ => by kernel_rfl)) S0 ?_
  refine held_enter (i := 9) (some 16) (f := 158) (args := #[.int .i64 p, .slice a1 C.length b1, .slice a2 B.length b2]) (by kernel_rfl) rfl rfl rfl (by kernel_rfl) (HSS.out _ S0) ?_ (fun c w' h => by obtain ⟨_, _, h, _⟩ := h; cases h) (fun w' h => by obtain ⟨_, _, h, _⟩ := h; cases h)
  rintro e4 W4 ⟨s4, E, he4, hb4, ho4, hr4, hel⟩
  injection he4 with he4
  subst he4
  have S1 : Below w.heap.size w W4 := S0.trans (hb4.mono S0.size)
  obtain ⟨a4, c4, hv4⟩ := ho4.shape
  subst hv4
  have HR4 := Lib.hid hr4
  rw [List.length_append] at hel
  refine ⟨S1, ?_⟩
  refine held_take (i := 10) (v := (.int .i64 (E.length : Int))) (some 17) rfl rfl (by kernel_rfl) (by kernel_rfl) (by kernel_rfl) (fun _ _ _ h => h) (yieldsIf_run (by kernel_rfl) (fun W _ => by kernel_rfl)) S1 ?_
  refine held_take (i := 16) (v := (.int .i64 ((E.length : Int) - (B.length : Int)))) (some 23) rfl rfl (by kernel_rfl) (by kernel_rfl) (by kernel_rfl) (fun _ _ _ h => h) (yieldsIf_bin (by kernel_rfl) rfl (by kernel_rfl) (by kernel_rfl) (fun _ => rfl) (HSB.out E hel)) S1 ?_
  refine held_take (i := 17) (v := (.int .i64 ((E.length : Int) - (B.length : Int)))) (some 6) rfl rfl (by kernel_rfl) (by kernel_rfl) (by kernel_rfl) (fun _ _ _ h => h) (yieldsIf_assign (by kernel_rfl) rfl (by kernel_rfl)) S1 ?_
  refine wpAnyH_done (by kernel_rfl) ?_ _
  simp only [Act.put, List.setIfInBounds_toArray, List.set_cons_zero, List.set_cons_succ]
  have HB4 := Lib.hid S1
  clear S0 S1 hb4 ho4 hr4
  go_wp2
  go_ret
  exact ⟨(E.length : Int) - (B.length : Int), rfl, HB4.out, C, B, E, HZ.out, HBD.out, ⟨HR4.out.red, fun u hu => Lin.Sp.wd (fun x hx => (List.mem_append.1 hx).elim (HZ.out.2.1 x) (HBD.out.2.1 x)) ((HR4.out.eqv u).1 (Lin.Sp.mem hu (HR4.out.red.md u hu))), HR4.out.eqv⟩, rfl⟩

set_option maxHeartbeats 3200000 in
set_option maxRecDepth 100000 in
theorem rankBetween_any (p : Int) (k q s : Nat) (dv mv lv : Value) (ds : List Int) (ms : List (List (List Int))) (ls : List (List Int)) (w : World) (h : Fi 0 w dv mv lv ds ms ls) (hf : IsFil p ds ms ls) (hk : k < ds.length) (hq : q ≤ s) (hs : s ≤ 5) :
    Calls Try.prog 87 #[.agg #[.int .i64 p, dv, mv, lv], .int .i64 (k : Int), .int .i64 (q : Int), .int .i64 (s : Int)] w (IntR (RkBet p ds ms ls k (q : Int) (s : Int)) w) := by
  have HF := Lib.hid hf
  obtain ⟨w1, hw1⟩ : ∃ w1, w1 = w.alloc (.cells #[.int .i64 p, dv, mv, lv] 67) := ⟨_, rfl⟩
  have HX0 : Hid (Fx w w1 w.heap.size p dv mv lv ds ms ls) := Lib.hid (by rw [hw1]; exact Fx.start _ h)
  have HNX : Hid (∀ W, Below w1.heap.size w1 W → Fx w W w.heap.size p dv mv lv ds ms ls) := Lib.hid (fun W hb => HX0.out.next hb)
  have HLU := Lib.hid (levelsUpTo_any p k s dv mv lv ds ms ls w1 HX0.out.fi hf hk hs)
  have c0 := HX0.out.c0
  have c1 := HX0.out.c1
  have c2 := HX0.out.c2
  have c3 := HX0.out.c3
  clear h hf
  go_enter Try.func87, Try.ntmps87
  rw [hw1] at c0 c1 c2 c3
  go_wp2_with fail
  rw [← hw1]
  clear hw1 c0 c1 c2 c3
  refine HLU.out.mono ?_
  rintro e w2 ⟨v2, rfl, hn2, hb2⟩
  have HB2 := Lib.hid hb2
  have HN2D := Lib.hid (hn2.below (Below.refl _ _).drew)
  clear hn2 hb2 HLU
  go_wp2_with fail
  refine wp_region_held (S := fun W => Below w1.heap.size w1 W) (by kernel_rfl) ?_
  have S0 : Below w1.heap.size w1 w2.drew := HB2.out.drew
  refine held_take (i := 0) (v := v2) (some 14) rfl rfl (by kernel_rfl) (by kernel_rfl) (by kernel_rfl) (fun _ _ _ h => h) (yieldsIf_move (by kernel_rfl) rfl (by kernel_rfl)) S0 ?_
  refine held_take (i := 1) (v := (.int .i64 (q : Int))) (some 15) rfl rfl (by kernel_rfl) (by kernel_rfl) (by kernel_rfl) (fun _ _ _ h => h) (yieldsIf_move (by kernel_rfl) rfl (by kernel_rfl)) S0 ?_
  refine held_take (i := 3) (v := (.pointer (some ⟨w.heap.size, 0, none⟩))) (some 17) rfl rfl (by kernel_rfl) (by kernel_rfl) (by kernel_rfl) (fun _ _ _ h => h) (yieldsIf_run (by kernel_rfl) (fun W _ => by kernel_rfl)) S0 ?_
  refine held_take (i := 4) (v := (.pointer (some ⟨w.heap.size, 0, none⟩))) (some 18) rfl rfl (by kernel_rfl) (by kernel_rfl) (by kernel_rfl) (fun _ _ _ h => h) (yieldsIf_run (by kernel_rfl) (fun W _ => by kernel_rfl)) S0 ?_
  refine held_take (i := 5) (v := (.int .i64 p)) (some 19) rfl rfl (by kernel_rfl) (by kernel_rfl) (by kernel_rfl) (fun _ _ _ h => h) (yieldsIf_cell (by kernel_rfl) rfl (by kernel_rfl) (fun W h => hload W (HNX.out W h).c0)) S0 ?_
  refine held_take (i := 6) (v := v2) (some 20) rfl rfl (by kernel_rfl) (by kernel_rfl) (by kernel_rfl) (fun _ _ _ h => h) (yieldsIf_move (by kernel_rfl) rfl (by kernel_rfl)) S0 ?_
  refine held_enter (i := 2) (some 16) (f := 126) (args := #[v2, .int .i64 (q : Int)]) (by kernel_rfl) rfl rfl rfl (by kernel_rfl) (downTo_any p k q (s + 1) v2 ds ms ls _ HN2D.out (by omega) (by omega)) ?_ (fun c w' h => by obtain ⟨_, h, _⟩ := h; cases h) (fun w' h => by obtain ⟨_, h, _⟩ := h; cases h)
  rintro e3 W3 ⟨v3, he3, hn3, hb3⟩
  injection he3 with he3
  subst he3
  have S1 : Below w1.heap.size w1 W3 := S0.trans (hb3.mono S0.size)
  have HN3 := Lib.hid hn3
  have HN23 := Lib.hid (HN2D.out.below hb3)
  refine ⟨S1, ?_⟩
  refine held_enter (i := 7) (some 21) (f := 127) (args := #[e3, .int .i64 p, v2]) (by kernel_rfl) rfl rfl rfl (by kernel_rfl) (rankTo_any p k q s e3 v2 ds ms ls _ HF.out HN3.out HN23.out) ?_ (fun c w' h => by obtain ⟨_, h, _⟩ := h; cases h) (fun w' h => by obtain ⟨_, h, _⟩ := h; cases h)
  rintro e4 W4 ⟨x4, he4, hb4, hx4⟩
  injection he4 with he4
  subst he4
  have S2 : Below w1.heap.size w1 W4 := S1.trans (hb4.mono S1.size)
  have HX4 := Lib.hid hx4
  refine ⟨S2, ?_⟩
  refine held_take (i := 8) (v := (.int .i64 x4)) (some 8) rfl rfl (by kernel_rfl) (by kernel_rfl) (by kernel_rfl) (fun _ _ _ h => h) (yieldsIf_assign (by kernel_rfl) rfl (by kernel_rfl)) S2 ?_
  refine wpAnyH_done (by kernel_rfl) ?_ _
  simp only [Act.put, List.setIfInBounds_toArray, List.set_cons_zero, List.set_cons_succ]
  have HB4 := Lib.hid (HNX.out _ S2).below
  clear S0 S1 S2 hb3 hb4 hn3 hx4
  go_wp2
  go_ret
  exact ⟨x4, rfl, HB4.out, HX4.out⟩
end Go.Proofs.Ytchijefibiaphaa
