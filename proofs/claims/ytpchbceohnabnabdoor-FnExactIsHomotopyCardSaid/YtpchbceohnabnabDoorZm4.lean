/-
  Texts that ProofHml needs, part 4.
-/
import Derived.Test.YtpchbceohnabnabDoorZm3
import Derived.BigRegion
import Derived.Deep.Cut
import Derived.Deep.CutRange
import Derived.BigQuiet
import Derived.Deep.QuietTactic
import Derived.Laws.EntriesVeiled
import Derived.Defers
import Derived.Recover
import Derived.Test.YtpchbceohnabnabDoorChecked
import Derived.Outline
import Derived.Deep.RegionHeld3
import Derived.Maps.AppendAt
namespace Go.Proofs.YtpchbceohnabnabDoor
open Go.RowKit

/-- Nothing that was there has changed, but the block b. -/
structure But (b : Nat) (w w' : World) : Prop where
  os : w'.os = w.os
  tape : w'.tape = w.tape
  output : w'.output = w.output
  size : w.heap.size ≤ w'.heap.size
  block : ∀ k, k < w.heap.size → k ≠ b → w'.heap[k]? = w.heap[k]?
theorem But.refl (b : Nat) (w : World) : But b w w := ⟨rfl, rfl, rfl, Nat.le_refl _, fun _ _ _ => rfl⟩
theorem But.trans {b : Nat} {x y z : World} (h : But b x y) (k : But b y z) : But b x z :=
  ⟨k.os.trans h.os, k.tape.trans h.tape, k.output.trans h.output, Nat.le_trans h.size k.size, fun i hi hb => (k.block i (Nat.lt_of_lt_of_le hi h.size) hb).trans (h.block i hi hb)⟩
theorem But.of_below {b : Nat} {w w' : World} (h : Below w.heap.size w w') : But b w w' := ⟨h.os, h.tape, h.output, h.size, fun k hk _ => h.block k hk⟩
theorem But.set {b : Nat} (w : World) (i : Nat) (v : Value) : But b w (w.setCell ⟨b, i, none⟩ v) :=
  ⟨rfl, rfl, rfl, by simp, fun k _ hb => Below.heap_setCell w ⟨b, i, none⟩ v k hb⟩
theorem But.drew {b : Nat} {w w' : World} (h : But b w w') : But b w w'.drew := ⟨h.os, (Below.refl 0 w').drew.tape.trans h.tape, h.output, h.size, h.block⟩
theorem But.below {b B : Nat} {w w' : World} (h : But b w w') (hB : B ≤ w.heap.size) (hb : B ≤ b) : Below B w w' := ⟨h.os, h.tape, h.output, h.size, fun k hk => h.block k (by omega) (by omega)⟩

theorem But.cell {b : Nat} {w w' : World} (h : But b w w') {k o : Nat} (hk : k < w.heap.size) (hb : k ≠ b) : w'.cell? ⟨k, o, none⟩ = w.cell? ⟨k, o, none⟩ := World.cell?_of_block (w := w) (h.block k hk hb)

/-- The map with the graded g leads the element (x, us) to (y, vs), in all worlds that hold what w holds. -/
def Led (w : World) (g : Value) (x : Int) (us : List Int) (y : Int) (vs : List Int) : Prop :=
  ∀ W vv, Below w.heap.size w W → L1 0 W vv us → Calls Tryd.prog 66 #[g, .agg #[.int .i64 x, vv]] W (LeadR y vs W)
inductive Chain (w : World) : List Value → Int → List Int → Int → List Int → Prop
  | nil (x : Int) (us : List Int) : Chain w [] x us x us
  | cons {g : Value} {gs : List Value} {x y z : Int} {us vs ts : List Int} : Led w g x us y vs → Chain w gs y vs z ts → Chain w (g :: gs) x us z ts

/-- A path's list of maps, read in w. -/
def MapsAt (w : World) (v : Value) (gs : List Value) : Prop := ∃ b o c, v = .slice (some ⟨b, o, none⟩) gs.length c ∧ ∀ k (h : k < gs.length), w.cell? ⟨b, o + k, none⟩ = some (.func (.func 66) #[gs[k]] #[])

/-- A number of a row with a factor's share of another one. -/
def addMod (p f a x : Int) : Int := (a + f * x) % p

theorem chain_cons {w : World} {gs : List Value} {x z : Int} {us ts : List Int} {k : Nat} (h : Chain w (gs.drop k) x us z ts) (hk : k < gs.length) : ∃ y vs, Led w gs[k] x us y vs ∧ Chain w (gs.drop (k + 1)) y vs z ts := by
  rw [List.drop_eq_getElem_cons hk] at h
  cases h with
  | cons h1 h2 => exact ⟨_, _, h1, h2⟩
theorem chain_end {w : World} {gs : List Value} {x z : Int} {us ts : List Int} {k : Nat} (h : Chain w (gs.drop k) x us z ts) (hk : ¬ k < gs.length) : us = ts := by
  rw [List.drop_eq_nil_of_le (Nat.le_of_not_lt hk)] at h
  cases h with
  | nil => rfl
/-- The path's box at block S, the element's box behind it. -/
structure ElB (W : World) (S : Nat) (f : Int) (mv : Value) (x : Int) (uv : Value) (us : List Int) : Prop where
  a0 : W.cell? ⟨S, 0, none⟩ = some (.int .i64 f)
  a1 : W.cell? ⟨S, 1, none⟩ = some mv
  c0 : W.cell? ⟨S + 1, 0, none⟩ = some (.int .i64 x)
  c1 : W.cell? ⟨S + 1, 1, none⟩ = some uv
  th : W.there (S + 1) 0 2
  l : L1 0 W uv us
theorem ElB.lt {W : World} {S : Nat} {f : Int} {mv : Value} {x : Int} {uv : Value} {us : List Int} (h : ElB W S f mv x uv us) : S + 1 < W.heap.size := cell_lt h.c0
theorem ElB.step {W W' : World} {S : Nat} {f : Int} {mv : Value} {x : Int} {uv : Value} {us : List Int} (h : ElB W S f mv x uv us) (hb : Below W.heap.size W W') {x2 : Int} {u2 : Value} {vs : List Int} (hu : W1 W.heap.size W'.heap.size W' u2 vs) :
    ElB ((W'.setCell ⟨S + 1, 0, none⟩ (.int .i64 x2)).setCell ⟨S + 1, 1, none⟩ u2) S f mv x2 u2 vs := by
  have hl := h.lt
  have d0 := later hb (Nat.le_refl _) h.c0
  have d1 := later hb (Nat.le_refl _) h.c1
  refine ⟨?_, ?_, ?_, ?_, there_set (there_set (there_below h.th hb hl) _ _) _ _, ?_⟩
  · rw [World.cell?_setCell_other _ _ _ _ (by simp), World.cell?_setCell_other _ _ _ _ (by simp)]
    exact later hb (Nat.le_refl _) h.a0
  · rw [World.cell?_setCell_other _ _ _ _ (by simp), World.cell?_setCell_other _ _ _ _ (by simp)]
    exact later hb (Nat.le_refl _) h.a1
  · rw [World.cell?_setCell_other _ _ _ _ (by simp)]
    exact World.cell?_setCell_same _ _ _ d0
  · exact World.cell?_setCell_same _ _ _ (by rw [World.cell?_setCell_other _ _ _ _ (by simp)]; exact d1)
  · exact (stable1 W.heap.size _ _ _ _ ((Keep.set _ hl).trans (Keep.set _ hl)) hu.l1).lower (Nat.zero_le _)
theorem ElB.step1 {W W' : World} {S : Nat} {f : Int} {mv : Value} {x : Int} {uv : Value} {us : List Int} (h : ElB W S f mv x uv us) {x2 : Int} {u2 : Value} {vs : List Int} (hu : W1 W.heap.size W'.heap.size W' u2 vs) :
    L1 S ((W'.setCell ⟨S + 1, 0, none⟩ (.int .i64 x2)).setCell ⟨S + 1, 1, none⟩ u2) u2 vs := by
  have hl := h.lt
  exact (stable1 W.heap.size _ _ _ _ ((Keep.set _ hl).trans (Keep.set _ hl)) hu.l1).lower (by omega)

def AddR (b c : Nat) (Z : Nat → Int) (w : World) (e : Ending) (w' : World) : Prop := e = .returned (.tuple #[]) ∧ But b w w' ∧ w'.rowIs b 2 c (fun i => .int .i64 (Z i))

set_option maxHeartbeats 3200000 in
set_option maxRecDepth 100000 in
theorem addTo_any (p f x z : Int) (b c : Nat) (Z : Nat → Int) (us ts : List Int) (gs : List Value) (mv uv : Value) (w0 w : World) (hB : Below w0.heap.size w0 w) (hr : w.rowIs b 2 c (fun i => .int .i64 (Z i)))
    (hmv : MapsAt w0 mv gs) (hgl : 0 < gs.length ∧ gs.length ≤ 1048576) (hu : L1 0 w uv us) (hch : Chain w0 gs x us z ts) (hp : 0 < p ∧ p ≤ 7) (hf : 0 ≤ f ∧ f ≤ 6) (hZ : ∀ i, i < c → 0 ≤ Z i ∧ Z i ≤ 6) (ht : ts.length = c) (htn : ∀ y ∈ ts, 0 ≤ y ∧ y ≤ 6) (hc : c ≤ 1048576) :
    Calls Tryd.prog 92 #[.agg #[.int .i64 f, mv], .int .i64 p, .slice (some ⟨b, 0, none⟩) c c, .agg #[.int .i64 x, uv]] w (AddR b c (fun i => addMod p f (Z i) (ts.getD i 0)) w) := by
  obtain ⟨bm, om, cm, rfl, hcl⟩ := hmv
  obtain ⟨au, cu, rfl⟩ := Sl.shape hu
  have hbl : b < w.heap.size := hr.lt
  obtain ⟨hgl0, hgl1⟩ := hgl
  obtain ⟨w1, hw1⟩ : ∃ w1, w1 = ((w.alloc (.cells #[.int .i64 f, .slice (some ⟨bm, om, none⟩) gs.length cm] 73)).alloc (.cells #[.int .i64 x, .slice au us.length cu] 96)) := ⟨_, rfl⟩
  have hb01 : Below w.heap.size w w1 := by rw [hw1]; exact ((Below.refl _ _).alloc (Nat.le_refl _) _).alloc (by simp) _
  have hs1 : w1.heap.size = w.heap.size + 2 := by rw [hw1]; simp
  have a0 : w1.cell? ⟨w.heap.size, 0, none⟩ = some (.int .i64 f) := by rw [hw1]; simp
  have a1 : w1.cell? ⟨w.heap.size, 1, none⟩ = some (.slice (some ⟨bm, om, none⟩) gs.length cm) := by rw [hw1]; simp
  have e0 : w1.cell? ⟨w.heap.size + 1, 0, none⟩ = some (.int .i64 x) := by rw [hw1]; simp
  have e1 : w1.cell? ⟨w.heap.size + 1, 1, none⟩ = some (.slice au us.length cu) := by rw [hw1]; simp
  have HB0 := Lib.hid hB
  have HR0 := Lib.hid hr
  have HB1 : Hid (Below w0.heap.size w0 w1) := Lib.hid (hB.trans (hb01.mono hB.size))
  have HR1 : Hid (w1.rowIs b 2 c (fun i => .int .i64 (Z i))) := Lib.hid (hr.of_block (hb01.block _ hbl))
  have HU1 := Lib.hid (hu.below hb01)
  have HTH1 : Hid (w1.there (w.heap.size + 1) 0 2) := Lib.hid (by rw [hw1]; have := there_new (w.alloc (.cells #[.int .i64 f, .slice (some ⟨bm, om, none⟩) gs.length cm] 73)) #[.int .i64 x, .slice au us.length cu] 96 (n := 2) (by simp); simpa using this)
  have HB01 := Lib.hid hb01
  have HBT : Hid (But b w w1) := Lib.hid (But.of_below hb01)
  have hi1 : w0.heap.size ≤ w.heap.size := hB.size
  obtain ⟨hp0, hp1⟩ := hp
  obtain ⟨hf0, hf1⟩ := hf
  have HCL := Lib.hid hcl
  have HCH := Lib.hid hch
  have HTN := Lib.hid htn
  have HZ := Lib.hid hZ
  have HRES : Hid (Tryd.f92.results = #[]) := Lib.hid (by kernel_rfl)
  have HIE : Hid ((Tryd.prog.info? 96).map (·.size) = some 2) := Lib.hid (by kernel_rfl)
  clear hr hu hB hcl hch htn hZ
  go_enter Tryd.func92, Tryd.ntmps92
  go_upto_region 1 with fail
  rw [← hw1]
  clear hw1 hb01
  go_wp2
  have th1 : w1.there (w.heap.size + 1) 0 2 := HTH1.out
  obtain ⟨S, hS⟩ : ∃ S, S = w.heap.size := ⟨_, rfl⟩
  have HBW : Hid (Below S w w1) := Lib.hid (by rw [hS]; exact HB01.out)
  rw [← hS] at a0 a1 e0 e1 th1 hbl hs1 hi1
  have HSE := Lib.hid hS
  rw [← hS]
  clear hS HTH1
  have HST : Hid (ElB w1 S f (.slice (some ⟨bm, om, none⟩) gs.length cm) x (.slice au us.length cu) us) := Lib.hid ⟨a0, a1, e0, e1, th1, HU1.out⟩
  clear a0 a1 e0 e1 th1
  go_loopw [15] (fun i wr => ∃ (k : Nat) (y : Int) (vs : List Int) (uw : Value), k ≤ gs.length ∧ i = .int .i64 k ∧ Hid (Below S w wr) ∧ Hid (w1.heap.size ≤ wr.heap.size) ∧ Hid (ElB wr S f (.slice (some ⟨bm, om, none⟩) gs.length cm) y uw vs) ∧ Hid (Chain w0 (gs.drop k) y vs z ts) ∧ Hid (0 < k → L1 S wr uw vs)) (fun i _ => gs.length - (intOf i).toNat)
  case atStart => exact ⟨0, x, us, _, Nat.zero_le _, rfl, HBW, Lib.hid (Nat.le_refl _), HST, Lib.hid (by rw [List.drop_zero]; exact HCH.out), Lib.hid (fun h => absurd h (Nat.lt_irrefl _))⟩
  case round =>
    obtain ⟨k, y, vs, uw, hk, rfl, HB, HSZ, HE, HC, HLL⟩ := hrel
    obtain ⟨wx, hwx⟩ : ∃ wx : World, wx = wr := ⟨_, rfl⟩
    subst hwx
    have e0 := HE.out.c0
    have e1 := HE.out.c1
    have hsz := HSZ.out
    by_cases hlt : k < gs.length
    · obtain ⟨y2, vs2, hled, hch2⟩ := chain_cons HC.out hlt
      have HCH2 := Lib.hid hch2
      have hcell : wx.cell? ⟨bm, om + k, none⟩ = some (.func (.func 66) #[gs[k]] #[]) := by
        have h0 := HCL.out k hlt
        exact later (HB0.out.trans (HB.out.mono hi1)) (Nat.le_refl _) h0
      have HLD := Lib.hid (hled wx uw (HB0.out.trans (HB.out.mono hi1)) HE.out.l)
      obtain ⟨g, hg⟩ : ∃ g, g = gs[k] := ⟨_, rfl⟩
      rw [← hg] at hcell HLD
      have hkl : (k : Int) < (gs.length : Int) := by omega
      clear hg hled hch2
      go_wp2_with fail
      refine HLD.out.mono ?_
      rintro e w4 ⟨u4, rfl, hw4, hb4⟩
      obtain ⟨au4, cu4, hus4⟩ := Sl.shape hw4.l1
      subst hus4
      have HL4 : Hid (0 < k + 1 → L1 S ((w4.setCell ⟨S + 1, 0, none⟩ (.int .i64 y2)).setCell ⟨S + 1, 1, none⟩ (.slice au4 vs2.length cu4)) (.slice au4 vs2.length cu4) vs2) := Lib.hid (fun _ => HE.out.step1 hw4)
      have HE4 := Lib.hid (HE.out.step hb4 (x2 := y2) hw4)
      have hth : w4.there (S + 1) 0 2 := there_below HE.out.th hb4 HE.out.lt
      have d0 := later hb4 (Nat.le_refl _) e0
      have d1 := later hb4 (Nat.le_refl _) e1
      have x0 := hth 0 (by omega)
      have x1 := hth 1 (by omega)
      have HB4 : Hid (Below S w ((w4.setCell ⟨S + 1, 0, none⟩ (.int .i64 y2)).setCell ⟨S + 1, 1, none⟩ (.slice au4 vs2.length cu4))) := Lib.hid (((HB.out.trans (hb4.mono (Nat.le_trans (by rw [HSE.out]; exact HB.out.size) (Nat.le_refl _)))).setCell (by show S ≤ S + 1; omega) _).setCell (by show S ≤ S + 1; omega) _)
      have HS4 : Hid (w1.heap.size ≤ ((w4.setCell ⟨S + 1, 0, none⟩ (.int .i64 y2)).setCell ⟨S + 1, 1, none⟩ (.slice au4 vs2.length cu4)).heap.size) := Lib.hid (by simpa using Nat.le_trans HSZ.out hb4.size)
      clear e0 e1 hcell hw4 hb4 HLD
      go_wp2
      go_roundw
      case rel => exact ⟨k + 1, y2, vs2, _, by omega, by go_num, HB4, HS4, HE4, HCH2, HL4⟩
      case measure => simp [intOf]; omega
    · have hke : k = gs.length := by omega
      have hts := chain_end HC.out hlt
      subst hts
      have hl := HLL.out (by omega)
      obtain ⟨auw, cuw, hus⟩ := Sl.shape hl
      rw [ht] at hus
      subst hus
      have HL := Lib.hid hl
      have a0 := HE.out.a0
      have HROW : Hid (wx.rowIs b 2 c (fun i => .int .i64 (if i < 0 then addMod p f (Z i) (vs.getD i 0) else Z i))) := Lib.hid ((HR0.out.of_block (HB.out.block _ hbl)).congr (fun i _ => by simp))
      obtain ⟨wo, hwo⟩ : ∃ wo : World, wo = wx := ⟨_, rfl⟩
      rw [← hwo] at HROW HL a0 HB HSZ HE hsz e0 e1
      have HWO := Lib.hid hwo.symm
      have hbS : b ≠ S := by omega
      have hSo : S + 1 < wo.heap.size := HE.out.lt
      have A0 : Hid (∀ W, But b wo W → W.cell? ⟨S, 0, none⟩ = some (.int .i64 f)) := Lib.hid (fun W h => by rw [h.cell (by omega) (by omega)]; exact HE.out.a0)
      subst hwo
      clear hl hlt
      go_wp2
      go_loopw [26] (fun i wr => ∃ (q : Nat), q ≤ c ∧ i = .int .i64 q ∧ Hid (But b wo wr) ∧ Hid (wr.rowIs b 2 c (fun i => .int .i64 (if i < q then addMod p f (Z i) (vs.getD i 0) else Z i)))) (fun i _ => c - (intOf i).toNat)
      case atStart => exact ⟨0, Nat.zero_le _, rfl, Lib.hid (But.refl _ _), HROW⟩
      case round =>
        obtain ⟨q, hq, rfl, HBO, HRW⟩ := hrel
        obtain ⟨wy, hwy⟩ : ∃ wy : World, wy = wr := ⟨_, rfl⟩
        subst hwy
        by_cases hlt : q < c
        · have hltv : q < vs.length := by omega
          refine Sl.cases HL.out (fun _ _ hx _ => absurd hltv (by simp [hx])) (fun bu ou capu hvu hbu _ hcl => ?_)
          injection hvu with k1 k2 k3
          clear k2
          subst k1 k3
          obtain ⟨u, hu, hru⟩ := hcl q hltv
          have hbu2 := cell_lt hu
          obtain ⟨n, hn⟩ : ∃ n, n = vs[q] := ⟨_, rfl⟩
          have hnb := HTN.out _ (List.getElem_mem hltv)
          rw [← hn] at hnb
          obtain ⟨hn0, hn1⟩ := hnb
          have hun : wy.cell? ⟨bu, ou + q, none⟩ = some (.int .i64 n) := by rw [HBO.out.cell hbu2 (by omega), hu, hru, hn]
          have hfa := A0.out _ HBO.out
          obtain ⟨a, ha⟩ : ∃ a, a = Z q := ⟨_, rfl⟩
          have hab := HZ.out q hlt
          rw [← ha] at hab
          obtain ⟨ha0, ha1⟩ := hab
          have HACC : Hid (∀ W : World, W.rowIs b 2 c (fun i => .int .i64 (if i < q then addMod p f (Z i) (vs.getD i 0) else Z i)) → W.cell? ⟨b, 0 + q, none⟩ = some (.int .i64 a)) := Lib.hid (fun W h => by have := h.cell hlt; rw [if_neg (Nat.lt_irrefl _), ← ha] at this; rwa [Nat.zero_add])
          have m0 : 0 ≤ f * n := Int.mul_nonneg hf0 hn0
          have m1 : f * n ≤ 36 := Int.le_trans (Int.mul_le_mul hf1 hn1 hn0 (by omega)) (by omega)
          have HST2 : Hid (∀ W : World, W.rowIs b 2 c (fun i => .int .i64 (if i < q then addMod p f (Z i) (vs.getD i 0) else Z i)) → (W.setCell ⟨b, 0 + q, none⟩ (.int .i64 ((a + f * n) % p))).rowIs b 2 c (fun i => .int .i64 (if i < q + 1 then addMod p f (Z i) (vs.getD i 0) else Z i))) := Lib.hid (fun W h => by
            rw [Nat.zero_add]
            refine (h.set q _).congr (fun i _ => ?_)
            by_cases e : i = q
            · subst e
              rw [if_pos rfl, if_pos (Nat.lt_succ_self _), addMod, ← ha, getD_of_lt _ hltv, ← hn]
            · rw [if_neg e]
              by_cases e2 : i < q
              · rw [if_pos e2, if_pos (by omega)]
              · rw [if_neg e2, if_neg (by omega)])
          clear hu hru hcl ha hn
          go_upto_region 9 with fail
          have S0 : Hid (But b wo wy.drew ∧ wy.drew.rowIs b 2 c (fun i => .int .i64 (if i < q then addMod p f (Z i) (vs.getD i 0) else Z i))) := Lib.hid ⟨HBO.out.drew, HRW.out.drew⟩
          refine wp_region_last (fun W => Hid (But b wo W ∧ W.rowIs b 2 c (fun i => .int .i64 (if i < q then addMod p f (Z i) (vs.getD i 0) else Z i)))) 14 (by kernel_rfl) rfl (by kernel_rfl) ?_
          refine held_take (i := 0) (v := .slice (some ⟨b, 0, none⟩) c c) (some 31) rfl rfl (by kernel_rfl) (by kernel_rfl) (by kernel_rfl) (fun _ _ _ h => h) (yieldsIf_move (by kernel_rfl) rfl (by kernel_rfl)) S0 ?_
          refine held_take (i := 1) (v := .int .i64 (q : Int)) (some 32) rfl rfl (by kernel_rfl) (by kernel_rfl) (by kernel_rfl) (fun _ _ _ h => h) (yieldsIf_move (by kernel_rfl) rfl (by kernel_rfl)) S0 ?_
          refine held_take (i := 2) (v := .slice (some ⟨b, 0, none⟩) c c) (some 33) rfl rfl (by kernel_rfl) (by kernel_rfl) (by kernel_rfl) (fun _ _ _ h => h) (yieldsIf_move (by kernel_rfl) rfl (by kernel_rfl)) S0 ?_
          refine held_take (i := 3) (v := .int .i64 (q : Int)) (some 34) rfl rfl (by kernel_rfl) (by kernel_rfl) (by kernel_rfl) (fun _ _ _ h => h) (yieldsIf_move (by kernel_rfl) rfl (by kernel_rfl)) S0 ?_
          refine held_take (i := 4) (v := .pointer (some ⟨b, 0 + q, none⟩)) (some 35) rfl rfl (by kernel_rfl) (by kernel_rfl) (by kernel_rfl) (fun _ _ _ h => h) (yieldsIf_index (by kernel_rfl) rfl (by kernel_rfl) (by kernel_rfl) (hidxI b 0 c hlt)) S0 ?_
          refine held_take (i := 5) (v := .int .i64 a) (some 36) rfl rfl (by kernel_rfl) (by kernel_rfl) (by kernel_rfl) (fun _ _ _ h => h) (yieldsIf_cell (by kernel_rfl) rfl (by kernel_rfl) (fun W h => hload W (HACC.out W h.out.2))) S0 ?_
          refine held_take (i := 6) (v := .pointer (some ⟨S, 0, none⟩)) (some 37) rfl rfl (by kernel_rfl) (by kernel_rfl) (by kernel_rfl) (fun _ _ _ h => h) (yieldsIf_run (by kernel_rfl) (fun W _ => by kernel_rfl)) S0 ?_
          refine held_take (i := 7) (v := .int .i64 f) (some 38) rfl rfl (by kernel_rfl) (by kernel_rfl) (by kernel_rfl) (fun _ _ _ h => h) (yieldsIf_cell (by kernel_rfl) rfl (by kernel_rfl) (fun W h => hload W (A0.out _ h.out.1))) S0 ?_
          refine held_take (i := 8) (v := .int .i64 n) (some 39) rfl rfl (by kernel_rfl) (by kernel_rfl) (by kernel_rfl) (fun _ _ _ h => h) (yieldsIf_move (by kernel_rfl) rfl (by kernel_rfl)) S0 ?_
          refine held_take (i := 9) (v := .int .i64 (f * n)) (some 40) rfl rfl (by kernel_rfl) (by kernel_rfl) (by kernel_rfl) (fun _ _ _ h => h) (yieldsIf_bin (by kernel_rfl) rfl (by kernel_rfl) (by kernel_rfl) (fun _ => rfl) (hmulA (IntWalk.i64_in _ (by omega)))) S0 ?_
          refine held_take (i := 10) (v := .int .i64 (a + f * n)) (some 41) rfl rfl (by kernel_rfl) (by kernel_rfl) (by kernel_rfl) (fun _ _ _ h => h) (yieldsIf_bin (by kernel_rfl) rfl (by kernel_rfl) (by kernel_rfl) (fun _ => rfl) (haddA (IntWalk.i64_in _ (by omega)))) S0 ?_
          refine held_take (i := 11) (v := .int .i64 p) (some 42) rfl rfl (by kernel_rfl) (by kernel_rfl) (by kernel_rfl) (fun _ _ _ h => h) (yieldsIf_move (by kernel_rfl) rfl (by kernel_rfl)) S0 ?_
          refine held_take (i := 12) (v := .int .i64 ((a + f * n) % p)) (some 43) rfl rfl (by kernel_rfl) (by kernel_rfl) (by kernel_rfl) (fun _ _ _ h => h) (yieldsIf_bin (by kernel_rfl) rfl (by kernel_rfl) (by kernel_rfl) (fun _ => rfl) (hremI (by omega) (by omega) (by omega))) S0 ?_
          refine held_take (i := 13) (v := .pointer (some ⟨b, 0 + q, none⟩)) (some 44) rfl rfl (by kernel_rfl) (by kernel_rfl) (by kernel_rfl) (fun _ _ _ h => h) (yieldsIf_index (by kernel_rfl) rfl (by kernel_rfl) (by kernel_rfl) (hidxI b 0 c hlt)) S0 ?_
          refine held_none (i := 14) (v := .bool false) rfl rfl (by kernel_rfl) (by kernel_rfl) (by kernel_rfl) (fun _ _ _ h => h) (yieldsIf_move (by kernel_rfl) rfl (by kernel_rfl)) S0 ?_
          have hac2 : wy.drew.cell? ⟨b, 0 + q, none⟩ = some (.int .i64 a) := HACC.out _ S0.out.2
          have hfz2 : wy.drew.frozen? ⟨b, 0 + q, none⟩ = false := S0.out.2.frozen _
          have hBN := S0.out.1.trans (But.set wy.drew (0 + q) (.int .i64 ((a + f * n) % p)) (b := b))
          have HRN := Lib.hid (HST2.out _ S0.out.2)
          refine wpAnyH_done (by kernel_rfl) (lastQ_storeI rfl (by kernel_rfl) (by kernel_rfl) (.tmp 44) (.tmp 43) (by kernel_rfl) b (0 + q) ((a + f * n) % p) _ (by kernel_rfl) (by kernel_rfl) hac2 hfz2 ?_) _
          simp only [Act.put, List.setIfInBounds_toArray, List.set_cons_zero, List.set_cons_succ]
          obtain ⟨WN, hWN⟩ : ∃ WN, WN = wy.drew.setCell ⟨b, 0 + q, none⟩ (.int .i64 ((a + f * n) % p)) := ⟨_, rfl⟩
          rw [← hWN] at hBN HRN ⊢
          have HBN := Lib.hid hBN
          clear hBN S0 hWN hac2 hfz2
          go_wp2
          go_roundw
          case rel => exact ⟨q + 1, by omega, by go_num, HBN, HRN⟩
          case measure => simp [intOf]; omega
        · have hqc : q = c := by omega
          have HBF : Hid (But b w wy) := Lib.hid ((But.of_below (HB.out.mono (Nat.le_of_eq HSE.out.symm))).trans HBO.out)
          have HRF : Hid (wy.rowIs b 2 c (fun i => .int .i64 (addMod p f (Z i) (vs.getD i 0)))) := Lib.hid (HRW.out.congr (fun i hi => by rw [hqc, if_pos hi]))
          clear hqc
          go_wp2
          refine bodyPost_ret (v := .tuple #[]) ?_ rfl ⟨rfl, HBF.out, HRF.out⟩
          simp only [results, HRES.out]
          go_simp
end Go.Proofs.YtpchbceohnabnabDoor


namespace Go.Proofs.YtpchbceohnabnabDoor
open Go.RowKit

section
variable {ops : Array Oper} {Q : Exit → Act → World → Prop}
end
theorem Rz.grown {W W' : World} {g : Nat} {t : TypeId} {cs : Array Value} {row : Option Nat} (h : Rz W g t cs) (hg : W.grownBy W' row) (hne : some g ≠ row) : Rz W' g t cs := (hg.block g h.lt hne).trans h
theorem rz_frozen {w : World} {g : Nat} {t : TypeId} {cs : Array Value} (h : Rz w g t cs) (k : Nat) : w.frozen? ⟨g, k, none⟩ = false := by
  have h' : w.heap[g]? = some (.cells cs t (0, 0)) := h
  simp [World.frozen?, h']
end Go.Proofs.YtpchbceohnabnabDoor


namespace Go.Proofs.YtpchbceohnabnabDoor
open Go.RowKit

/-- Nothing has changed below a and from b on, of what was there. -/
structure Kp (a b : Nat) (w w' : World) : Prop where
  os : w'.os = w.os
  tape : w'.tape = w.tape
  output : w'.output = w.output
  size : w.heap.size ≤ w'.heap.size
  block : ∀ k, k < w.heap.size → k < a ∨ b ≤ k → w'.heap[k]? = w.heap[k]?
theorem Kp.refl (a b : Nat) (w : World) : Kp a b w w := ⟨rfl, rfl, rfl, Nat.le_refl _, fun _ _ _ => rfl⟩
theorem Kp.trans {a b : Nat} {x y z : World} (h : Kp a b x y) (k : Kp a b y z) : Kp a b x z :=
  ⟨k.os.trans h.os, k.tape.trans h.tape, k.output.trans h.output, Nat.le_trans h.size k.size, fun i hi hb => (k.block i (Nat.lt_of_lt_of_le hi h.size) hb).trans (h.block i hi hb)⟩
theorem Kp.of_below {a b : Nat} {w w' : World} (h : Below w.heap.size w w') : Kp a b w w' := ⟨h.os, h.tape, h.output, h.size, fun k hk _ => h.block k hk⟩
theorem Kp.of_but {a b g : Nat} {w w' : World} (h : But g w w') (h1 : a ≤ g) (h2 : g < b) : Kp a b w w' := ⟨h.os, h.tape, h.output, h.size, fun k hk hb => h.block k hk (by omega)⟩
theorem Kp.mono {a b b' : Nat} {w w' : World} (h : Kp a b w w') (hb : b ≤ b') : Kp a b' w w' := ⟨h.os, h.tape, h.output, h.size, fun k hk hh => h.block k hk (by omega)⟩
theorem Kp.below {a b : Nat} {w w' : World} (h : Kp a b w w') (ha : a ≤ w.heap.size) : Below a w w' := ⟨h.os, h.tape, h.output, h.size, fun k hk => h.block k (by omega) (Or.inl hk)⟩
/-- As differentialTable_any; the table is read in all worlds that hold what stood ahead of a base and behind the call's start. -/
def DtB (b0 : Nat) (t : List (List Int)) (w : World) (e : Ending) (w' : World) : Prop := ∃ v, e = .returned v ∧ Below w.heap.size w w' ∧ ∀ (b : Nat) (W : World), b ≤ w.heap.size → Kp b0 b w' W → L2 0 W v t

set_option maxHeartbeats 3200000 in
set_option maxRecDepth 100000 in
theorem differentialTableB_any (p : Int) (q : Nat) (dv mv : Value) (ds : List Int) (ms : List (List (List Int))) (w0 w : World) (h0 : Cx 0 w0 dv mv ds ms) (hb0 : Below w0.heap.size w0 w) (hcx : IsCx p ds ms) (hq : q < ds.length) :
    Calls Tryd.prog 94 #[.agg #[.int .i64 p, dv, mv], .int .i64 q] w (DtB w0.heap.size (cycT ds ms q) w) := by
  have h := h0.below hb0
  have HB0 := Lib.hid hb0
  have HX0 := Lib.hid (Bx.start (p := p) 30 h)
  have hml := hcx.1.mlen
  have hl6 := hcx.1.len1
  refine Sl.cases HX0.out.cx.dims (fun _ _ hx _ => absurd hq (by simp [hx])) (fun bd od capd hvd _ _ hcld => ?_)
  subst hvd
  have c0 := HX0.out.c0
  have c1 := HX0.out.c1
  have c2 := HX0.out.c2
  by_cases hq0 : q = 0
  · subst hq0
    obtain ⟨ud, hud, hrd⟩ := hcld 0 hq
    obtain ⟨d, hd⟩ : ∃ d, d = dimN ds ((0 : Nat) : Int) := ⟨_, rfl⟩
    have hd8 : d ≤ 8 := by rw [hd]; exact (dimN_le8 hcx 0).1
    have hcel : (w.alloc (.cells #[.int .i64 p, .slice (some ⟨bd, od, none⟩) ds.length capd, mv] 30)).cell? ⟨bd, od, none⟩ = some (.int .i64 (d : Int)) := by
      rw [Nat.add_zero] at hud
      rw [hud, hrd, ← getD_of_lt 0 hq, (dimN_le8 hcx 0).2, hd]
    have HDT : Hid (tableOf d 0 (fun _ _ => 0) = cycT ds ms 0) := Lib.hid (by rw [cycT_zero ds ms hq, tableOf_none, hd])
    have hlen : (0 : Int) < (ds.length : Int) := by omega
    clear h h0 hb0 hcx hcld hud hrd hd
    go_enter Tryd.func94, Tryd.ntmps94
    go_wp2_with fail
    refine (zeroTable_any d 0 _ (by omega) (by omega)).mono ?_
    rintro e w1 ⟨rfl, hm1⟩
    have HM1 := Lib.hid hm1
    clear hm1 hcel c0 c1 c2
    go_wp2
    go_ret
    have htb := HM1.out.tb
    have hz : (w.alloc (.cells #[.int .i64 p, .slice (some ⟨bd, od, none⟩) ds.length capd, mv] 30)).heap.size = w.heap.size + 1 := by simp
    rw [hz] at htb
    refine ⟨.slice (some ⟨w.heap.size + 1, 0, none⟩) d d, rfl, HX0.out.below.trans (HM1.out.below.mono HX0.out.below.size), fun b W hG2 hbut => ?_⟩
    have htW : Tb W (w.heap.size + 1) d 0 (fun _ _ => 0) := ⟨htb.top.of_block (hbut.block _ htb.top.lt (Or.inr (by omega))), fun j hj => (htb.rows j hj).of_block (hbut.block _ (htb.rows j hj).lt (Or.inr (by omega))), Nat.le_trans htb.lt hbut.size⟩
    have hh := (htW.tw (lo := 0) (Nat.zero_le _) (by omega) (by omega)).l2
    rw [HDT.out] at hh
    exact hh
  · obtain ⟨k, rfl⟩ : ∃ k, q = k + 1 := ⟨q - 1, by omega⟩
    have hkm : k < ms.length := by omega
    refine Sl.cases h0.maps (fun _ _ hx _ => absurd hkm (by simp [hx])) (fun bm om capm hvm _ _ hclm => ?_)
    subst hvm
    obtain ⟨um, hum, hrm⟩ := hclm k hkm
    have HTE : Hid (cycT ds ms (k + 1) = tabN ms k) := Lib.hid (cycT_succ hcx hq)
    have HRM : Hid (L2 0 w0 um (tabN ms k)) := Lib.hid (by unfold tabN; rw [getD_of_lt _ hkm]; exact hrm)
    have hum1 : (w.alloc (.cells #[.int .i64 p, .slice (some ⟨bd, od, none⟩) ds.length capd, .slice (some ⟨bm, om, none⟩) ms.length capm] 30)).cell? ⟨bm, om + k, none⟩ = some um := later (hb0.trans (HX0.out.below.mono hb0.size)) (Nat.le_refl _) hum
    have hne : (((k + 1 : Nat) : Int) == 0) = false := by
      have : ¬ ((k + 1 : Nat) : Int) = 0 := by omega
      simpa using this
    have hne2 : ¬ ((k : Int) + 1 = 0) := by omega
    have hwr : IntKind.i64.wrap (((k + 1 : Nat) : Int) - 1) = (k : Int) := by rw [show ((k + 1 : Nat) : Int) - 1 = (k : Int) by omega]; exact IntWalk.i64_in _ (by omega)
    have hsub : ((k : Int) + 1) - 1 = (k : Int) := by omega
    have hlt : (k : Int) < (ms.length : Int) := by omega
    clear h h0 hb0 hcx hclm hcld hrm hq0 hum
    go_enter Tryd.func94, Tryd.ntmps94
    go_wp2
    go_ret
    refine ⟨_, rfl, HX0.out.below, fun b W _ hbut => ?_⟩
    rw [HTE.out]
    refine HRM.out.below ((HB0.out.trans (HX0.out.below.mono HB0.out.size)).trans (hbut.below ?_))
    exact Nat.le_trans HB0.out.size HX0.out.below.size

/-- The tables of the differential, degree by degree. -/
def dfL (ds : List Int) (ms : List (List (List Int))) : List (List (List Int)) := (List.range ds.length).map fun (n : Nat) => cycT ds ms n
def DmR (p : Int) (dv mv : Value) (ds : List Int) (ms : List (List (List Int))) (w : World) (e : Ending) (w' : World) : Prop := ∃ u, e = .returned (.agg #[.int .i64 p, dv, mv, .int .i64 (-1), u]) ∧ L3 0 w' u (dfL ds ms) ∧ Below w.heap.size w w'
/-- .. and where they are read from then on. -/
def DmB (p : Int) (dv mv : Value) (ds : List Int) (ms : List (List (List Int))) (a : Nat) (w : World) (e : Ending) (w' : World) : Prop := ∃ u, e = .returned (.agg #[.int .i64 p, dv, mv, .int .i64 (-1), u]) ∧ Below w.heap.size w w' ∧ ∀ (b : Nat) (W : World), b ≤ w.heap.size → Kp a b w' W → L3 0 W u (dfL ds ms)
/-- A row of tables, k of which are there. -/
structure DmT (W : World) (a G N k : Nat) (f : Nat → Value) (ds : List Int) (ms : List (List (List Int))) : Prop where
  row : W.rowIs G 48 N f
  tab : ∀ n, n < k → ∀ W', Kp a (G + 1) W W' → L2 0 W' (f n) (cycT ds ms n)
theorem DmT.below {W W' : World} {a G N k : Nat} {f : Nat → Value} {ds : List Int} {ms : List (List (List Int))} (h : DmT W a G N k f ds ms) (hb : Below W.heap.size W W') : DmT W' a G N k f ds ms := ⟨h.row.of_block (hb.block _ h.row.lt), fun n hn W2 h2 => h.tab n hn W2 ((Kp.of_below hb).trans h2)⟩

theorem dm_l3 {W : World} {G : Nat} {f : Nat → Value} {ds : List Int} {ms : List (List (List Int))} (h : W.rowIs G 48 ds.length f) (ht : ∀ n, n < ds.length → L2 0 W (f n) (cycT ds ms n)) (h0 : 1 ≤ ds.length) : L3 0 W (.slice (some ⟨G, 0, none⟩) ds.length ds.length) (dfL ds ms) := by
  have hl : (dfL ds ms).length = ds.length := by simp [dfL]
  refine Or.inr ⟨G, 0, ds.length, by rw [hl], Nat.zero_le _, by rw [hl]; omega, fun n hn => ?_⟩
  have hn' : n < ds.length := by rw [hl] at hn; exact hn
  refine ⟨f n, by rw [Nat.zero_add]; exact h.cell hn', ?_⟩
  simp only [dfL, List.getElem_map, List.getElem_range]
  exact ht n hn'

set_option maxHeartbeats 3200000 in
set_option maxRecDepth 100000 in
theorem differentialMapB_any (p : Int) (dv mv : Value) (ds : List Int) (ms : List (List (List Int))) (w0 w : World) (h0 : Cx 0 w0 dv mv ds ms) (hb0 : Below w0.heap.size w0 w) (hcx : IsCx p ds ms) :
    Calls Tryd.prog 67 #[.agg #[.int .i64 p, dv, mv]] w (DmB p dv mv ds ms w0.heap.size w) := by
  have h := h0.below hb0
  have HB0 := Lib.hid hb0
  have hs0 := hb0.size
  obtain ⟨ad, cap, rfl⟩ := Sl.shape h.dims
  obtain ⟨am, capm, rfl⟩ := Sl.shape h.maps
  have hres : Tryd.f67.results = #[.cell 2 69] := by kernel_rfl
  have HRES := Lib.hid hres
  have hl6 := hcx.1.len1
  obtain ⟨w1, hw1⟩ : ∃ w1, w1 = (w.alloc (.cells #[.int .i64 p, .slice ad ds.length cap, .slice am ms.length capm] 30)).alloc (.cells #[.int .i64 0, .slice none 0 0, .slice none 0 0, .int .i64 0, .slice none 0 0] 69) := ⟨_, rfl⟩
  have HX1 : Hid (Bx w w1 w.heap.size p (.slice ad ds.length cap) (.slice am ms.length capm) ds ms) := Lib.hid (by rw [hw1]; exact (Bx.start 30 h).next (below_alloc1 _ _))
  have HS1 : Hid (w1.heap.size = w.heap.size + 2) := Lib.hid (by rw [hw1]; simp)
  have HZ1 : Hid (Rz w1 (w.heap.size + 1) 69 #[.int .i64 0, .slice none 0 0, .slice none 0 0, .int .i64 0, .slice none 0 0]) := Lib.hid (by rw [hw1]; have := Rz.new (w.alloc (.cells #[.int .i64 p, .slice ad ds.length cap, .slice am ms.length capm] 30)) 69 #[.int .i64 0, .slice none 0 0, .slice none 0 0, .int .i64 0, .slice none 0 0]; simpa using this)
  have HX0 := Lib.hid h0
  have HCX := Lib.hid hcx
  have c0 := HX1.out.c0
  have c1 := HX1.out.c1
  have c2 := HX1.out.c2
  have hmk := run_make_row' (P := Tryd.prog) 23 48 (.slice none 0 0) 24 Tryd.underlying23 Tryd.infoSS rfl .i64 .i64 ds.length (by omega) (by omega)
  clear h h0 hb0 hcx hres
  go_enter Tryd.func67, Tryd.ntmps67
  go_upto_region 1 with fail
  rw [← hw1]
  clear hw1
  go_wp2
  clear hmk c0 c1 c2
  go_loopw [4, 11] (fun _ i wr => ∃ (k : Nat) (f : Nat → Value), k ≤ ds.length ∧ i = .int .i64 (k : Int) ∧ Hid (Below w1.heap.size w1 wr) ∧ Hid (DmT wr w0.heap.size w1.heap.size ds.length k f ds ms)) (fun _ i _ => ds.length - (intOf i).toNat)
  case atStart => exact ⟨0, _, Nat.zero_le _, rfl, Lib.hid (below_alloc1 _ _), Lib.hid ⟨World.rowIs_made w1 _ _ _, fun n hn => absurd hn (Nat.not_lt_zero _)⟩⟩
  case round =>
    obtain ⟨k, f, hk, rfl, HB, HF⟩ := hrel
    obtain ⟨wx, hwx⟩ : ∃ wx : World, wx = wr := ⟨_, rfl⟩
    subst hwx
    have HX := Lib.hid (HX1.out.next HB.out)
    have c0 := HX.out.c0
    have c1 := HX.out.c1
    have c2 := HX.out.c2
    by_cases hlt : k < ds.length
    · have hki : (k : Int) < (ds.length : Int) := by omega
      go_wp2_with fail
      refine (differentialTableB_any p k _ _ ds ms w0 wx HX0.out (HB0.out.trans (HX.out.below.mono hs0)) HCX.out hlt).mono ?_
      rintro ee w2 ⟨v, rfl, hb2, hvr⟩
      have hGx : w1.heap.size < wx.heap.size := HF.out.row.lt
      have hG0 : w0.heap.size ≤ w1.heap.size := by have := HS1.out; omega
      have hv := hvr (w1.heap.size + 1) w2 (by omega) (Kp.refl _ _ _)
      have HVR := Lib.hid (hvr (w1.heap.size + 1))
      obtain ⟨av, cv, rfl⟩ := Sl.shape hv
      have HF2 := Lib.hid (HF.out.below hb2)
      have hrow := HF2.out.row.cell hlt
      have hfro := HF2.out.row.frozen k
      have HV := Lib.hid hv
      have HB2 := Lib.hid (HB.out.trans (hb2.mono HB.out.size))
      have HB3 : Hid (Below w1.heap.size w1 (w2.setCell ⟨w1.heap.size, k, none⟩ (.slice av (cycT ds ms k).length cv))) := Lib.hid (HB2.out.setCell (Nat.le_refl _) _)
      have HF3 : Hid (DmT (w2.setCell ⟨w1.heap.size, k, none⟩ (.slice av (cycT ds ms k).length cv)) w0.heap.size w1.heap.size ds.length (k + 1) (fun j => if j = k then .slice av (cycT ds ms k).length cv else f j) ds ms) := Lib.hid ⟨HF2.out.row.set k _, fun n hn W2 h2 => by
        have h3 : Kp w0.heap.size (w1.heap.size + 1) w2 W2 := (Kp.of_but (But.set w2 k _) hG0 (by omega)).trans h2
        by_cases e : n = k
        · subst e
          simp only [if_true]
          exact HVR.out W2 (by omega) h3
        · simp only [if_neg e]
          exact HF2.out.tab n (by omega) W2 h3⟩
      clear hb2 hv hvr c0 c1 c2
      go_wp2
      go_roundw
      case rel => exact ⟨k + 1, _, by omega, by go_num, HB3, HF3⟩
      case measure => simp [intOf]; omega
    · have hki : ¬ (k : Int) < (ds.length : Int) := by omega
      have HKE : Hid (k = ds.length) := Lib.hid (by omega)
      have hz := HZ1.out.next HB.out
      have q0 := hz.cell (i := 0) rfl
      have q1 := hz.cell (i := 1) rfl
      have q2 := hz.cell (i := 2) rfl
      have q3 := hz.cell (i := 3) rfl
      have q4 := hz.cell (i := 4) rfl
      have f0 := rz_frozen hz 0
      have f1 := rz_frozen hz 1
      have f2 := rz_frozen hz 2
      have f3 := rz_frozen hz 3
      have f4 := rz_frozen hz 4
      clear hz
      go_wp2
      obtain ⟨W6, h6⟩ : ∃ W6, W6 = ((((wx.setCell ⟨w.heap.size + 1, 0, none⟩ (.int .i64 p)).setCell ⟨w.heap.size + 1, 1, none⟩ (.slice ad ds.length cap)).setCell ⟨w.heap.size + 1, 2, none⟩ (.slice am ms.length capm)).setCell ⟨w.heap.size + 1, 3, none⟩ (.int .i64 (-1))).setCell ⟨w.heap.size + 1, 4, none⟩ (.slice (some ⟨w1.heap.size, 0, none⟩) ds.length ds.length) := ⟨_, rfl⟩
      have e0 : W6.cell? ⟨w.heap.size + 1, 0, none⟩ = some (.int .i64 p) := by
        rw [h6]
        rw [World.cell?_setCell_other _ _ _ _ (by simp)]
        rw [World.cell?_setCell_other _ _ _ _ (by simp)]
        rw [World.cell?_setCell_other _ _ _ _ (by simp)]
        rw [World.cell?_setCell_other _ _ _ _ (by simp)]
        refine World.cell?_setCell_same _ _ _ (u := .int .i64 0) ?_
        exact q0
      have e1 : W6.cell? ⟨w.heap.size + 1, 1, none⟩ = some (.slice ad ds.length cap) := by
        rw [h6]
        rw [World.cell?_setCell_other _ _ _ _ (by simp)]
        rw [World.cell?_setCell_other _ _ _ _ (by simp)]
        rw [World.cell?_setCell_other _ _ _ _ (by simp)]
        refine World.cell?_setCell_same _ _ _ (u := .slice none 0 0) ?_
        rw [World.cell?_setCell_other _ _ _ _ (by simp)]
        exact q1
      have e2 : W6.cell? ⟨w.heap.size + 1, 2, none⟩ = some (.slice am ms.length capm) := by
        rw [h6]
        rw [World.cell?_setCell_other _ _ _ _ (by simp)]
        rw [World.cell?_setCell_other _ _ _ _ (by simp)]
        refine World.cell?_setCell_same _ _ _ (u := .slice none 0 0) ?_
        rw [World.cell?_setCell_other _ _ _ _ (by simp)]
        rw [World.cell?_setCell_other _ _ _ _ (by simp)]
        exact q2
      have e3 : W6.cell? ⟨w.heap.size + 1, 3, none⟩ = some (.int .i64 (-1)) := by
        rw [h6]
        rw [World.cell?_setCell_other _ _ _ _ (by simp)]
        refine World.cell?_setCell_same _ _ _ (u := .int .i64 0) ?_
        rw [World.cell?_setCell_other _ _ _ _ (by simp)]
        rw [World.cell?_setCell_other _ _ _ _ (by simp)]
        rw [World.cell?_setCell_other _ _ _ _ (by simp)]
        exact q3
      have e4 : W6.cell? ⟨w.heap.size + 1, 4, none⟩ = some (.slice (some ⟨w1.heap.size, 0, none⟩) ds.length ds.length) := by
        rw [h6]
        refine World.cell?_setCell_same _ _ _ (u := .slice none 0 0) ?_
        rw [World.cell?_setCell_other _ _ _ _ (by simp)]
        rw [World.cell?_setCell_other _ _ _ _ (by simp)]
        rw [World.cell?_setCell_other _ _ _ _ (by simp)]
        rw [World.cell?_setCell_other _ _ _ _ (by simp)]
        exact q4
      have hbut : But (w.heap.size + 1) wx W6 := by
        rw [h6]
        exact (((((But.set wx 0 (.int .i64 p)).trans (But.set (wx.setCell ⟨w.heap.size + 1, 0, none⟩ (.int .i64 p)) 1 (.slice ad ds.length cap))).trans (But.set ((wx.setCell ⟨w.heap.size + 1, 0, none⟩ (.int .i64 p)).setCell ⟨w.heap.size + 1, 1, none⟩ (.slice ad ds.length cap)) 2 (.slice am ms.length capm))).trans (But.set (((wx.setCell ⟨w.heap.size + 1, 0, none⟩ (.int .i64 p)).setCell ⟨w.heap.size + 1, 1, none⟩ (.slice ad ds.length cap)).setCell ⟨w.heap.size + 1, 2, none⟩ (.slice am ms.length capm)) 3 (.int .i64 (-1)))).trans (But.set ((((wx.setCell ⟨w.heap.size + 1, 0, none⟩ (.int .i64 p)).setCell ⟨w.heap.size + 1, 1, none⟩ (.slice ad ds.length cap)).setCell ⟨w.heap.size + 1, 2, none⟩ (.slice am ms.length capm)).setCell ⟨w.heap.size + 1, 3, none⟩ (.int .i64 (-1))) 4 (.slice (some ⟨w1.heap.size, 0, none⟩) ds.length ds.length)))
      have hs1 := HS1.out
      have hB6 : Below w.heap.size w W6 := HX.out.below.trans (hbut.below HX.out.below.size (by omega))
      have hF := HF.out
      rw [HKE.out] at hF
      have hrow6 := hF.row.of_block (hbut.block _ hF.row.lt (by omega))
      have hg6 := hrow6.lt
      have HL3 : Hid (∀ (b : Nat) (W : World), b ≤ w.heap.size → Kp w0.heap.size b W6 W → L3 0 W (.slice (some ⟨w1.heap.size, 0, none⟩) ds.length ds.length) (dfL ds ms)) := Lib.hid (fun b W hb hK => dm_l3 (hrow6.of_block (hK.block _ hg6 (Or.inr (by omega)))) (fun n hn => hF.tab n hn W ((Kp.of_but hbut (by omega) (by omega)).trans (hK.mono (by omega)))) HCX.out.1.len0)
      have HB6 := Lib.hid hB6
      rw [← h6]
      clear h6 hbut hB6 hF hrow6 hs1 hg6 q0 f0 q1 f1 q2 f2 q3 f3 q4 f4
      refine bodyPost_ret (v := .agg #[.int .i64 p, .slice ad ds.length cap, .slice am ms.length capm, .int .i64 (-1), .slice (some ⟨w1.heap.size, 0, none⟩) ds.length ds.length]) ?_ rfl ⟨_, rfl, HB6.out, HL3.out⟩
      simp only [results, HRES.out]
      go_simp
theorem differentialMap_any (p : Int) (dv mv : Value) (ds : List Int) (ms : List (List (List Int))) (w : World) (h : Cx 0 w dv mv ds ms) (hcx : IsCx p ds ms) :
    Calls Tryd.prog 67 #[.agg #[.int .i64 p, dv, mv]] w (DmR p dv mv ds ms w) :=
  (differentialMapB_any p dv mv ds ms w w h (Below.refl _ _) hcx).mono fun _ _ ⟨u, he, hb, hl⟩ => ⟨u, he, hl _ _ (Nat.le_refl _) (Kp.refl _ _ _), hb⟩
end Go.Proofs.YtpchbceohnabnabDoor


namespace Go.Proofs.YtpchbceohnabnabDoor
open Go.RowKit

theorem cycT_succP {p : Int} {ds : List Int} {ms : List (List (List Int))} (h : PreOk p ds ms) {k : Nat} (hq : k + 1 < ds.length) : cycT ds ms (k + 1) = tabN ms k := by
  have hml := h.mlen
  unfold cycT mapZ tabN
  rw [if_pos (by omega), show (((k + 1 : Nat) : Int)).toNat - 1 = k by omega]

end Go.Proofs.YtpchbceohnabnabDoor


namespace Go.Proofs.YtpchbceohnabnabDoor
open Go.RowKit

theorem dimZ_8 {p : Int} {ds : List Int} {ms : List (List (List Int))} (h : IsCx p ds ms) (n : Int) : 0 ≤ dimZ ds n ∧ dimZ ds n ≤ 8 := by
  unfold dimZ
  by_cases hr : 0 ≤ n ∧ n ≤ (ds.length : Int) - 1
  · rw [if_pos hr]
    exact h.1.dim _
  · rw [if_neg hr]
    omega
def Fam3R (out : List (List (List Int))) (w : World) (e : Ending) (w' : World) : Prop := ∃ u, e = .returned u ∧ Rw3 w.heap.size w'.heap.size w' u out ∧ Below w.heap.size w w'
def Fam3D (n : Nat) (out : List (List (List Int))) (w : World) (e : Ending) (w' : World) : Prop := ∃ g, e = .returned (.slice (some ⟨g, 0, none⟩) n n) ∧ w.heap.size ≤ g ∧ Rw3 w.heap.size w'.heap.size w' (.slice (some ⟨g, 0, none⟩) n n) out ∧ Below w.heap.size w w'
theorem Fam3D.r {n : Nat} {out : List (List (List Int))} {w : World} {e : Ending} {w' : World} (h : Fam3D n out w e w') : Fam3R out w e w' := by
  obtain ⟨g, he, _, hr, hb⟩ := h
  exact ⟨_, he, hr, hb⟩
def Gt3R (out : List (List (List Int))) (w : World) (e : Ending) (w' : World) : Prop := ∃ u, e = .returned u ∧ Gt w.heap.size w' u out ∧ Below w.heap.size w w'

/-- Dimensions of at most six degrees, each at most 8. -/
structure DsOk (ds : List Int) : Prop where
  len1 : ds.length ≤ 6
  dims : ∀ d ∈ ds, 0 ≤ d ∧ d ≤ 8
theorem DsOk.dim {ds : List Int} (h : DsOk ds) (k : Nat) : 0 ≤ ds.getD k 0 ∧ ds.getD k 0 ≤ 8 := by
  by_cases e : k < ds.length
  · rw [getD_of_lt _ e]
    exact h.dims _ (List.getElem_mem e)
  · rw [List.getD_eq_getElem?_getD, List.getElem?_eq_none (by omega)]
    simp
theorem DsOk.dimZ {ds : List Int} (h : DsOk ds) (n : Int) : 0 ≤ dimZ ds n ∧ dimZ ds n ≤ 8 := by
  unfold Go.Proofs.YtpchbceohnabnabDoor.dimZ
  by_cases hr : 0 ≤ n ∧ n ≤ (ds.length : Int) - 1
  · rw [if_pos hr]
    exact h.dim _
  · rw [if_neg hr]
    omega
theorem IsCx.dsOk {p : Int} {ds : List Int} {ms : List (List (List Int))} (h : IsCx p ds ms) : DsOk ds := ⟨h.1.len1, h.1.dims⟩

end Go.Proofs.YtpchbceohnabnabDoor


namespace Go.Proofs.YtpchbceohnabnabDoor
open Go.RowKit

set_option maxHeartbeats 3200000 in
set_option maxRecDepth 100000 in
theorem leadD_any (p2 s : Int) (n c2 : Nat) (dv2 mv2 fv vv : Value) (ds2 : List Int) (ms2 fs : List (List (List Int))) (vs : List Int) (w : World) (h2 : Cx 0 w dv2 mv2 ds2 ms2) (hf : L3 0 w fv fs) (hv : L1 0 w vv vs) (hcy : DsOk ds2) (hn : n < fs.length) (hnb : n ≤ 100) (hs : -1 ≤ s ∧ s ≤ 1) (hc2 : dimZ ds2 ((n : Int) + s) = (c2 : Int)) (ok : ApOk p2 c2 vs (fs.getD n [])) (hmf : fs.length ≤ 1048576) (hmv : vs.length ≤ 1048576) :
    Calls Tryd.prog 66 #[.agg #[.int .i64 p2, dv2, mv2, .int .i64 s, fv], .agg #[.int .i64 (n : Int), vv]] w (LeadR ((n : Int) + s) (apT p2 c2 vs (fs.getD n [])) w) := by
  obtain ⟨ad2, cap2, rfl⟩ := Sl.shape h2.dims
  obtain ⟨am2, capm2, rfl⟩ := Sl.shape h2.maps
  obtain ⟨af, cf, rfl⟩ := Sl.shape hf
  obtain ⟨av, cv, rfl⟩ := Sl.shape hv
  obtain ⟨t, ht⟩ : ∃ t, t = fs.getD n [] := ⟨_, rfl⟩
  rw [← ht] at ok ⊢
  obtain ⟨tn, htn⟩ : ∃ tn, tn = t.length := ⟨_, rfl⟩
  obtain ⟨wa, hwa⟩ : ∃ wa, wa = w.alloc (.cells #[.int .i64 p2, .slice ad2 ds2.length cap2, .slice am2 ms2.length capm2, .int .i64 s, .slice af fs.length cf] 69) := ⟨_, rfl⟩
  have hba : Below w.heap.size w wa := by rw [hwa]; exact below_alloc1 _ _
  have hsa : wa.heap.size = w.heap.size + 1 := by rw [hwa]; simp
  have a0 : wa.cell? ⟨w.heap.size, 0, none⟩ = some (.int .i64 p2) := by rw [hwa]; simp
  have a1 : wa.cell? ⟨w.heap.size, 1, none⟩ = some (.slice ad2 ds2.length cap2) := by rw [hwa]; simp
  have a2 : wa.cell? ⟨w.heap.size, 2, none⟩ = some (.slice am2 ms2.length capm2) := by rw [hwa]; simp
  have a3 : wa.cell? ⟨w.heap.size, 3, none⟩ = some (.int .i64 s) := by rw [hwa]; simp
  have a4 : wa.cell? ⟨w.heap.size, 4, none⟩ = some (.slice af fs.length cf) := by rw [hwa]; simp
  obtain ⟨wb, hwb⟩ : ∃ wb, wb = wa.alloc (.cells #[.int .i64 (n : Int), .slice av vs.length cv] 96) := ⟨_, rfl⟩
  have hbb : Below wa.heap.size wa wb := by rw [hwb]; exact below_alloc1 _ _
  have hsb : wb.heap.size = w.heap.size + 2 := by rw [hwb]; simp [hsa]
  have b0 : wb.cell? ⟨wa.heap.size, 0, none⟩ = some (.int .i64 (n : Int)) := by rw [hwb]; simp
  have b1 : wb.cell? ⟨wa.heap.size, 1, none⟩ = some (.slice av vs.length cv) := by rw [hwb]; simp
  obtain ⟨w1, hw1a⟩ : ∃ w1, w1 = wb.alloc (.cells #[.int .i64 0, .slice none 0 0] 96) := ⟨_, rfl⟩
  have hbc : Below wb.heap.size wb w1 := by rw [hw1a]; exact below_alloc1 _ _
  have hsz : w.heap.size + 3 = w1.heap.size := by rw [hw1a]; simp [hsb]
  have ht1 : w1.there (w.heap.size + 2) 0 2 := by
    rw [← hsb, hw1a]
    exact there_new wb #[.int .i64 0, .slice none 0 0] 96 (n := 2) (by simp)
  have hw1 : w1 = (((w.alloc (.cells #[.int .i64 p2, .slice ad2 ds2.length cap2, .slice am2 ms2.length capm2, .int .i64 s, .slice af fs.length cf] 69)).alloc (.cells #[.int .i64 (n : Int), .slice av vs.length cv] 96)).alloc (.cells #[.int .i64 0, .slice none 0 0] 96)) := by rw [hw1a, hwb, hwa]
  have hb1 : Below w.heap.size w w1 := (hba.trans (hbb.mono (by omega))).trans (hbc.mono (by omega))
  have hab : Below wa.heap.size wa w1 := hbb.trans (hbc.mono (by omega))
  have g0 := later hab (Nat.le_refl _) a0
  have g1 := later hab (Nat.le_refl _) a1
  have g2 := later hab (Nat.le_refl _) a2
  have g3 := later hab (Nat.le_refl _) a3
  have g4 := later hab (Nat.le_refl _) a4
  have e0 := later hbc (Nat.le_refl _) b0
  have e1 := later hbc (Nat.le_refl _) b1
  rw [hsa] at e0 e1
  clear a0 a1 a2 a3 a4 b0 b1 hbb hbc hab hba hsa hsb hwa hwb hw1a
  have HB1 := Lib.hid hb1
  have HY1 := Lib.hid (h2.below hb1)
  have HF1 := Lib.hid (hf.below hb1)
  have HV1 := Lib.hid (hv.below hb1)
  have HOK := Lib.hid ok
  have HT1 := Lib.hid ht1
  have hl7 := hcy.len1
  have hc28 : c2 ≤ 8 := by have := hcy.dimZ ((n : Int) + s); omega
  obtain ⟨hs0, hs1⟩ := hs
  refine Sl.cases HF1.out (fun _ _ hx _ => absurd hn (by simp [hx])) (fun bf of cf2 hvf _ _ hcf => ?_)
  injection hvf with k1 k2 k3
  clear k2
  subst k1 k3
  obtain ⟨ut, hut, hrt⟩ := hcf n hn
  rw [← getD_of_lt [] hn, ← ht] at hrt
  obtain ⟨at', ct, hus⟩ := Sl.shape hrt
  rw [← htn] at hus
  subst hus
  have HRT := Lib.hid hrt
  have HDA : Hid (∀ W, Below w1.heap.size w1 W → Calls Tryd.prog 76 #[.agg #[.int .i64 p2, .slice ad2 ds2.length cap2, .slice am2 ms2.length capm2], .int .i64 ((n : Int) + s)] W (BR (.int .i64 (c2 : Int)) W)) := Lib.hid (fun W h => by
    have := dimAt_any p2 ((n : Int) + s) _ _ ds2 ms2 W (HY1.out.below h) (by omega)
    rwa [hc2] at this)
  have HAP : Hid (∀ W, Below w1.heap.size w1 W → Calls Tryd.prog 93 #[.int .i64 p2, .slice av vs.length cv, .slice at' tn ct, .int .i64 (c2 : Int)] W (ApW p2 c2 vs t W)) := Lib.hid (fun W h => applyTablew_any p2 c2 _ _ vs _ W HOK.out (HV1.out.below h) (HRT.out.below h) hmv (by omega))
  have HIN : Hid (∀ W, Calls Tryd.prog 51 #[.int .i64 (n : Int), .int .i64 0, .int .i64 ((fs.length : Int) - 1)] W (QW (.bool true) W)) := Lib.hid (fun W => in_yes (by omega) W)
  have hwk : IntKind.i64.wrap ((n : Int) + s) = (n : Int) + s := IntWalk.i64_in _ (by omega)
  have HRES : Hid (Tryd.f66.results = #[.cell 4 96]) := Lib.hid (by kernel_rfl)
  have HIE : Hid ((Tryd.prog.info? 96).map (·.size) = some 2) := Lib.hid (by kernel_rfl)
  clear h2 hf hv hcy hc2 ok hcf hrt hb1 ht1 ht htn
  go_enter Tryd.func66, Tryd.ntmps66
  go_upto_region 1 with fail
  rw [← hw1]
  clear hw1
  go_wp2_with fail
  refine (HIN.out _).mono ?_
  rintro e w' ⟨rfl, rfl⟩
  clear HIN
  go_upto_region 5 with fail
  have S0 : Hid (Below w1.heap.size w1 w1.drew) := Lib.hid (Below.refl _ _).drew
  refine wp_region_last (fun W => Hid (Below w1.heap.size w1 W)) 13 (by kernel_rfl) rfl (by kernel_rfl) ?_
  refine held_take (i := 0) (v := .int .i64 ((n : Int) + s)) (some 25) rfl rfl (by kernel_rfl) (by kernel_rfl) (by kernel_rfl) (fun _ _ _ h => h) (yieldsIf_move (by kernel_rfl) rfl (by kernel_rfl)) S0 ?_
  refine held_take (i := 1) (v := .pointer (some ⟨w.heap.size, 0, none⟩)) (some 26) rfl rfl (by kernel_rfl) (by kernel_rfl) (by kernel_rfl) (fun _ _ _ h => h) (yieldsIf_run (by kernel_rfl) (fun W _ => by kernel_rfl)) S0 ?_
  refine held_take (i := 2) (v := .pointer (some ⟨w.heap.size, 0, none⟩)) (some 27) rfl rfl (by kernel_rfl) (by kernel_rfl) (by kernel_rfl) (fun _ _ _ h => h) (yieldsIf_run (by kernel_rfl) (fun W _ => by kernel_rfl)) S0 ?_
  refine held_take (i := 3) (v := .int .i64 p2) (some 28) rfl rfl (by kernel_rfl) (by kernel_rfl) (by kernel_rfl) (fun _ _ _ h => h) (yieldsIf_cell (by kernel_rfl) rfl (by kernel_rfl) (fun W h => hload W (later h.out (Nat.le_refl _) g0))) S0 ?_
  refine held_take (i := 4) (v := .pointer (some ⟨w.heap.size + 1, 1, none⟩)) (some 29) rfl rfl (by kernel_rfl) (by kernel_rfl) (by kernel_rfl) (fun _ _ _ h => h) (yieldsIf_run (by kernel_rfl) (fun W _ => by kernel_rfl)) S0 ?_
  refine held_take (i := 5) (v := .slice av vs.length cv) (some 30) rfl rfl (by kernel_rfl) (by kernel_rfl) (by kernel_rfl) (fun _ _ _ h => h) (yieldsIf_cell (by kernel_rfl) rfl (by kernel_rfl) (fun W h => hloadS W (later h.out (Nat.le_refl _) e1))) S0 ?_
  refine held_take (i := 6) (v := .slice at' tn ct) (some 31) rfl rfl (by kernel_rfl) (by kernel_rfl) (by kernel_rfl) (fun _ _ _ h => h) (yieldsIf_move (by kernel_rfl) rfl (by kernel_rfl)) S0 ?_
  refine held_take (i := 7) (v := .pointer (some ⟨w.heap.size, 0, none⟩)) (some 32) rfl rfl (by kernel_rfl) (by kernel_rfl) (by kernel_rfl) (fun _ _ _ h => h) (yieldsIf_run (by kernel_rfl) (fun W _ => by kernel_rfl)) S0 ?_
  refine held_take (i := 8) (v := .agg #[.int .i64 p2, .slice ad2 ds2.length cap2, .slice am2 ms2.length capm2]) (some 33) rfl rfl (by kernel_rfl) (by kernel_rfl) (by kernel_rfl) (fun _ _ _ h => h) (yieldsIf_cell (by kernel_rfl) rfl (by kernel_rfl) (fun W h => hloadC W (later h.out (Nat.le_refl _) g0) (later h.out (Nat.le_refl _) g1) (later h.out (Nat.le_refl _) g2))) S0 ?_
  refine held_take (i := 9) (v := .int .i64 ((n : Int) + s)) (some 34) rfl rfl (by kernel_rfl) (by kernel_rfl) (by kernel_rfl) (fun _ _ _ h => h) (yieldsIf_move (by kernel_rfl) rfl (by kernel_rfl)) S0 ?_
  refine held_enter (i := 10) (some 35) (f := 76) (args := #[.agg #[.int .i64 p2, .slice ad2 ds2.length cap2, .slice am2 ms2.length capm2], .int .i64 ((n : Int) + s)]) (by kernel_rfl) rfl rfl rfl (by kernel_rfl) (HDA.out _ S0.out) ?_ (fun c w' h => by cases h.1) (fun w' h => by cases h.1)
  rintro e4 W4 ⟨he4, hb4⟩
  injection he4 with he4
  subst he4
  have S1 : Hid (Below w1.heap.size w1 W4) := Lib.hid (S0.out.trans hb4)
  refine ⟨S1, ?_⟩
  clear hb4
  refine held_enter (i := 11) (some 36) (f := 93) (args := #[.int .i64 p2, .slice av vs.length cv, .slice at' tn ct, .int .i64 (c2 : Int)]) (by kernel_rfl) rfl rfl rfl (by kernel_rfl) (HAP.out _ S1.out) ?_ (fun c w' h => by obtain ⟨_, h, _⟩ := h; cases h) (fun w' h => by obtain ⟨_, h, _⟩ := h; cases h)
  rintro e5 W5 ⟨u5, he5, hw5, hb5⟩
  injection he5 with he5
  subst he5
  have S2 : Hid (Below w1.heap.size w1 W5) := Lib.hid (S1.out.trans (hb5.mono S1.out.size))
  have HW5 := Lib.hid hw5
  have hs4 : w1.heap.size ≤ W4.heap.size := S1.out.size
  obtain ⟨au, cu, hus⟩ := Sl.shape hw5.l1
  rw [apT_length' HOK.out] at hus
  subst hus
  refine ⟨S2, ?_⟩
  clear hb5 hw5
  refine held_take (i := 12) (v := .agg #[.int .i64 ((n : Int) + s), .slice au c2 cu]) (some 37) rfl rfl (by kernel_rfl) (by kernel_rfl) (by kernel_rfl) (fun _ _ _ h => h) (yieldsIf_run (by kernel_rfl) (fun W _ => by kernel_rfl)) S2 ?_
  refine held_none (i := 13) (v := .bool false) rfl rfl (by kernel_rfl) (by kernel_rfl) (by kernel_rfl) (fun _ _ _ h => h) (yieldsIf_move (by kernel_rfl) rfl (by kernel_rfl)) S2 ?_
  have hth : W5.there (w.heap.size + 2) 0 (#[.int .i64 ((n : Int) + s), .slice au c2 cu] : Array Value).size := there_below HT1.out S2.out (by omega)
  have x0 := hth 0 (by simp)
  have x1 := hth 1 (by simp)
  refine wpAnyH_done (by kernel_rfl) (lastQ_store rfl (by kernel_rfl) (by kernel_rfl) 96 (.tmp 4) (.tmp 37) (by kernel_rfl) (w.heap.size + 2) 0 #[.int .i64 ((n : Int) + s), .slice au c2 cu] (by kernel_rfl) (by kernel_rfl) hth HIE.out (by kernel_rfl) ?_) _
  simp only [Act.put, List.setIfInBounds_toArray, List.set_cons_zero, List.set_cons_succ]
  obtain ⟨W6, hW6⟩ : ∃ W6, W6 = W5.setCells (w.heap.size + 2) 0 [.int .i64 ((n : Int) + s), .slice au c2 cu] := ⟨_, rfl⟩
  have h6 : W6 = (W5.setCell ⟨w.heap.size + 2, 0, none⟩ (.int .i64 ((n : Int) + s))).setCell ⟨w.heap.size + 2, 1, none⟩ (.slice au c2 cu) := by rw [hW6]; rfl
  have HB6 : Hid (Below w.heap.size w W6) := Lib.hid (by
    rw [h6]
    exact (((HB1.out.trans (S2.out.mono HB1.out.size))).setCell (by show w.heap.size ≤ w.heap.size + 2; omega) _).setCell (by show w.heap.size ≤ w.heap.size + 2; omega) _)
  have HW6 : Hid (W1 w.heap.size W6.heap.size W6 (.slice au c2 cu) (apT p2 c2 vs t)) := Lib.hid (by
    have hs6 : W6.heap.size = W5.heap.size := by rw [h6]; simp
    rw [hs6]
    refine (HW5.out.same ?_).wider (by omega) (Nat.le_refl _)
    rw [h6]
    exact (Same.set _ (Or.inl (by omega))).trans (Same.set _ (Or.inl (by omega))))
  obtain ⟨y0, hy0⟩ := Option.isSome_iff_exists.1 x0.1
  obtain ⟨y1, hy1⟩ := Option.isSome_iff_exists.1 x1.1
  have f0 : W6.cell? ⟨w.heap.size + 2, 0, none⟩ = some (.int .i64 ((n : Int) + s)) := by
    rw [h6, World.cell?_setCell_other _ _ _ _ (by simp)]
    exact World.cell?_setCell_same _ _ _ hy0
  have f1 : W6.cell? ⟨w.heap.size + 2, 1, none⟩ = some (.slice au c2 cu) := by
    rw [h6]
    exact World.cell?_setCell_same _ _ _ (by rw [World.cell?_setCell_other _ _ _ _ (by simp)]; exact hy1)
  rw [← hW6]
  clear hW6 h6 hy0 hy1 x0 x1 hth S0 S1 S2 g0 g1 g2 g3 g4 e0 e1 hwk
  go_wp2
  refine bodyPost_ret (v := .agg #[.int .i64 ((n : Int) + s), .slice au c2 cu]) ?_ rfl ⟨.slice au c2 cu, rfl, HW6.out, HB6.out⟩
  simp only [results, HRES.out]
  go_simp
end Go.Proofs.YtpchbceohnabnabDoor


namespace Go.Proofs.YtpchbceohnabnabDoor
open Go.RowKit

/-- The first k tables of m, in order, each in blocks of its own. -/
structure FamT (W : World) (G m k : Nat) (f : Nat → Value) (gs rs cs : Nat → Nat) (Z : Nat → Nat → Nat → Int) : Prop where
  row : W.rowIs G 48 m f
  val : ∀ j, j < k → f j = .slice (some ⟨gs j, 0, none⟩) (rs j) (rs j)
  lo : ∀ j, j < k → G < gs j
  inc : ∀ j, j + 1 < k → gs j + 1 + rs j ≤ gs (j + 1)
  tb : ∀ j, j < k → Tb W (gs j) (rs j) (cs j) (Z j)
theorem FamT.start {W : World} {G m : Nat} {f : Nat → Value} {gs rs cs : Nat → Nat} {Z : Nat → Nat → Nat → Int} (h : W.rowIs G 48 m f) : FamT W G m 0 f gs rs cs Z :=
  ⟨h, fun _ h => absurd h (Nat.not_lt_zero _), fun _ h => absurd h (Nat.not_lt_zero _), fun _ h => absurd h (Nat.not_lt_zero _), fun _ h => absurd h (Nat.not_lt_zero _)⟩
theorem FamT.below {W W' : World} {G m k : Nat} {f : Nat → Value} {gs rs cs : Nat → Nat} {Z : Nat → Nat → Nat → Int} (h : FamT W G m k f gs rs cs Z) (hb : Below W.heap.size W W') : FamT W' G m k f gs rs cs Z :=
  ⟨h.row.of_block (hb.block _ h.row.lt), h.val, h.lo, h.inc, fun j hj => (h.tb j hj).below hb⟩
theorem FamT.step {W w1 : World} {G m k r c : Nat} {f : Nat → Value} {gs rs cs : Nat → Nat} {Z : Nat → Nat → Nat → Int} (h : FamT W G m k f gs rs cs Z) (_hk : k < m) (hr : r = rs k) (hc : c = cs k) (hm : Mat W w1 r c (Z k)) :
    FamT (w1.setCell ⟨G, k, none⟩ (.slice (some ⟨W.heap.size, 0, none⟩) r r)) G m (k + 1) (fun j => if j = k then .slice (some ⟨W.heap.size, 0, none⟩) r r else f j) (fun j => if j = k then W.heap.size else gs j) rs cs Z := by
  subst hr hc
  have hlt := h.row.lt
  have hb := hm.below
  refine ⟨(h.row.of_block (hb.block _ hlt)).set k _, fun j hj => ?_, fun j hj => ?_, fun j hj => ?_, fun j hj => ?_⟩
  · by_cases e : j = k
    · subst e; simp
    · simp only [if_neg e]; exact h.val j (by omega)
  · by_cases e : j = k
    · simp only [if_pos e]; exact hlt
    · simp only [if_neg e]; exact h.lo j (by omega)
  · have hjk : ¬ j = k := by omega
    simp only [if_neg hjk]
    by_cases e : j + 1 = k
    · simp only [if_pos e]; exact (h.tb j (by omega)).lt
    · simp only [if_neg e]; exact h.inc j (by omega)
  · by_cases e : j = k
    · subst e
      simp only [if_true]
      exact hm.tb.out (Or.inl hlt) _
    · simp only [if_neg e]
      exact ((h.tb j (by omega)).below hb).out (Or.inl (h.lo j (by omega))) _
theorem FamT.ord {W : World} {G m k : Nat} {f : Nat → Value} {gs rs cs : Nat → Nat} {Z : Nat → Nat → Nat → Int} (h : FamT W G m k f gs rs cs Z) {i j : Nat} (hij : i < j) (hj : j < k) : gs i + 1 + rs i ≤ gs j := by
  induction j with
  | zero => exact absurd hij (Nat.not_lt_zero _)
  | succ j ih =>
    have h1 := h.inc j hj
    by_cases e : i = j
    · subst e; exact h1
    · have := ih (by omega) (by omega)
      omega
theorem FamT.congr {W : World} {G m k : Nat} {f : Nat → Value} {gs rs cs : Nat → Nat} {Z Z' : Nat → Nat → Nat → Int} (h : FamT W G m k f gs rs cs Z) (e : ∀ n, n < k → ∀ j, j < rs n → ∀ i, i < cs n → Z n j i = Z' n j i) : FamT W G m k f gs rs cs Z' :=
  ⟨h.row, h.val, h.lo, h.inc, fun j hj => (h.tb j hj).congr (e j hj)⟩
/-- One row is laid anew. -/
theorem FamT.put {W W' : World} {G m k : Nat} {f : Nat → Value} {gs rs cs : Nat → Nat} {Z : Nat → Nat → Nat → Int} (h : FamT W G m k f gs rs cs Z) {n i : Nat} (hn : n < k) (hi : i < rs n) {y : Nat → Int} (hb : But (gs n + 1 + i) W W') (hr : W'.rowIs (gs n + 1 + i) 2 (cs n) (fun q => .int .i64 (y q))) :
    FamT W' G m k f gs rs cs (fun n2 i2 q => if n2 = n ∧ i2 = i then y q else Z n2 i2 q) := by
  have hl := h.lo n hn
  refine ⟨h.row.of_block (hb.block _ h.row.lt (by omega)), h.val, h.lo, h.inc, fun j hj => ?_⟩
  have hT := h.tb j hj
  by_cases e : j = n
  · subst e
    refine ⟨hT.top.of_block (hb.block _ hT.top.lt (by omega)), fun i2 hi2 => ?_, Nat.le_trans hT.lt hb.size⟩
    by_cases e2 : i2 = i
    · subst e2
      exact hr.congr (fun q _ => by simp)
    · exact ((hT.rows i2 hi2).of_block (hb.block _ (hT.rows i2 hi2).lt (by omega))).congr (fun q _ => by simp [e2])
  · have hd : gs j + 1 + rs j ≤ gs n ∨ gs n + 1 + rs n ≤ gs j := by
      by_cases e3 : j < n
      · exact Or.inl (h.ord e3 hn)
      · exact Or.inr (h.ord (by omega) hj)
    refine ⟨hT.top.of_block (hb.block _ hT.top.lt (by omega)), fun i2 hi2 => ?_, Nat.le_trans hT.lt hb.size⟩
    exact ((hT.rows i2 hi2).of_block (hb.block _ (hT.rows i2 hi2).lt (by omega))).congr (fun q _ => by simp [e])
/-- The tables as lists. -/
def famL (m : Nat) (rs cs : Nat → Nat) (Z : Nat → Nat → Nat → Int) : List (List (List Int)) := (List.range m).map fun n => tableOf (rs n) (cs n) (Z n)
theorem famL_length (m : Nat) (rs cs : Nat → Nat) (Z : Nat → Nat → Nat → Int) : (famL m rs cs Z).length = m := by simp [famL]
theorem FamT.rw3 {lo : Nat} {W : World} {G m : Nat} {f : Nat → Value} {gs rs cs : Nat → Nat} {Z : Nat → Nat → Nat → Int} (h : FamT W G m m f gs rs cs Z) (hl : lo ≤ G) (hm : m ≤ 1048576) (hrs : ∀ j, j < m → rs j ≤ 1048576 ∧ cs j ≤ 1048576) :
    Rw3 lo W.heap.size W (.slice (some ⟨G, 0, none⟩) m m) (famL m rs cs Z) := by
  have hF : Fill3 W G m m f (fun j => if j < m then gs j else W.heap.size) (famL m rs cs Z) := by
    refine ⟨h.row, ?_, fun j hj => ?_, ?_, fun j hj hjm => ?_⟩
    · by_cases e : 0 < m
      · simp only [if_pos e]; exact h.lo 0 e
      · simp only [if_neg e]; exact h.row.lt
    · simp only [if_pos hj]
      by_cases e : j + 1 < m
      · simp only [if_pos e]; have := h.inc j e; omega
      · simp only [if_neg e]; have := (h.tb j hj).lt; omega
    · simp only [if_neg (Nat.lt_irrefl _)]; exact Nat.le_refl _
    · simp only [if_pos hjm]
      rw [h.val j hjm]
      have e1 : (famL m rs cs Z)[j] = tableOf (rs j) (cs j) (Z j) := by simp [famL]
      rw [e1]
      refine (h.tb j hjm).rw2h (Nat.le_refl _) ?_ (hrs j hjm).1 (hrs j hjm).2
      by_cases e : j + 1 < m
      · simp only [if_pos e]; exact h.inc j e
      · simp only [if_neg e]; exact (h.tb j hjm).lt
  exact (hF.rw3 (by rw [famL_length]) hm).wider hl (Nat.le_refl _)

def rsF (ds : List Int) (n : Nat) : Nat := (ds.getD n 0).toNat
def csF (ds2 : List Int) (s : Int) (n : Nat) : Nat := (dimZ ds2 ((n : Int) + s)).toNat
def FamTR (m : Nat) (rs cs : Nat → Nat) (Z : Nat → Nat → Nat → Int) (w : World) (e : Ending) (w' : World) : Prop :=
  ∃ G f gs, e = .returned (.slice (some ⟨G, 0, none⟩) m m) ∧ w.heap.size ≤ G ∧ FamT w' G m m f gs rs cs Z ∧ Below w.heap.size w w'

set_option maxHeartbeats 3200000 in
set_option maxRecDepth 100000 in
theorem zeroFamT_any (p p2 s : Int) (dv mv dv2 mv2 : Value) (ds : List Int) (ms : List (List (List Int))) (ds2 : List Int) (ms2 : List (List (List Int))) (w : World) (h : Cx 0 w dv mv ds ms) (h2 : Cx 0 w dv2 mv2 ds2 ms2) (hcx : IsCx p ds ms) (hcy : IsCx p2 ds2 ms2) (hs : -1 ≤ s ∧ s ≤ 1) :
    Calls Tryd.prog 90 #[.agg #[.int .i64 p, dv, mv], .agg #[.int .i64 p2, dv2, mv2], .int .i64 s] w (FamTR ds.length (rsF ds) (csF ds2 s) (fun _ _ _ => 0) w) := by
  obtain ⟨ad, cap, rfl⟩ := Sl.shape h.dims
  obtain ⟨am, capm, rfl⟩ := Sl.shape h.maps
  obtain ⟨ad2, cap2, rfl⟩ := Sl.shape h2.dims
  obtain ⟨am2, capm2, rfl⟩ := Sl.shape h2.maps
  obtain ⟨k1, k2⟩ := bx_two (p := p) (p2 := p2) 30 h h2
  have HX0 := Lib.hid k1
  have HY0 := Lib.hid k2
  have HCX := Lib.hid hcx
  have HCY := Lib.hid hcy
  have hl6 := hcx.1.len1
  have hl7 := hcy.1.len1
  obtain ⟨hs0, hs1⟩ := hs
  have hmk := run_make_row' (P := Tryd.prog) 23 48 (.slice none 0 0) 24 Tryd.underlying23 Tryd.infoSS rfl .i64 .i64 ds.length (by omega) (by omega)
  obtain ⟨w1, hw1⟩ : ∃ w1, w1 = ((w.alloc (.cells #[.int .i64 p, .slice ad ds.length cap, .slice am ms.length capm] 30)).alloc (.cells #[.int .i64 p2, .slice ad2 ds2.length cap2, .slice am2 ms2.length capm2] 30)) := ⟨_, rfl⟩
  rw [← hw1] at HX0 HY0
  have c0 := HX0.out.c0
  have c1 := HX0.out.c1
  have c2 := HX0.out.c2
  have hs1w : w.heap.size < w1.heap.size := HX0.out.lt
  clear h h2 k1 k2 hcx hcy
  go_enter Tryd.func90, Tryd.ntmps90
  go_upto_region 1 with fail
  rw [← hw1]
  clear hw1
  go_wp2
  clear hmk c0 c1 c2
  go_loopw [17] (fun i wr => ∃ (k : Nat) (f : Nat → Value) (b : Nat → Nat), k ≤ ds.length ∧ i = .int .i64 k ∧ Hid (Below w1.heap.size w1 wr) ∧ Hid (FamT wr w1.heap.size ds.length k f b (rsF ds) (csF ds2 s) (fun _ _ _ => 0))) (fun i _ => ds.length - (intOf i).toNat)
  case atStart => exact ⟨0, _, fun _ => 0, Nat.zero_le _, rfl, Lib.hid (below_alloc1 _ _), Lib.hid (FamT.start (World.rowIs_made w1 _ _ _))⟩
  case round =>
    obtain ⟨k, f, b, hk, rfl, HB, HF⟩ := hrel
    obtain ⟨wx, hwx⟩ : ∃ wx : World, wx = wr := ⟨_, rfl⟩
    subst hwx
    by_cases hlt : k < ds.length
    · have hX := HX0.out.next HB.out
      have hY := HY0.out.next HB.out
      have HYY := Lib.hid hY
      have hcx0 := hX.cx
      have d0 := hY.c0
      have d1 := hY.c1
      have d2 := hY.c2
      have hdim := HCX.out.1.dim k
      obtain ⟨c, hc⟩ := Int.eq_ofNat_of_zero_le hdim.1
      have hc8 : c ≤ 8 := by omega
      have hz := dimZ_8 HCY.out ((k : Int) + s)
      obtain ⟨c2, hc2⟩ := Int.eq_ofNat_of_zero_le hz.1
      have hc28 : c2 ≤ 8 := by omega
      refine Sl.cases hcx0.dims (fun _ _ hx _ => absurd hlt (by simp [hx])) (fun bd od capd hvd _ _ hcl => ?_)
      injection hvd with e1 e2 e3
      clear e2
      subst e1 e3
      obtain ⟨u, hu, hru⟩ := hcl k hlt
      have hu2 : wx.cell? ⟨bd, od + k, none⟩ = some (.int .i64 (c : Int)) := by rw [hu, hru, ← hc, getD_of_lt _ hlt]
      have HRS : Hid (rsF ds k = c) := Lib.hid (by simp only [rsF]; rw [hc]; simp)
      have HCS : Hid (csF ds2 s k = c2) := Lib.hid (by simp only [csF]; rw [hc2]; simp)
      have HDA : Hid (∀ W, Below wx.heap.size wx W → Calls Tryd.prog 76 #[.agg #[.int .i64 p2, .slice ad2 ds2.length cap2, .slice am2 ms2.length capm2], .int .i64 ((k : Int) + s)] W (BR (.int .i64 (c2 : Int)) W)) := Lib.hid (fun W h => by
        have := dimAt_any p2 ((k : Int) + s) _ _ ds2 ms2 W (HYY.out.next h).cx (by omega)
        rwa [hc2] at this)
      have hrow := HF.out.row.cell hlt
      have hfro := HF.out.row.frozen k
      have hlr := HF.out.row.lt
      clear hu hru hcl hcx0 hX hY hdim hc hz hc2
      go_wp2_with fail
      refine (HDA.out _ (Below.refl _ _)).mono ?_
      rintro e w2 ⟨rfl, hb2⟩
      have HB2 := Lib.hid (HB.out.trans (hb2.mono HB.out.size))
      have HF2 := Lib.hid (HF.out.below hb2)
      have hrow2 := HF2.out.row.cell hlt
      have hfro2 := HF2.out.row.frozen k
      have hlr2 := HF2.out.row.lt
      clear hb2 hrow hfro hu2 HDA d0 d1 d2 hlr
      go_wp2_with fail
      refine (zeroTable_any c c2 _ (by omega) (by omega)).mono ?_
      rintro e w3 ⟨rfl, hm3⟩
      have HB3 := Lib.hid (HB2.out.trans (hm3.below.mono HB2.out.size))
      have HS3 := Lib.hid (HF2.out.step hlt HRS.out.symm HCS.out.symm hm3)
      have hrow3 := later hm3.below (Nat.le_refl _) hrow2
      have hfro3 : w3.frozen? ⟨w1.heap.size, k, none⟩ = false := (HF2.out.row.of_block (hm3.below.block _ hlr2)).frozen k
      have HB4 : Hid (Below w1.heap.size w1 (w3.setCell ⟨w1.heap.size, k, none⟩ (.slice (some ⟨w2.heap.size, 0, none⟩) c c))) := Lib.hid (HB3.out.setCell (Nat.le_refl _) _)
      clear hm3 hrow2 hfro2
      go_wp2
      go_roundw
      case rel => exact ⟨k + 1, _, _, by omega, by go_num, HB4, HS3⟩
      case measure => simp [intOf]; omega
    · have HKE : Hid (k = ds.length) := Lib.hid (by omega)
      have HXX := Lib.hid (HX0.out.next HB.out)
      go_wp2
      go_ret
      have hf := HF.out
      rw [HKE.out] at hf
      exact ⟨w1.heap.size, f, b, rfl, Nat.le_of_lt hs1w, hf, HXX.out.below⟩
end Go.Proofs.YtpchbceohnabnabDoor


namespace Go.Proofs.YtpchbceohnabnabDoor
open Go.RowKit

/-- Number q of what the first k paths make together. -/
def pS (p : Int) (fc : Nat → Int) (v : Nat → List Int) (q : Nat) : Nat → Int
  | 0 => 0
  | k + 1 => addMod p (fc k) (pS p fc v q k) ((v k).getD q 0)
theorem pS_bd {p : Int} (hp : 0 < p ∧ p ≤ 7) (fc : Nat → Int) (v : Nat → List Int) (q k : Nat) : 0 ≤ pS p fc v q k ∧ pS p fc v q k ≤ 6 := by
  cases k with
  | zero => simp [pS]
  | succ k =>
    simp only [pS, addMod]
    have h1 := Int.emod_nonneg (pS p fc v q k + fc k * (v k).getD q 0) (show p ≠ 0 by omega)
    have h2 := Int.emod_lt_of_pos (pS p fc v q k + fc k * (v k).getD q 0) hp.1
    omega
/-- The numbers when the tables ahead of n are done, of table n the rows ahead of i, of row i the paths ahead of k. -/
def spZ (p : Int) (fc : Nat → Int) (V : Nat → Nat → Nat → List Int) (np n i k : Nat) (n2 i2 q : Nat) : Int :=
  if n2 < n ∨ (n2 = n ∧ i2 < i) then pS p fc (V n2 i2) q np else if n2 = n ∧ i2 = i then pS p fc (V n2 i2) q k else 0
theorem spZ_zero (p : Int) (fc : Nat → Int) (V : Nat → Nat → Nat → List Int) (np n2 i2 q : Nat) : spZ p fc V np 0 0 0 n2 i2 q = 0 := by
  simp only [spZ, pS]
  rw [if_neg (by omega)]
  split <;> rfl
theorem spZ_row (p : Int) (fc : Nat → Int) (V : Nat → Nat → Nat → List Int) (np n i n2 i2 q : Nat) : spZ p fc V np n i np n2 i2 q = spZ p fc V np n (i + 1) 0 n2 i2 q := by
  simp only [spZ, pS]
  by_cases h : n2 < n ∨ (n2 = n ∧ i2 < i)
  · rw [if_pos h, if_pos (by omega)]
  · rw [if_neg h]
    by_cases h2 : n2 = n ∧ i2 = i
    · rw [if_pos h2, if_pos (by omega)]
    · rw [if_neg h2, if_neg (by omega)]
      split <;> rfl
theorem spZ_tab (p : Int) (fc : Nat → Int) (V : Nat → Nat → Nat → List Int) (np n r n2 i2 q : Nat) (h2 : n2 = n → i2 < r) : spZ p fc V np n r 0 n2 i2 q = spZ p fc V np (n + 1) 0 0 n2 i2 q := by
  simp only [spZ, pS]
  by_cases h : n2 < n ∨ (n2 = n ∧ i2 < r)
  · rw [if_pos h, if_pos (by omega)]
  · have e1 : ¬ (n2 < n + 1 ∨ (n2 = n + 1 ∧ i2 < 0)) := by omega
    rw [if_neg h, if_neg e1]
    split <;> split <;> rfl
theorem spZ_all (p : Int) (fc : Nat → Int) (V : Nat → Nat → Nat → List Int) (np n n2 i2 q : Nat) (h : n2 < n) : spZ p fc V np n 0 0 n2 i2 q = pS p fc (V n2 i2) q np := by
  simp only [spZ]
  rw [if_pos (Or.inl h)]
theorem spZ_at (p : Int) (fc : Nat → Int) (V : Nat → Nat → Nat → List Int) (np n i k q : Nat) : spZ p fc V np n i k n i q = pS p fc (V n i) q k := by
  simp [spZ]
theorem spZ_put (p : Int) (fc : Nat → Int) (V : Nat → Nat → Nat → List Int) (np n i k n2 i2 q : Nat) : (if n2 = n ∧ i2 = i then addMod p (fc k) (spZ p fc V np n i k n i q) ((V n i k).getD q 0) else spZ p fc V np n i k n2 i2 q) = spZ p fc V np n i (k + 1) n2 i2 q := by
  by_cases h : n2 = n ∧ i2 = i
  · rw [if_pos h, h.1, h.2, spZ_at, spZ_at, pS]
  · rw [if_neg h]
    simp only [spZ]
    by_cases h1 : n2 < n ∨ (n2 = n ∧ i2 < i)
    · rw [if_pos h1, if_pos h1]
    · rw [if_neg h1, if_neg h1, if_neg h, if_neg h]

def unitL (d i : Nat) : List Int := (List.range d).map fun q => if q = i then 1 else 0
theorem Tb.row1 {W : World} {g r c : Nat} {Z : Nat → Nat → Int} (h : Tb W g r c Z) {j : Nat} (hj : j < r) : L1 0 W (.slice (some ⟨g + 1 + j, 0, none⟩) c c) ((List.range c).map (Z j)) := by
  by_cases h0 : c = 0
  · subst h0
    exact Or.inl ⟨rfl, _, _, rfl⟩
  · refine Or.inr ⟨g + 1 + j, 0, c, by simp, Nat.zero_le _, by simp; omega, fun i hi => ?_⟩
    have hi' : i < c := by simpa using hi
    exact ⟨_, by rw [Nat.zero_add]; exact (h.rows j hj).cell hi', by simp [IsI]⟩
theorem Tb.but {W W' : World} {g r c b : Nat} {Z : Nat → Nat → Int} (h : Tb W g r c Z) (hb : But b W W') (ho : b < g ∨ g + 1 + r ≤ b) : Tb W' g r c Z :=
  ⟨h.top.of_block (hb.block _ h.top.lt (by omega)), fun j hj => (h.rows j hj).of_block (hb.block _ (h.rows j hj).lt (by omega)), Nat.le_trans h.lt hb.size⟩

/-- Paths with their factors and maps, in a row at block b. -/
def PathsAt (w : World) (b np : Nat) (fc : Nat → Int) (gl : Nat → List Value) : Prop :=
  ∀ j, j < np → ∃ mv, w.cell? ⟨b, j * 2, none⟩ = some (.int .i64 (fc j)) ∧ w.cell? ⟨b, j * 2 + 1, none⟩ = some mv ∧ MapsAt w mv (gl j) ∧ 0 < (gl j).length ∧ (gl j).length ≤ 1048576

theorem hloadP (w : World) {b : Nat} {x y : Value} (c0 : w.cell? ⟨b, 0, none⟩ = some x) (c1 : w.cell? ⟨b, 1, none⟩ = some y) : (Instr.loadAt 73 (.pointer (some ⟨b, 0, none⟩))).run Tryd.prog w = .ok (.agg #[x, y]) w := by go_simp

set_option maxHeartbeats 6400000 in
set_option maxRecDepth 100000 in
theorem sumOfPaths_any (p p2 s : Int) (np bp cp : Nat) (fc : Nat → Int) (gl : Nat → List Value) (V : Nat → Nat → Nat → List Int) (dv mv dv2 mv2 : Value) (ds : List Int) (ms : List (List (List Int))) (ds2 : List Int) (ms2 : List (List (List Int))) (w : World) (h : Cx 0 w dv mv ds ms) (h2 : Cx 0 w dv2 mv2 ds2 ms2) (hcx : IsCx p ds ms) (hcy : IsCx p2 ds2 ms2) (hs : -1 ≤ s ∧ s ≤ 1)
    (hP : PathsAt w bp np fc gl) (hfc : ∀ j, j < np → 0 ≤ fc j ∧ fc j ≤ 6) (hnp : np ≤ 100) (hch : ∀ n, n < ds.length → ∀ i, i < rsF ds n → ∀ j, j < np → ∃ z, Chain w (gl j) (n : Int) (unitL (rsF ds n) i) z (V n i j)) (hV : ∀ n, n < ds.length → ∀ i, i < rsF ds n → ∀ j, j < np → (V n i j).length = csF ds2 s n ∧ ∀ y ∈ V n i j, 0 ≤ y ∧ y ≤ 6) :
    Calls Tryd.prog 64 #[.agg #[.int .i64 p, dv, mv], .agg #[.int .i64 p2, dv2, mv2], .int .i64 s, .slice (some ⟨bp, 0, none⟩) np cp] w (Fam3R (famL ds.length (rsF ds) (csF ds2 s) fun n i q => pS p fc (V n i) q np) w) := by
  obtain ⟨ad, cap, rfl⟩ := Sl.shape h.dims
  obtain ⟨am, capm, rfl⟩ := Sl.shape h.maps
  obtain ⟨ad2, cap2, rfl⟩ := Sl.shape h2.dims
  obtain ⟨am2, capm2, rfl⟩ := Sl.shape h2.maps
  obtain ⟨k1, k2⟩ := bx_two (p := p) (p2 := p2) 30 h h2
  have HX0 := Lib.hid k1
  have HY0 := Lib.hid k2
  have HCX := Lib.hid hcx
  have HCY := Lib.hid hcy
  have HS := Lib.hid hs
  have HP := Lib.hid hP
  have HFC := Lib.hid hfc
  have HCH := Lib.hid hch
  have HV := Lib.hid hV
  have hl6 := hcx.1.len1
  have hp27 : 2 ≤ p ∧ p ≤ 7 := ⟨hcx.1.prime.lo, hcx.1.prime.hi⟩
  obtain ⟨hp2, hp7⟩ := hp27
  obtain ⟨w1, hw1⟩ : ∃ w1, w1 = ((w.alloc (.cells #[.int .i64 p, .slice ad ds.length cap, .slice am ms.length capm] 30)).alloc (.cells #[.int .i64 p2, .slice ad2 ds2.length cap2, .slice am2 ms2.length capm2] 30)) := ⟨_, rfl⟩
  rw [← hw1] at HX0 HY0
  have c0 := HX0.out.c0
  have c1 := HX0.out.c1
  have c2 := HX0.out.c2
  have d0 := HY0.out.c0
  have d1 := HY0.out.c1
  have d2 := HY0.out.c2
  have hs1w : w.heap.size < w1.heap.size := HX0.out.lt
  have HB01 := Lib.hid HX0.out.below
  have HZF := Lib.hid (zeroFamT_any p p2 s _ _ _ _ ds ms ds2 ms2 w1 HX0.out.cx HY0.out.cx hcx hcy hs)
  clear h h2 k1 k2 hcx hcy hP hfc hch hV hs
  go_enter Tryd.func64, Tryd.ntmps64
  go_upto_region 1 with fail
  rw [← hw1]
  clear hw1
  go_wp2_with fail
  refine HZF.out.mono ?_
  rintro e w2 ⟨G, f, gs, rfl, hG, hF, hb2⟩
  have HF := Lib.hid (hF.congr (Z' := spZ p fc V np 0 0 0) (fun n _ j _ q _ => (spZ_zero p fc V np n j q).symm))
  have HB2 := Lib.hid hb2
  clear hF hb2 HZF c0 c1 c2 d0 d1 d2
  go_wp2
  go_loopw [22] (fun i wr => ∃ (n : Nat), n ≤ ds.length ∧ i = .int .i64 n ∧ Hid (Below w1.heap.size w1 wr) ∧ Hid (FamT wr G ds.length ds.length f gs (rsF ds) (csF ds2 s) (spZ p fc V np n 0 0))) (fun i _ => ds.length - (intOf i).toNat)
  case atStart => exact ⟨0, Nat.zero_le _, rfl, HB2, HF⟩
  case round =>
    obtain ⟨n, hn, rfl, HB, HFR⟩ := hrel
    obtain ⟨wx, hwx⟩ : ∃ wx : World, wx = wr := ⟨_, rfl⟩
    subst hwx
    by_cases hlt : n < ds.length
    · have hX := HX0.out.next HB.out
      have c1 := hX.c1
      obtain ⟨r, hr⟩ : ∃ r, r = rsF ds n := ⟨_, rfl⟩
      have hdim := HCX.out.1.dim n
      have hr2 : ds.getD n 0 = (r : Int) := by rw [hr]; simp only [rsF]; omega
      have hr8 : r ≤ 8 := by omega
      obtain ⟨c, hc⟩ : ∃ c, c = csF ds2 s n := ⟨_, rfl⟩
      have hc8 : c ≤ 8 := by rw [hc]; simp only [csF]; have := dimZ_8 HCY.out ((n : Int) + s); omega
      refine Sl.cases hX.cx.dims (fun _ _ hx _ => absurd hlt (by simp [hx])) (fun bd od capd hvd _ _ hcl => ?_)
      injection hvd with e1 e2 e3
      clear e2
      subst e1 e3
      obtain ⟨u, hu, hru⟩ := hcl n hlt
      have hu2 : wx.cell? ⟨bd, od + n, none⟩ = some (.int .i64 (r : Int)) := by rw [hu, hru, ← hr2, getD_of_lt _ hlt]
      obtain ⟨g, hg⟩ : ∃ g, g = gs n := ⟨_, rfl⟩
      have hrow : wx.cell? ⟨G, n, none⟩ = some (.slice (some ⟨g, 0, none⟩) r r) := by have := HFR.out.row.cell hlt; rwa [HFR.out.val n hlt, ← hr, ← hg] at this
      have HR := Lib.hid hr
      have HC := Lib.hid hc
      have HG := Lib.hid hg
      clear hu hru hcl hX hdim hr2 hr hc hg
      go_wp2_with fail
      refine (identityTable_any r _ (by omega)).mono ?_
      rintro e w3 ⟨rfl, hm3⟩
      have HB3 := Lib.hid (HB.out.trans (hm3.below.mono HB.out.size))
      have HF3 := Lib.hid (HFR.out.below hm3.below)
      have HU3 : Hid (Tb w3 wx.heap.size r r (fun j i => if i = j then 1 else 0)) := Lib.hid hm3.tb
      obtain ⟨gi, hgi⟩ : ∃ gi, gi = wx.heap.size := ⟨_, rfl⟩
      have hgg : g + 1 + r ≤ gi := by have := (HFR.out.tb n hlt).lt; rw [← HR.out, ← HG.out, ← hgi] at this; exact this
      have hg1 : w1.heap.size < g := by have := HFR.out.lo n hlt; rw [← HG.out] at this; omega
      rw [← hgi] at HU3 ⊢
      have HF0 := Lib.hid HFR.out
      clear hm3 hrow hu2 c1 hgi
      go_wp2
      go_loopw [34] (fun i wr => ∃ (i0 : Nat), i0 ≤ r ∧ i = .int .i64 i0 ∧ Hid (Below w1.heap.size w1 wr) ∧ Hid (FamT wr G ds.length ds.length f gs (rsF ds) (csF ds2 s) (spZ p fc V np n i0 0)) ∧ Hid (Tb wr gi r r (fun j i => if i = j then 1 else 0))) (fun i _ => r - (intOf i).toNat)
      case atStart => exact ⟨0, Nat.zero_le _, rfl, HB3, HF3, HU3⟩
      case round =>
        obtain ⟨i0, hi0, rfl, HB4, HF4, HU4⟩ := hrel
        obtain ⟨wy, hwy⟩ : ∃ wy : World, wy = wr := ⟨_, rfl⟩
        subst hwy
        by_cases hlt2 : i0 < r
        · have hurow := HU4.out.top.cell hlt2
          go_wp2
          clear hurow
          go_loopw [41] (fun i wr => ∃ (k : Nat), k ≤ np ∧ i = .int .i64 k ∧ Hid (Below w1.heap.size w1 wr) ∧ Hid (FamT wr G ds.length ds.length f gs (rsF ds) (csF ds2 s) (spZ p fc V np n i0 k)) ∧ Hid (Tb wr gi r r (fun j i => if i = j then 1 else 0))) (fun i _ => np - (intOf i).toNat)
          case atStart => exact ⟨0, Nat.zero_le _, rfl, HB4, HF4, HU4⟩
          case round =>
            obtain ⟨k, hk, rfl, HB5, HF5, HU5⟩ := hrel
            obtain ⟨wz, hwz⟩ : ∃ wz : World, wz = wr := ⟨_, rfl⟩
            subst hwz
            by_cases hlt3 : k < np
            · obtain ⟨mvv, hq0, hq1, hma, hgl0, hgl1⟩ := HP.out k hlt3
              have HBW : Hid (Below w.heap.size w wz) := Lib.hid (HB01.out.trans (HB5.out.mono HB01.out.size))
              have q0 := later HBW.out (Nat.le_refl _) hq0
              have q1 := later HBW.out (Nat.le_refl _) hq1
              have HMA := Lib.hid hma
              obtain ⟨bm, om, cm, hmv, _⟩ := hma
              subst hmv
              obtain ⟨wq, hwq⟩ : ∃ wq, wq = wz.alloc (.cells #[.int .i64 (fc k), .slice (some ⟨bm, om, none⟩) (gl k).length cm] 73) := ⟨_, rfl⟩
              have hbq : Below wz.heap.size wz wq := by rw [hwq]; exact below_alloc1 _ _
              have pa0 : wq.cell? ⟨wz.heap.size, 0, none⟩ = some (.int .i64 (fc k)) := by rw [hwq]; simp
              have pa1 : wq.cell? ⟨wz.heap.size, 1, none⟩ = some (.slice (some ⟨bm, om, none⟩) (gl k).length cm) := by rw [hwq]; simp
              have hsq : wq.heap.size = wz.heap.size + 1 := by rw [hwq]; simp
              have HFQ := Lib.hid (HF5.out.below hbq)
              have HUQ := Lib.hid (HU5.out.below hbq)
              have HTQ : Hid (Tb wq g r c (spZ p fc V np n i0 k n)) := Lib.hid (by have := HFQ.out.tb n hlt; rwa [← HG.out, ← HR.out, ← HC.out] at this)
              have HBQ : Hid (Below w1.heap.size w1 wq) := Lib.hid (HB5.out.trans (hbq.mono HB5.out.size))
              have HBWQ : Hid (Below w.heap.size w wq) := Lib.hid (HBW.out.trans (hbq.mono HBW.out.size))
              have hgz : gi + 1 + r ≤ wz.heap.size := HU5.out.lt
              have hxq := HX0.out.next HBQ.out
              have x0 := hxq.c0
              have hgw : w.heap.size < w1.heap.size := hs1w
              obtain ⟨b, hb⟩ : ∃ b, b = g + 1 + i0 := ⟨_, rfl⟩
              have HROW : Hid (wq.rowIs b 2 c (fun q => .int .i64 (spZ p fc V np n i0 k n i0 q))) := Lib.hid (by rw [hb]; exact HTQ.out.rows i0 hlt2)
              have hbb : g < b ∧ b < gi ∧ b < wz.heap.size := by omega
              have htop : wq.cell? ⟨g, 0 + i0, none⟩ = some (.slice (some ⟨b, 0, none⟩) c c) := by rw [hb, Nat.zero_add]; exact HTQ.out.top.cell hlt2
              obtain ⟨hbb1, hbb2, hbb3⟩ := hbb
              have HADD : Hid (Calls Tryd.prog 92 #[.agg #[.int .i64 (fc k), .slice (some ⟨bm, om, none⟩) (gl k).length cm], .int .i64 p, .slice (some ⟨b, 0, none⟩) c c, .agg #[.int .i64 (n : Int), .slice (some ⟨gi + 1 + i0, 0, none⟩) r r]] wq.drew (AddR b c (fun q => addMod p (fc k) (spZ p fc V np n i0 k n i0 q) ((V n i0 k).getD q 0)) wq.drew)) := Lib.hid (by
                obtain ⟨z, hz⟩ := HCH.out n hlt i0 (by rw [← HR.out]; exact hlt2) k hlt3
                obtain ⟨hv1, hv2⟩ := HV.out n hlt i0 (by rw [← HR.out]; exact hlt2) k hlt3
                rw [← HR.out] at hz
                rw [← HC.out] at hv1
                exact addTo_any p (fc k) n z b c _ (unitL r i0) (V n i0 k) (gl k) _ _ w wq.drew HBWQ.out.drew HROW.out.drew HMA.out ⟨hgl0, hgl1⟩ ((HUQ.out.below (Below.refl _ _).drew).row1 hlt2) hz (by omega) (HFC.out k hlt3) (fun q _ => by rw [spZ_at]; exact pS_bd (by omega) fc (V n i0) q k) hv1 hv2 (by omega))
              have S0 : Hid (But b wq wq.drew) := Lib.hid (But.refl _ _).drew
              have HSQ : Hid (∀ W, But b wq W → W.cell? ⟨wz.heap.size, 0, none⟩ = some (.int .i64 (fc k)) ∧ W.cell? ⟨wz.heap.size, 1, none⟩ = some (.slice (some ⟨bm, om, none⟩) (gl k).length cm) ∧ W.cell? ⟨w.heap.size, 0, none⟩ = some (.int .i64 p) ∧ W.cell? ⟨g, 0 + i0, none⟩ = some (.slice (some ⟨b, 0, none⟩) c c)) := Lib.hid (fun W h => ⟨by rw [h.cell (by omega) (by omega)]; exact pa0, by rw [h.cell (by omega) (by omega)]; exact pa1, by rw [h.cell (cell_lt x0) (by omega)]; exact x0, by rw [h.cell (cell_lt htop) (by omega)]; exact htop⟩)
              clear hq0 hq1 hxq x0 htop pa0 pa1 hbq
              go_upto_region 11 with fail
              rw [← hwq]
              refine wp_region_held_drew (S := fun W => Hid (But b wq W)) (by kernel_rfl) S0 (fun _ => ?_)
              refine held_take (i := 0) (v := .agg #[.int .i64 (fc k), .slice (some ⟨bm, om, none⟩) (gl k).length cm]) (some 45) rfl rfl (by kernel_rfl) (by kernel_rfl) (by kernel_rfl) (fun _ _ _ h => h) (yieldsIf_cell (by kernel_rfl) rfl (by kernel_rfl) (fun W h => hloadP W (HSQ.out W h.out).1 (HSQ.out W h.out).2.1)) S0 ?_
              refine held_take (i := 1) (v := .pointer (some ⟨w.heap.size, 0, none⟩)) (some 46) rfl rfl (by kernel_rfl) (by kernel_rfl) (by kernel_rfl) (fun _ _ _ h => h) (yieldsIf_run (by kernel_rfl) (fun W _ => by kernel_rfl)) S0 ?_
              refine held_take (i := 2) (v := .int .i64 p) (some 47) rfl rfl (by kernel_rfl) (by kernel_rfl) (by kernel_rfl) (fun _ _ _ h => h) (yieldsIf_cell (by kernel_rfl) rfl (by kernel_rfl) (fun W h => hload W (HSQ.out W h.out).2.2.1)) S0 ?_
              refine held_take (i := 3) (v := .slice (some ⟨g, 0, none⟩) r r) (some 48) rfl rfl (by kernel_rfl) (by kernel_rfl) (by kernel_rfl) (fun _ _ _ h => h) (yieldsIf_move (by kernel_rfl) rfl (by kernel_rfl)) S0 ?_
              refine held_take (i := 4) (v := .int .i64 (i0 : Int)) (some 49) rfl rfl (by kernel_rfl) (by kernel_rfl) (by kernel_rfl) (fun _ _ _ h => h) (yieldsIf_move (by kernel_rfl) rfl (by kernel_rfl)) S0 ?_
              refine held_take (i := 5) (v := .pointer (some ⟨g, 0 + i0, none⟩)) (some 50) rfl rfl (by kernel_rfl) (by kernel_rfl) (by kernel_rfl) (fun _ _ _ h => h) (yieldsIf_index (by kernel_rfl) rfl (by kernel_rfl) (by kernel_rfl) (hidxS g 0 r hlt2)) S0 ?_
              refine held_take (i := 6) (v := .slice (some ⟨b, 0, none⟩) c c) (some 51) rfl rfl (by kernel_rfl) (by kernel_rfl) (by kernel_rfl) (fun _ _ _ h => h) (yieldsIf_cell (by kernel_rfl) rfl (by kernel_rfl) (fun W h => hloadS W (HSQ.out W h.out).2.2.2)) S0 ?_
              refine held_take (i := 7) (v := .int .i64 (n : Int)) (some 52) rfl rfl (by kernel_rfl) (by kernel_rfl) (by kernel_rfl) (fun _ _ _ h => h) (yieldsIf_move (by kernel_rfl) rfl (by kernel_rfl)) S0 ?_
              refine held_take (i := 8) (v := .slice (some ⟨gi + 1 + i0, 0, none⟩) r r) (some 53) rfl rfl (by kernel_rfl) (by kernel_rfl) (by kernel_rfl) (fun _ _ _ h => h) (yieldsIf_move (by kernel_rfl) rfl (by kernel_rfl)) S0 ?_
              refine held_take (i := 9) (v := .agg #[.int .i64 (n : Int), .slice (some ⟨gi + 1 + i0, 0, none⟩) r r]) (some 54) rfl rfl (by kernel_rfl) (by kernel_rfl) (by kernel_rfl) (fun _ _ _ h => h) (yieldsIf_run (by kernel_rfl) (fun W _ => by kernel_rfl)) S0 ?_
              refine held_enter (i := 10) (some 55) (f := 92) (args := #[.agg #[.int .i64 (fc k), .slice (some ⟨bm, om, none⟩) (gl k).length cm], .int .i64 p, .slice (some ⟨b, 0, none⟩) c c, .agg #[.int .i64 (n : Int), .slice (some ⟨gi + 1 + i0, 0, none⟩) r r]]) (by kernel_rfl) rfl rfl rfl (by kernel_rfl) HADD.out ?_ (fun c w' h => by cases h.1) (fun w' h => by cases h.1)
              rintro e5 w5 ⟨he5, hb5, hr5⟩
              injection he5 with he5
              subst he5
              have HBU5 : Hid (But b wq w5) := Lib.hid (S0.out.trans hb5)
              have HFN : Hid (FamT w5 G ds.length ds.length f gs (rsF ds) (csF ds2 s) (spZ p fc V np n i0 (k + 1))) := Lib.hid ((HFQ.out.put (n := n) (i := i0) hlt (by rw [← HR.out]; exact hlt2) (y := fun q => addMod p (fc k) (spZ p fc V np n i0 k n i0 q) ((V n i0 k).getD q 0)) (by rw [← HG.out, ← hb]; exact HBU5.out) (by rw [← HG.out, ← hb, ← HC.out]; exact hr5)).congr (fun n2 _ j _ q _ => spZ_put p fc V np n i0 k n2 j q))
              have HUN : Hid (Tb w5 gi r r (fun j i => if i = j then 1 else 0)) := Lib.hid (HUQ.out.but HBU5.out (Or.inl hbb2))
              have HBN : Hid (Below w1.heap.size w1 w5) := Lib.hid (HBQ.out.trans (HBU5.out.below HBQ.out.size (by omega)))
              refine ⟨HBU5, ?_⟩
              refine wpAnyH_done (by kernel_rfl) ?_ _
              simp only [Act.put, List.setIfInBounds_toArray, List.set_cons_zero, List.set_cons_succ]
              clear hb5 hr5 S0 HSQ HADD hwq hb hbb1 hbb2 hbb3 hgz q0 q1
              go_wp2
              go_roundw
              case rel => exact ⟨k + 1, by omega, by go_num, HBN, HFN, HUN⟩
              case measure => simp [intOf]; omega
            · have hke : k = np := by omega
              have HFN : Hid (FamT wz G ds.length ds.length f gs (rsF ds) (csF ds2 s) (spZ p fc V np n (i0 + 1) 0)) := Lib.hid (HF5.out.congr (fun n2 _ j _ q _ => by rw [hke]; exact spZ_row p fc V np n i0 n2 j q))
              clear hke
              go_wp2
              go_roundw
              case rel => exact ⟨i0 + 1, by omega, by go_num, HB5, HFN, HU5⟩
              case measure => simp [intOf]; omega
        · have hie : i0 = r := by omega
          have HFN : Hid (FamT wy G ds.length ds.length f gs (rsF ds) (csF ds2 s) (spZ p fc V np (n + 1) 0 0)) := Lib.hid (HF4.out.congr (fun n2 _ j hj q _ => by rw [hie]; exact spZ_tab p fc V np n r n2 j q (fun e => by rw [HR.out, ← e]; exact hj)))
          clear hie
          go_wp2
          go_roundw
          case rel => exact ⟨n + 1, by omega, by go_num, HB4, HFN⟩
          case measure => simp [intOf]; omega
    · have hne : n = ds.length := by omega
      have HXX := Lib.hid (HX0.out.next HB.out)
      have HRW : Hid (Rw3 w.heap.size wx.heap.size wx (.slice (some ⟨G, 0, none⟩) ds.length ds.length) (famL ds.length (rsF ds) (csF ds2 s) fun n i q => pS p fc (V n i) q np)) := Lib.hid (by
        have h1 := HFR.out.congr (Z' := fun n i q => pS p fc (V n i) q np) (fun n2 hn2 j _ q _ => spZ_all p fc V np n n2 j q (by omega))
        refine h1.rw3 (by omega) (by omega) (fun j hj => ⟨?_, ?_⟩)
        · simp only [rsF]; have := HCX.out.1.dim j; omega
        · simp only [csF]; have := dimZ_8 HCY.out ((j : Int) + s); omega)
      clear hne
      go_wp2
      go_ret
      exact ⟨_, rfl, HRW.out, HXX.out.below⟩
end Go.Proofs.YtpchbceohnabnabDoor


namespace Go.Proofs.YtpchbceohnabnabDoor
open Go.RowKit

theorem unitL_length (d i : Nat) : (unitL d i).length = d := by simp [unitL]
theorem unitL_getD {d i k : Nat} (hk : k < d) : (unitL d i).getD k 0 = if k = i then 1 else 0 := by
  rw [getD_of_lt _ (by rw [unitL_length]; exact hk)]
  simp [unitL]
theorem unitL_ok {p : Int} (hp : 2 ≤ p) (d i : Nat) : ∀ x ∈ unitL d i, 0 ≤ x ∧ x ≤ p - 1 := fun x hx => by
  obtain ⟨q, _, rfl⟩ := List.mem_map.1 hx
  split <;> omega
theorem unit_apOk {p c : Int} {cn d i : Nat} {t : List (List Int)} (hp : IsP p) (hc : c = (cn : Int)) (ht : TabOk p (d : Int) c t) : ApOk p cn (unitL d i) t := by
  refine ⟨hp, ?_, unitL_ok hp.lo d i, fun r hr => by have := ht.2 r hr; rwa [hc] at this⟩
  rw [unitL_length]
  have := ht.1
  omega
theorem unit_apTo {p : Int} {c d i : Nat} {t : List (List Int)} (ok : ApOk p c (unitL d i) t) (hi : i < d) : ∀ k, k ≤ d → ∀ q, q < c → (apTo p c (unitL d i) t k).getD q 0 = if k ≤ i then 0 else (t.getD i []).getD q 0 := by
  intro k
  induction k with
  | zero => intro _ q hq; simp [apTo, hq]
  | succ k ih =>
    intro hk q hq
    have hkl : k < (unitL d i).length := by rw [unitL_length]; omega
    rw [apTo_at ok hkl hq, ih (by omega) q hq, unitL_getD (by omega)]
    have hp := ok.prime.lo
    have hrow := ok.row hkl
    have hil : i < (unitL d i).length := by rw [unitL_length]; omega
    have hri := ok.row hil
    have hb : 0 ≤ (t.getD i []).getD q 0 ∧ (t.getD i []).getD q 0 ≤ p - 1 := by
      have hl : q < (t.getD i []).length := by have := hri.1; omega
      rw [getD_of_lt _ hl]
      exact hri.2 _ (List.getElem_mem hl)
    by_cases e : k = i
    · subst e
      rw [if_pos (Nat.le_refl _), if_pos rfl, if_neg (by omega), Int.zero_add, Int.one_mul]
      exact Int.emod_eq_of_lt hb.1 (by omega)
    · rw [if_neg e, Int.zero_mul, Int.add_zero]
      by_cases e2 : k < i
      · rw [if_pos (by omega), if_pos (by omega), Int.zero_emod]
      · rw [if_neg (by omega), if_neg (by omega)]
        exact Int.emod_eq_of_lt hb.1 (by omega)
theorem unit_apT {p : Int} {c d i : Nat} {t : List (List Int)} (ok : ApOk p c (unitL d i) t) (hi : i < d) : apT p c (unitL d i) t = t.getD i [] := by
  have hil : i < (unitL d i).length := by rw [unitL_length]; omega
  have hri := ok.row hil
  have hl : (apT p c (unitL d i) t).length = c := apTo_length ok (Nat.le_refl _)
  refine List.ext_getElem (by rw [hl]; have := hri.1; omega) fun q h1 h2 => ?_
  have hq : q < c := by omega
  have := unit_apTo ok hi d (Nat.le_refl _) q hq
  rw [if_neg (by omega)] at this
  rw [← getD_of_lt 0 h1, ← getD_of_lt 0 h2, ← this]
  simp only [apT, unitL_length]

/-- A family's map leads as its tables say. -/
theorem led_of {p2 : Int} {n c2 : Nat} {dv2 mv2 fv : Value} {ds2 : List Int} {ms2 fs : List (List (List Int))} {vs : List Int} {w : World} (h2 : Cx 0 w dv2 mv2 ds2 ms2) (hf : L3 0 w fv fs) (hcy : IsCx p2 ds2 ms2) (hn : n < fs.length) (hnb : n ≤ 100) (hc2 : dimZ ds2 (n : Int) = (c2 : Int)) (ok : ApOk p2 c2 vs (fs.getD n [])) (hmf : fs.length ≤ 1048576) (hmv : vs.length ≤ 1048576) :
    Led w (.agg #[.int .i64 p2, dv2, mv2, .int .i64 0, fv]) (n : Int) vs (n : Int) (apT p2 c2 vs (fs.getD n [])) := fun W vv hb hv => by
  have h0 : (n : Int) + 0 = (n : Int) := Int.add_zero _
  have := lead_any p2 0 n c2 dv2 mv2 fv vv ds2 ms2 fs vs W (h2.below hb) (hf.below hb) hv hcy hn hnb (by omega) (by rw [h0]; exact hc2) ok hmf hmv
  rwa [h0] at this
theorem along_any (f : Int) (ad : Option Addr) (n c : Nat) (w : World) : Calls Tryd.prog 65 #[.int .i64 f, .slice ad n c] w (BR (.agg #[.int .i64 f, .slice ad n c]) w) := by
  have HRES : Hid (Tryd.f65.results = #[.cell 4 73]) := Lib.hid (by kernel_rfl)
  go_enter Tryd.func65, Tryd.ntmps65
  go_wp2
  refine bodyPost_ret (v := .agg #[.int .i64 f, .slice ad n c]) ?_ rfl ⟨rfl, ?_⟩
  · simp only [results, HRES.out]
    go_simp
  · first | exact below_alloc1 _ _ | exact (((Below.refl _ _).alloc (Nat.le_refl _) _).setCell (Nat.le_refl _) _).setCell (Nat.le_refl _) _

/-- The sum of a family and k times another one. -/
def afZ (p k : Int) (fs gs : List (List (List Int))) (n i q : Nat) : Int := (((fs.getD n []).getD i []).getD q 0 + k * ((gs.getD n []).getD i []).getD q 0) % p
theorem famL_congr {m : Nat} {rs cs : Nat → Nat} {Z Z' : Nat → Nat → Nat → Int} (h : ∀ n, n < m → ∀ i, i < rs n → ∀ q, q < cs n → Z n i q = Z' n i q) : famL m rs cs Z = famL m rs cs Z' := by
  unfold famL
  refine List.map_congr_left fun n hn => ?_
  unfold tableOf
  refine List.map_congr_left fun i hi => List.map_congr_left fun q hq => ?_
  exact h n (List.mem_range.1 hn) i (List.mem_range.1 hi) q (List.mem_range.1 hq)
theorem fam_row {p s : Int} {ds ds2 : List Int} {fs : List (List (List Int))} (hF : FamOk p ds ds2 s fs) {n i : Nat} (hn : n < ds.length) (hi : i < rsF ds n) (hds : 0 ≤ ds.getD n 0) (hc0 : 0 ≤ dimZ ds2 ((n : Int) + s)) :
    n < fs.length ∧ TabOk p (rsF ds n : Int) (csF ds2 s n : Int) (fs.getD n []) ∧ i < (fs.getD n []).length ∧ RowOk p (csF ds2 s n : Int) ((fs.getD n []).getD i []) := by
  have hl : n < fs.length := by have := hF.1; omega
  have e1 : (rsF ds n : Int) = ds.getD n 0 := by simp only [rsF]; omega
  have e2 : (csF ds2 s n : Int) = dimZ ds2 ((n : Int) + s) := by simp only [csF]; omega
  have ht := hF.2 n hl
  rw [← e1, ← e2] at ht
  have hil : i < (fs.getD n []).length := by have := ht.1; omega
  refine ⟨hl, ht, hil, ?_⟩
  rw [getD_of_lt _ hil]
  exact ht.2 _ (List.getElem_mem hil)
theorem chain_of {p : Int} {n i : Nat} {dv2 mv2 fv : Value} {ds : List Int} {ms : List (List (List Int))} {ds2 : List Int} {ms2 fs : List (List (List Int))} {w : World} (h2 : Cx 0 w dv2 mv2 ds2 ms2) (hf : L3 0 w fv fs) (hcx : IsCx p ds ms) (hcy : IsCx p ds2 ms2) (hF : FamOk p ds ds2 0 fs) (hn : n < ds.length) (hi : i < rsF ds n) :
    Led w (.agg #[.int .i64 p, dv2, mv2, .int .i64 0, fv]) (n : Int) (unitL (rsF ds n) i) (n : Int) ((fs.getD n []).getD i []) := by
  have hl6 := hcx.1.len1
  have hz := dimZ_8 hcy ((n : Int) + 0)
  obtain ⟨h1, h3, h4, h5⟩ := fam_row hF hn hi (hcx.1.dim n).1 hz.1
  have ok := unit_apOk (i := i) hcx.1.prime (cn := csF ds2 0 n) rfl h3
  have hd := hcx.1.dim n
  have := led_of (n := n) (c2 := csF ds2 0 n) h2 hf hcy h1 (by omega) (by have h0 : (n : Int) + 0 = (n : Int) := Int.add_zero _; simp only [csF]; rw [h0] at hz ⊢; omega) ok (by have := hF.1; omega) (by rw [unitL_length]; simp only [rsF]; omega)
  rwa [unit_apT ok hi] at this
theorem fam_vec {p : Int} {n i : Nat} {ds : List Int} {ms : List (List (List Int))} {ds2 : List Int} {ms2 fs : List (List (List Int))} (hcx : IsCx p ds ms) (hcy : IsCx p ds2 ms2) (hF : FamOk p ds ds2 0 fs) (hn : n < ds.length) (hi : i < rsF ds n) :
    ((fs.getD n []).getD i []).length = csF ds2 0 n ∧ ∀ y ∈ (fs.getD n []).getD i [], 0 ≤ y ∧ y ≤ 6 := by
  obtain ⟨_, _, _, h5⟩ := fam_row hF hn hi (hcx.1.dim n).1 (dimZ_8 hcy ((n : Int) + 0)).1
  have hp := hcx.1.prime.hi
  refine ⟨by have := h5.1; omega, fun y hy => ?_⟩
  have := h5.2 y hy
  omega
end Go.Proofs.YtpchbceohnabnabDoor


namespace Go.Proofs.YtpchbceohnabnabDoor
open Go.RowKit
def VrBC (P : Bool → Int → Prop) (w : World) (e : Ending) (w' : World) : Prop := ∃ b c, e = .returned (.tuple #[.bool b, .int .i64 c]) ∧ Below w.heap.size w w' ∧ P b c
end Go.Proofs.YtpchbceohnabnabDoor


namespace Go.Proofs.YtpchbceohnabnabDoor
open Go.RowKit

theorem dimZ_neg {ds : List Int} {n : Int} (h : n < 0) : dimZ ds n = 0 := by
  unfold dimZ
  rw [if_neg (by omega)]
theorem dimZ_out {ds : List Int} {n : Int} (h : ¬ (0 ≤ n ∧ n ≤ (ds.length : Int) - 1)) : dimZ ds n = 0 := if_neg h
theorem dimZ_in {ds : List Int} {n : Int} {k : Nat} (e : n = (k : Int)) (h : k < ds.length) : dimZ ds n = ds[k] := by
  unfold dimZ
  rw [if_pos (by omega), e, Int.toNat_natCast, getD_of_lt _ h]
end Go.Proofs.YtpchbceohnabnabDoor


namespace Go.Proofs.YtpchbceohnabnabDoor
open Go.RowKit

section
variable {p : Int} {ds : List Int} {ms fs : List (List (List Int))}
theorem PreOk.dsOk (h : PreOk p ds ms) : DsOk ds := ⟨h.len1, h.dims⟩
theorem cyc_tabP (h : PreOk p ds ms) {i : Nat} (hi : i < ds.length) : TabOk p (ds.getD i 0) (dimZ ds ((i : Int) + (-1))) (cycT ds ms i) := by
  have hd := h.dim i
  cases i with
  | zero =>
    have e : dimZ ds (((0 : Nat) : Int) + (-1)) = 0 := dimZ_neg (by omega)
    rw [e, cycT_zero ds ms hi]
    refine ⟨?_, fun r hr => ?_⟩
    · rw [List.length_replicate]
      unfold dimN
      simp only [Int.toNat_natCast]
      omega
    · rw [(List.mem_replicate.1 hr).2]
      exact ⟨rfl, fun x hx => absurd hx (by simp)⟩
  | succ k =>
    have hk : k < ms.length := by have := h.mlen; omega
    rw [cycT_succP h hi, show (((k + 1 : Nat) : Int) + (-1)) = (k : Int) by omega, dimZ_in rfl (show k < ds.length by omega), ← getD_of_lt 0 (show k < ds.length by omega)]
    exact h.tabs k hk
theorem dfL_len (ds : List Int) (ms : List (List (List Int))) : (dfL ds ms).length = ds.length := by simp [dfL]
theorem dfL_get {i : Nat} (hi : i < ds.length) : (dfL ds ms).getD i [] = cycT ds ms i := by
  rw [getD_of_lt _ (by rw [dfL_len]; exact hi)]
  simp [dfL]
theorem dfL_fam (h : PreOk p ds ms) : FamOk p ds ds (-1) (dfL ds ms) := by
  refine ⟨dfL_len _ _, fun n hn => ?_⟩
  rw [dfL_len] at hn
  rw [dfL_get hn]
  exact cyc_tabP h hn
end

theorem led_df {p : Int} {n i : Nat} {dv2 mv2 fv : Value} {ds : List Int} {ms : List (List (List Int))} {w : World} (h2 : Cx 0 w dv2 mv2 ds ms) (hf : L3 0 w fv (dfL ds ms)) (hcx : PreOk p ds ms) (hn : n < ds.length) (hi : i < rsF ds n) :
    Led w (.agg #[.int .i64 p, dv2, mv2, .int .i64 (-1), fv]) (n : Int) (unitL (rsF ds n) i) ((n : Int) + (-1)) (((dfL ds ms).getD n []).getD i []) := fun W vv hb hv => by
  have hz := hcx.dsOk.dimZ ((n : Int) + (-1))
  obtain ⟨h1, h3, h4, h5⟩ := fam_row (dfL_fam hcx) hn hi (hcx.dim n).1 hz.1
  have ok := unit_apOk (i := i) hcx.prime (cn := csF ds (-1) n) rfl h3
  have hd := hcx.dim n
  have hl6 := hcx.len1
  have := leadD_any p (-1) n (csF ds (-1) n) dv2 mv2 fv vv ds ms (dfL ds ms) (unitL (rsF ds n) i) W (h2.below hb) (hf.below hb) hv hcx.dsOk h1 (by omega) (by omega) (by simp only [csF]; omega) ok (by rw [dfL_len]; omega) (by rw [unitL_length]; simp only [rsF]; omega)
  rwa [unit_apT ok hi] at this
theorem df_vec {p : Int} {n i : Nat} {ds : List Int} {ms : List (List (List Int))} (hcx : PreOk p ds ms) (hn : n < ds.length) (hi : i < rsF ds n) :
    (((dfL ds ms).getD n []).getD i []).length = csF ds (-1) n ∧ ∀ y ∈ ((dfL ds ms).getD n []).getD i [], 0 ≤ y ∧ y ≤ 6 := by
  obtain ⟨_, _, _, h5⟩ := fam_row (dfL_fam hcx) hn hi (hcx.dim n).1 (hcx.dsOk.dimZ ((n : Int) + (-1))).1
  have hp := hcx.prime.hi
  refine ⟨by have := h5.1; omega, fun y hy => ?_⟩
  have := h5.2 y hy
  omega

end Go.Proofs.YtpchbceohnabnabDoor


namespace Go.Proofs.YtpchbceohnabnabDoor
open Go.RowKit

set_option maxHeartbeats 3200000 in
set_option maxRecDepth 100000 in
theorem leadX_any (p2 s x : Int) (c2 : Nat) (dv2 mv2 fv vv : Value) (ds2 : List Int) (ms2 fs : List (List (List Int))) (vs : List Int) (w : World) (h2 : Cx 0 w dv2 mv2 ds2 ms2) (hf : L3 0 w fv fs) (hv : L1 0 w vv vs) (hcy : DsOk ds2) (hn : ¬ (0 ≤ x ∧ x ≤ (fs.length : Int) - 1)) (hnb : -1 ≤ x ∧ x ≤ 100) (hs : -1 ≤ s ∧ s ≤ 1) (hc2 : dimZ ds2 (x + s) = (c2 : Int)) (ok : ApOk p2 c2 vs []) (hmf : fs.length ≤ 1048576) (hmv : vs.length ≤ 1048576) :
    Calls Tryd.prog 66 #[.agg #[.int .i64 p2, dv2, mv2, .int .i64 s, fv], .agg #[.int .i64 x, vv]] w (LeadR (x + s) (apT p2 c2 vs []) w) := by
  obtain ⟨ad2, cap2, rfl⟩ := Sl.shape h2.dims
  obtain ⟨am2, capm2, rfl⟩ := Sl.shape h2.maps
  obtain ⟨af, cf, rfl⟩ := Sl.shape hf
  obtain ⟨av, cv, rfl⟩ := Sl.shape hv
  obtain ⟨wa, hwa⟩ : ∃ wa, wa = w.alloc (.cells #[.int .i64 p2, .slice ad2 ds2.length cap2, .slice am2 ms2.length capm2, .int .i64 s, .slice af fs.length cf] 69) := ⟨_, rfl⟩
  have hba : Below w.heap.size w wa := by rw [hwa]; exact below_alloc1 _ _
  have hsa : wa.heap.size = w.heap.size + 1 := by rw [hwa]; simp
  have a0 : wa.cell? ⟨w.heap.size, 0, none⟩ = some (.int .i64 p2) := by rw [hwa]; simp
  have a1 : wa.cell? ⟨w.heap.size, 1, none⟩ = some (.slice ad2 ds2.length cap2) := by rw [hwa]; simp
  have a2 : wa.cell? ⟨w.heap.size, 2, none⟩ = some (.slice am2 ms2.length capm2) := by rw [hwa]; simp
  have a3 : wa.cell? ⟨w.heap.size, 3, none⟩ = some (.int .i64 s) := by rw [hwa]; simp
  have a4 : wa.cell? ⟨w.heap.size, 4, none⟩ = some (.slice af fs.length cf) := by rw [hwa]; simp
  obtain ⟨wb, hwb⟩ : ∃ wb, wb = wa.alloc (.cells #[.int .i64 x, .slice av vs.length cv] 96) := ⟨_, rfl⟩
  have hbb : Below wa.heap.size wa wb := by rw [hwb]; exact below_alloc1 _ _
  have hsb : wb.heap.size = w.heap.size + 2 := by rw [hwb]; simp [hsa]
  have b0 : wb.cell? ⟨wa.heap.size, 0, none⟩ = some (.int .i64 x) := by rw [hwb]; simp
  have b1 : wb.cell? ⟨wa.heap.size, 1, none⟩ = some (.slice av vs.length cv) := by rw [hwb]; simp
  obtain ⟨w1, hw1a⟩ : ∃ w1, w1 = wb.alloc (.cells #[.int .i64 0, .slice none 0 0] 96) := ⟨_, rfl⟩
  have hbc : Below wb.heap.size wb w1 := by rw [hw1a]; exact below_alloc1 _ _
  have hsz : w.heap.size + 3 = w1.heap.size := by rw [hw1a]; simp [hsb]
  have ht1 : w1.there (w.heap.size + 2) 0 2 := by
    rw [← hsb, hw1a]
    exact there_new wb #[.int .i64 0, .slice none 0 0] 96 (n := 2) (by simp)
  have hw1 : w1 = (((w.alloc (.cells #[.int .i64 p2, .slice ad2 ds2.length cap2, .slice am2 ms2.length capm2, .int .i64 s, .slice af fs.length cf] 69)).alloc (.cells #[.int .i64 x, .slice av vs.length cv] 96)).alloc (.cells #[.int .i64 0, .slice none 0 0] 96)) := by rw [hw1a, hwb, hwa]
  have hb1 : Below w.heap.size w w1 := (hba.trans (hbb.mono (by omega))).trans (hbc.mono (by omega))
  have hab : Below wa.heap.size wa w1 := hbb.trans (hbc.mono (by omega))
  have g0 := later hab (Nat.le_refl _) a0
  have g1 := later hab (Nat.le_refl _) a1
  have g2 := later hab (Nat.le_refl _) a2
  have g3 := later hab (Nat.le_refl _) a3
  have g4 := later hab (Nat.le_refl _) a4
  have e0 := later hbc (Nat.le_refl _) b0
  have e1 := later hbc (Nat.le_refl _) b1
  rw [hsa] at e0 e1
  clear a0 a1 a2 a3 a4 b0 b1 hbb hbc hab hba hsa hsb hwa hwb hw1a
  have HB1 := Lib.hid hb1
  have HY1 := Lib.hid (h2.below hb1)
  have HF1 := Lib.hid (hf.below hb1)
  have HV1 := Lib.hid (hv.below hb1)
  have HOK := Lib.hid ok
  have HT1 := Lib.hid ht1
  have hl7 := hcy.len1
  have hc28 : c2 ≤ 8 := by have := hcy.dimZ (x + s); omega
  obtain ⟨hs0, hs1⟩ := hs
  have HDA : Hid (∀ W, Below w1.heap.size w1 W → Calls Tryd.prog 76 #[.agg #[.int .i64 p2, .slice ad2 ds2.length cap2, .slice am2 ms2.length capm2], .int .i64 (x + s)] W (BR (.int .i64 (c2 : Int)) W)) := Lib.hid (fun W h => by
    have := dimAt_any p2 (x + s) _ _ ds2 ms2 W (HY1.out.below h) (by omega)
    rwa [hc2] at this)
  have HAP : Hid (∀ W, Below w1.heap.size w1 W → Calls Tryd.prog 93 #[.int .i64 p2, .slice av vs.length cv, .slice none 0 0, .int .i64 (c2 : Int)] W (ApW p2 c2 vs [] W)) := Lib.hid (fun W h => applyTablew_any p2 c2 _ _ vs _ W HOK.out (HV1.out.below h) (Or.inl ⟨rfl, _, _, rfl⟩) hmv (by omega))
  have HIN : Hid (∀ W, Calls Tryd.prog 51 #[.int .i64 x, .int .i64 0, .int .i64 ((fs.length : Int) - 1)] W (QW (.bool false) W)) := Lib.hid (fun W => in_no hn W)
  have hwk : IntKind.i64.wrap (x + s) = x + s := IntWalk.i64_in _ (by omega)
  have HRES : Hid (Tryd.f66.results = #[.cell 4 96]) := Lib.hid (by kernel_rfl)
  have HIE : Hid ((Tryd.prog.info? 96).map (·.size) = some 2) := Lib.hid (by kernel_rfl)
  clear h2 hf hv hcy hc2 ok hb1 ht1
  go_enter Tryd.func66, Tryd.ntmps66
  go_upto_region 1 with fail
  rw [← hw1]
  clear hw1
  go_wp2_with fail
  refine (HIN.out _).mono ?_
  rintro e w' ⟨rfl, rfl⟩
  clear HIN hn
  go_upto_region 5 with fail
  have S0 : Hid (Below w1.heap.size w1 w1.drew) := Lib.hid (Below.refl _ _).drew
  refine wp_region_last (fun W => Hid (Below w1.heap.size w1 W)) 13 (by kernel_rfl) rfl (by kernel_rfl) ?_
  refine held_take (i := 0) (v := .int .i64 (x + s)) (some 25) rfl rfl (by kernel_rfl) (by kernel_rfl) (by kernel_rfl) (fun _ _ _ h => h) (yieldsIf_move (by kernel_rfl) rfl (by kernel_rfl)) S0 ?_
  refine held_take (i := 1) (v := .pointer (some ⟨w.heap.size, 0, none⟩)) (some 26) rfl rfl (by kernel_rfl) (by kernel_rfl) (by kernel_rfl) (fun _ _ _ h => h) (yieldsIf_run (by kernel_rfl) (fun W _ => by kernel_rfl)) S0 ?_
  refine held_take (i := 2) (v := .pointer (some ⟨w.heap.size, 0, none⟩)) (some 27) rfl rfl (by kernel_rfl) (by kernel_rfl) (by kernel_rfl) (fun _ _ _ h => h) (yieldsIf_run (by kernel_rfl) (fun W _ => by kernel_rfl)) S0 ?_
  refine held_take (i := 3) (v := .int .i64 p2) (some 28) rfl rfl (by kernel_rfl) (by kernel_rfl) (by kernel_rfl) (fun _ _ _ h => h) (yieldsIf_cell (by kernel_rfl) rfl (by kernel_rfl) (fun W h => hload W (later h.out (Nat.le_refl _) g0))) S0 ?_
  refine held_take (i := 4) (v := .pointer (some ⟨w.heap.size + 1, 1, none⟩)) (some 29) rfl rfl (by kernel_rfl) (by kernel_rfl) (by kernel_rfl) (fun _ _ _ h => h) (yieldsIf_run (by kernel_rfl) (fun W _ => by kernel_rfl)) S0 ?_
  refine held_take (i := 5) (v := .slice av vs.length cv) (some 30) rfl rfl (by kernel_rfl) (by kernel_rfl) (by kernel_rfl) (fun _ _ _ h => h) (yieldsIf_cell (by kernel_rfl) rfl (by kernel_rfl) (fun W h => hloadS W (later h.out (Nat.le_refl _) e1))) S0 ?_
  refine held_take (i := 6) (v := .slice none 0 0) (some 31) rfl rfl (by kernel_rfl) (by kernel_rfl) (by kernel_rfl) (fun _ _ _ h => h) (yieldsIf_move (by kernel_rfl) rfl (by kernel_rfl)) S0 ?_
  refine held_take (i := 7) (v := .pointer (some ⟨w.heap.size, 0, none⟩)) (some 32) rfl rfl (by kernel_rfl) (by kernel_rfl) (by kernel_rfl) (fun _ _ _ h => h) (yieldsIf_run (by kernel_rfl) (fun W _ => by kernel_rfl)) S0 ?_
  refine held_take (i := 8) (v := .agg #[.int .i64 p2, .slice ad2 ds2.length cap2, .slice am2 ms2.length capm2]) (some 33) rfl rfl (by kernel_rfl) (by kernel_rfl) (by kernel_rfl) (fun _ _ _ h => h) (yieldsIf_cell (by kernel_rfl) rfl (by kernel_rfl) (fun W h => hloadC W (later h.out (Nat.le_refl _) g0) (later h.out (Nat.le_refl _) g1) (later h.out (Nat.le_refl _) g2))) S0 ?_
  refine held_take (i := 9) (v := .int .i64 (x + s)) (some 34) rfl rfl (by kernel_rfl) (by kernel_rfl) (by kernel_rfl) (fun _ _ _ h => h) (yieldsIf_move (by kernel_rfl) rfl (by kernel_rfl)) S0 ?_
  refine held_enter (i := 10) (some 35) (f := 76) (args := #[.agg #[.int .i64 p2, .slice ad2 ds2.length cap2, .slice am2 ms2.length capm2], .int .i64 (x + s)]) (by kernel_rfl) rfl rfl rfl (by kernel_rfl) (HDA.out _ S0.out) ?_ (fun c w' h => by cases h.1) (fun w' h => by cases h.1)
  rintro e4 W4 ⟨he4, hb4⟩
  injection he4 with he4
  subst he4
  have S1 : Hid (Below w1.heap.size w1 W4) := Lib.hid (S0.out.trans hb4)
  refine ⟨S1, ?_⟩
  clear hb4
  refine held_enter (i := 11) (some 36) (f := 93) (args := #[.int .i64 p2, .slice av vs.length cv, .slice none 0 0, .int .i64 (c2 : Int)]) (by kernel_rfl) rfl rfl rfl (by kernel_rfl) (HAP.out _ S1.out) ?_ (fun c w' h => by obtain ⟨_, h, _⟩ := h; cases h) (fun w' h => by obtain ⟨_, h, _⟩ := h; cases h)
  rintro e5 W5 ⟨u5, he5, hw5, hb5⟩
  injection he5 with he5
  subst he5
  have S2 : Hid (Below w1.heap.size w1 W5) := Lib.hid (S1.out.trans (hb5.mono S1.out.size))
  have HW5 := Lib.hid hw5
  have hs4 : w1.heap.size ≤ W4.heap.size := S1.out.size
  obtain ⟨au, cu, hus⟩ := Sl.shape hw5.l1
  rw [apT_length' HOK.out] at hus
  subst hus
  refine ⟨S2, ?_⟩
  clear hb5 hw5
  refine held_take (i := 12) (v := .agg #[.int .i64 (x + s), .slice au c2 cu]) (some 37) rfl rfl (by kernel_rfl) (by kernel_rfl) (by kernel_rfl) (fun _ _ _ h => h) (yieldsIf_run (by kernel_rfl) (fun W _ => by kernel_rfl)) S2 ?_
  refine held_none (i := 13) (v := .bool false) rfl rfl (by kernel_rfl) (by kernel_rfl) (by kernel_rfl) (fun _ _ _ h => h) (yieldsIf_move (by kernel_rfl) rfl (by kernel_rfl)) S2 ?_
  have hth : W5.there (w.heap.size + 2) 0 (#[.int .i64 (x + s), .slice au c2 cu] : Array Value).size := there_below HT1.out S2.out (by omega)
  have x0 := hth 0 (by simp)
  have x1 := hth 1 (by simp)
  refine wpAnyH_done (by kernel_rfl) (lastQ_store rfl (by kernel_rfl) (by kernel_rfl) 96 (.tmp 4) (.tmp 37) (by kernel_rfl) (w.heap.size + 2) 0 #[.int .i64 (x + s), .slice au c2 cu] (by kernel_rfl) (by kernel_rfl) hth HIE.out (by kernel_rfl) ?_) _
  simp only [Act.put, List.setIfInBounds_toArray, List.set_cons_zero, List.set_cons_succ]
  obtain ⟨W6, hW6⟩ : ∃ W6, W6 = W5.setCells (w.heap.size + 2) 0 [.int .i64 (x + s), .slice au c2 cu] := ⟨_, rfl⟩
  have h6 : W6 = (W5.setCell ⟨w.heap.size + 2, 0, none⟩ (.int .i64 (x + s))).setCell ⟨w.heap.size + 2, 1, none⟩ (.slice au c2 cu) := by rw [hW6]; rfl
  have HB6 : Hid (Below w.heap.size w W6) := Lib.hid (by
    rw [h6]
    exact (((HB1.out.trans (S2.out.mono HB1.out.size))).setCell (by show w.heap.size ≤ w.heap.size + 2; omega) _).setCell (by show w.heap.size ≤ w.heap.size + 2; omega) _)
  have HW6 : Hid (W1 w.heap.size W6.heap.size W6 (.slice au c2 cu) (apT p2 c2 vs [])) := Lib.hid (by
    have hs6 : W6.heap.size = W5.heap.size := by rw [h6]; simp
    rw [hs6]
    refine (HW5.out.same ?_).wider (by omega) (Nat.le_refl _)
    rw [h6]
    exact (Same.set _ (Or.inl (by omega))).trans (Same.set _ (Or.inl (by omega))))
  obtain ⟨y0, hy0⟩ := Option.isSome_iff_exists.1 x0.1
  obtain ⟨y1, hy1⟩ := Option.isSome_iff_exists.1 x1.1
  have f0 : W6.cell? ⟨w.heap.size + 2, 0, none⟩ = some (.int .i64 (x + s)) := by
    rw [h6, World.cell?_setCell_other _ _ _ _ (by simp)]
    exact World.cell?_setCell_same _ _ _ hy0
  have f1 : W6.cell? ⟨w.heap.size + 2, 1, none⟩ = some (.slice au c2 cu) := by
    rw [h6]
    exact World.cell?_setCell_same _ _ _ (by rw [World.cell?_setCell_other _ _ _ _ (by simp)]; exact hy1)
  rw [← hW6]
  clear hW6 h6 hy0 hy1 x0 x1 hth S0 S1 S2 g0 g1 g2 g3 g4 e0 e1 hwk
  go_wp2
  refine bodyPost_ret (v := .agg #[.int .i64 (x + s), .slice au c2 cu]) ?_ rfl ⟨.slice au c2 cu, rfl, HW6.out, HB6.out⟩
  simp only [results, HRES.out]
  go_simp
end Go.Proofs.YtpchbceohnabnabDoor


namespace Go.Proofs.YtpchbceohnabnabDoor
open Go.RowKit

section
variable {p : Int} {ds ds2 : List Int} {ms ms2 fs : List (List (List Int))}
/-- The table below number n of a family. -/
def prevT (fs : List (List (List Int))) (n : Nat) : List (List Int) := if n = 0 then [] else fs.getD (n - 1) []
/-- The differential of a basis vector, led by the family. -/
def chA (p : Int) (ds : List Int) (ms : List (List (List Int))) (ds2 : List Int) (fs : List (List (List Int))) (n i : Nat) : List Int := apT p (csF ds2 (-1) n) (((dfL ds ms).getD n []).getD i []) (prevT fs n)
/-- The differential of what the family makes of a basis vector. -/
def chB (p : Int) (ds2 : List Int) (ms2 fs : List (List (List Int))) (n i : Nat) : List Int := apT p (csF ds2 (-1) n) ((fs.getD n []).getD i []) ((dfL ds2 ms2).getD n [])
def ChainOk (p : Int) (ds : List Int) (ms : List (List (List Int))) (ds2 : List Int) (ms2 fs : List (List (List Int))) : Prop := ∀ n, n < ds.length → ∀ i, i < rsF ds n → chA p ds ms ds2 fs n i = chB p ds2 ms2 fs n i
def chZ (p : Int) (ds : List Int) (ms : List (List (List Int))) (ds2 : List Int) (ms2 fs : List (List (List Int))) (n i q : Nat) : Int := ((chA p ds ms ds2 fs n i).getD q 0 + (p - 1) * (chB p ds2 ms2 fs n i).getD q 0) % p
theorem chA_ok (hcx : PreOk p ds ms) (hcy : PreOk p ds2 ms2) (hF : FamOk p ds ds2 0 fs) {n i : Nat} (hn : n < ds.length) (hi : i < rsF ds n) : ApOk p (csF ds2 (-1) n) (((dfL ds ms).getD n []).getD i []) (prevT fs n) := by
  obtain ⟨h1, h3, h4, h5⟩ := fam_row (dfL_fam hcx) hn hi (hcx.dim n).1 (hcx.dsOk.dimZ ((n : Int) + (-1))).1
  have hz := hcy.dsOk.dimZ ((n : Int) + (-1))
  by_cases h0 : n = 0
  · subst h0
    have e : csF ds (-1) 0 = 0 := by simp only [csF]; rw [dimZ_neg (by omega)]; rfl
    rw [e] at h5
    have e2 : ((dfL ds ms).getD 0 []).getD i [] = [] := List.eq_nil_of_length_eq_zero (by have := h5.1; omega)
    rw [e2]
    exact ⟨hcx.prime, by simp, by simp, by simp [prevT]⟩
  · have hn1 : n - 1 < ds.length := by omega
    have e1 : ((n - 1 : Nat) : Int) = (n : Int) + (-1) := by omega
    have hd : (csF ds (-1) n : Int) = ds.getD (n - 1) 0 := by
      have := hcx.dsOk.dimZ ((n : Int) + (-1))
      have e3 : dimZ ds ((n : Int) + (-1)) = ds.getD (n - 1) 0 := by
        rw [← e1, dimZ_in rfl hn1, ← getD_of_lt 0 hn1]
      simp only [csF]
      omega
    rw [hd] at h5
    have := (fam_ap (c2 := csF ds2 (-1) n) hcx.prime hF hn1 h5 (by rw [Int.add_zero, e1]; simp only [csF]; omega)).1
    unfold prevT
    rw [if_neg h0]
    exact this
theorem chB_ok (hcx : PreOk p ds ms) (hcy : PreOk p ds2 ms2) (hl : ds.length = ds2.length) (hF : FamOk p ds ds2 0 fs) {n i : Nat} (hn : n < ds.length) (hi : i < rsF ds n) : ApOk p (csF ds2 (-1) n) ((fs.getD n []).getD i []) ((dfL ds2 ms2).getD n []) ∧ n < (dfL ds2 ms2).length := by
  have hy := hcy.dsOk.dimZ ((n : Int) + 0)
  obtain ⟨_, _, _, h4⟩ := fam_row hF hn hi (hcx.dim n).1 hy.1
  have hn2 : n < ds2.length := by omega
  have h0 : (n : Int) + 0 = (n : Int) := Int.add_zero _
  have e2 : (csF ds2 0 n : Int) = ds2.getD n 0 := by
    have hd : dimZ ds2 (n : Int) = ds2.getD n 0 := by
      rw [dimZ_in rfl hn2, ← getD_of_lt 0 hn2]
    simp only [csF]
    rw [h0, hd] at hy ⊢
    omega
  rw [e2] at h4
  have hz := hcy.dsOk.dimZ ((n : Int) + (-1))
  exact fam_ap hcy.prime (dfL_fam hcy) hn2 h4 (by simp only [csF]; omega)
theorem sub_zero {a b : Int} (hp : IsP p) (ha : 0 ≤ a ∧ a ≤ p - 1) (hb : 0 ≤ b ∧ b ≤ p - 1) : (a + (p - 1) * b) % p = 0 ↔ a = b := by
  rcases hp with rfl | rfl | rfl | rfl <;> omega
theorem apT_num {c : Nat} {v : List Int} {t : List (List Int)} (ok : ApOk p c v t) (q : Nat) : 0 ≤ (apT p c v t).getD q 0 ∧ (apT p c v t).getD q 0 ≤ p - 1 := by
  have := apTo_mod ok (Nat.le_refl _) q
  have h1 := this.1
  have h2 := this.2
  simp only [apT]
  omega
theorem chain_iff (hcx : PreOk p ds ms) (hcy : PreOk p ds2 ms2) (hl : ds.length = ds2.length) (hF : FamOk p ds ds2 0 fs) : (∀ n, n < ds.length → ∀ i, i < rsF ds n → ∀ q, q < csF ds2 (-1) n → chZ p ds ms ds2 ms2 fs n i q = 0) ↔ ChainOk p ds ms ds2 ms2 fs := by
  refine forall_congr' fun n => forall_congr' fun hn => forall_congr' fun i => forall_congr' fun hi => ?_
  have oA := chA_ok hcx hcy hF hn hi
  have oB := (chB_ok hcx hcy hl hF hn hi).1
  constructor
  · intro h
    refine List.ext_getElem (by rw [show (chA p ds ms ds2 fs n i).length = _ from apT_length' oA, show (chB p ds2 ms2 fs n i).length = _ from apT_length' oB]) fun q h1 h2 => ?_
    have hq : q < csF ds2 (-1) n := by rw [show (chA p ds ms ds2 fs n i).length = _ from apT_length' oA] at h1; exact h1
    rw [← getD_of_lt 0 h1, ← getD_of_lt 0 h2]
    exact (sub_zero hcx.prime (apT_num oA q) (apT_num oB q)).1 (h q hq)
  · intro h q _
    exact (sub_zero hcx.prime (apT_num oA q) (apT_num oB q)).2 (by show (chA p ds ms ds2 fs n i).getD q 0 = (chB p ds2 ms2 fs n i).getD q 0; rw [h])
end

/-- The family leads the differential of a basis vector, also from below the degree 0. -/
theorem led_prev {p : Int} {n i : Nat} {dv2 mv2 fv : Value} {ds : List Int} {ms : List (List (List Int))} {ds2 : List Int} {ms2 fs : List (List (List Int))} {w : World} (h2 : Cx 0 w dv2 mv2 ds2 ms2) (hf : L3 0 w fv fs) (hcx : PreOk p ds ms) (hcy : PreOk p ds2 ms2) (hF : FamOk p ds ds2 0 fs) (hn : n < ds.length) (hi : i < rsF ds n) :
    Led w (.agg #[.int .i64 p, dv2, mv2, .int .i64 0, fv]) ((n : Int) + (-1)) (((dfL ds ms).getD n []).getD i []) ((n : Int) + (-1)) (chA p ds ms ds2 fs n i) := fun W vv hb hv => by
  have ok := chA_ok hcx hcy hF hn hi
  have hz := hcy.dsOk.dimZ ((n : Int) + (-1))
  have hl6 := hcx.len1
  have hfl := hF.1
  have hdf := df_vec hcx hn hi
  have hdl : (((dfL ds ms).getD n []).getD i []).length ≤ 1048576 := by rw [hdf.1]; have := hcx.dsOk.dimZ ((n : Int) + (-1)); simp only [csF]; omega
  have e0 : ((n : Int) + (-1)) + 0 = (n : Int) + (-1) := Int.add_zero _
  by_cases h0 : n = 0
  · subst h0
    have e1 : prevT fs 0 = [] := rfl
    rw [e1] at ok
    have := leadX_any p 0 (((0 : Nat) : Int) + (-1)) (csF ds2 (-1) 0) dv2 mv2 fv vv ds2 ms2 fs (((dfL ds ms).getD 0 []).getD i []) W (h2.below hb) (hf.below hb) hv hcy.dsOk (by omega) (by omega) (by omega) (by rw [e0]; simp only [csF]; omega) ok (by omega) hdl
    rw [e0] at this
    exact this
  · have e1 : prevT fs n = fs.getD (n - 1) [] := if_neg h0
    rw [e1] at ok
    have e2 : ((n - 1 : Nat) : Int) = (n : Int) + (-1) := by omega
    have := leadD_any p 0 (n - 1) (csF ds2 (-1) n) dv2 mv2 fv vv ds2 ms2 fs (((dfL ds ms).getD n []).getD i []) W (h2.below hb) (hf.below hb) hv hcy.dsOk (by omega) (by omega) (by omega) (by rw [e2, e0]; simp only [csF]; omega) ok (by omega) hdl
    rw [e2, e0] at this
    unfold chA
    rw [e1]
    exact this
theorem led_dy {p : Int} {n i : Nat} {dv2 mv2 uv : Value} {ds : List Int} {ms : List (List (List Int))} {ds2 : List Int} {ms2 fs : List (List (List Int))} {w : World} (h2 : Cx 0 w dv2 mv2 ds2 ms2) (hu : L3 0 w uv (dfL ds2 ms2)) (hcx : PreOk p ds ms) (hcy : PreOk p ds2 ms2) (hl : ds.length = ds2.length) (hF : FamOk p ds ds2 0 fs) (hn : n < ds.length) (hi : i < rsF ds n) :
    Led w (.agg #[.int .i64 p, dv2, mv2, .int .i64 (-1), uv]) (n : Int) ((fs.getD n []).getD i []) ((n : Int) + (-1)) (chB p ds2 ms2 fs n i) := fun W vv hb hv => by
  obtain ⟨ok, hn3⟩ := chB_ok hcx hcy hl hF hn hi
  have hz := hcy.dsOk.dimZ ((n : Int) + (-1))
  have hl6 := hcx.len1
  obtain ⟨_, _, _, h4⟩ := fam_row hF hn hi (hcx.dim n).1 (hcy.dsOk.dimZ ((n : Int) + 0)).1
  have hfl : ((fs.getD n []).getD i []).length ≤ 1048576 := by have := h4.1; have := hcy.dsOk.dimZ ((n : Int) + 0); simp only [csF] at *; omega
  exact leadD_any p (-1) n (csF ds2 (-1) n) dv2 mv2 uv vv ds2 ms2 (dfL ds2 ms2) ((fs.getD n []).getD i []) W (h2.below hb) (hu.below hb) hv hcy.dsOk hn3 (by omega) (by omega) (by simp only [csF]; omega) ok (by rw [dfL_len]; omega) hfl
theorem ap_vec {p : Int} {c : Nat} {v : List Int} {t : List (List Int)} (ok : ApOk p c v t) : (apT p c v t).length = c ∧ ∀ y ∈ apT p c v t, 0 ≤ y ∧ y ≤ 6 := by
  refine ⟨apT_length' ok, fun y hy => ?_⟩
  obtain ⟨q, hq, rfl⟩ := List.getElem_of_mem hy
  have := apT_num ok q
  rw [getD_of_lt 0 hq] at this
  have hp := ok.prime.hi
  omega
theorem chSum_any (p : Int) (bp ba bb : Nat) (dv mv dv2 mv2 fv uv vv : Value) (ds : List Int) (ms : List (List (List Int))) (ds2 : List Int) (ms2 fs : List (List (List Int))) (w : World) (h : Cx 0 w dv mv ds ms) (h2 : Cx 0 w dv2 mv2 ds2 ms2) (hf : L3 0 w fv fs) (hu : L3 0 w uv (dfL ds ms)) (hv : L3 0 w vv (dfL ds2 ms2)) (hcx : IsCx p ds ms) (hcy : IsCx p ds2 ms2) (hl : ds.length = ds2.length) (hF : FamOk p ds ds2 0 fs)
    (c0 : w.cell? ⟨bp, 0, none⟩ = some (.int .i64 1)) (c1 : w.cell? ⟨bp, 1, none⟩ = some (.slice (some ⟨ba, 0, none⟩) 2 2)) (c2 : w.cell? ⟨bp, 2, none⟩ = some (.int .i64 (p - 1))) (c3 : w.cell? ⟨bp, 3, none⟩ = some (.slice (some ⟨bb, 0, none⟩) 2 2))
    (ha0 : w.cell? ⟨ba, 0, none⟩ = some (.func (.func 66) #[.agg #[.int .i64 p, dv, mv, .int .i64 (-1), uv]] #[])) (ha1 : w.cell? ⟨ba, 1, none⟩ = some (.func (.func 66) #[.agg #[.int .i64 p, dv2, mv2, .int .i64 0, fv]] #[]))
    (hb0 : w.cell? ⟨bb, 0, none⟩ = some (.func (.func 66) #[.agg #[.int .i64 p, dv2, mv2, .int .i64 0, fv]] #[])) (hb1 : w.cell? ⟨bb, 1, none⟩ = some (.func (.func 66) #[.agg #[.int .i64 p, dv2, mv2, .int .i64 (-1), vv]] #[])) :
    Calls Tryd.prog 64 #[.agg #[.int .i64 p, dv, mv], .agg #[.int .i64 p, dv2, mv2], .int .i64 (-1), .slice (some ⟨bp, 0, none⟩) 2 2] w (Fam3R (famL ds.length (rsF ds) (csF ds2 (-1)) (chZ p ds ms ds2 ms2 fs)) w) := by
  have hp7 := hcx.1.prime.hi
  have hp2 := hcx.1.prime.lo
  have := sumOfPaths_any p p (-1) 2 bp 2 (fun j => if j = 0 then 1 else p - 1) (fun j => if j = 0 then [.agg #[.int .i64 p, dv, mv, .int .i64 (-1), uv], .agg #[.int .i64 p, dv2, mv2, .int .i64 0, fv]] else [.agg #[.int .i64 p, dv2, mv2, .int .i64 0, fv], .agg #[.int .i64 p, dv2, mv2, .int .i64 (-1), vv]]) (fun n i j => if j = 0 then chA p ds ms ds2 fs n i else chB p ds2 ms2 fs n i) dv mv dv2 mv2 ds ms ds2 ms2 w h h2 hcx hcy (by omega) ?_ ?_ (by omega) ?_ ?_
  · refine this.mono ?_
    rintro e w' ⟨u, rfl, hu, hb'⟩
    refine ⟨u, rfl, ?_, hb'⟩
    rwa [famL_congr (Z' := chZ p ds ms ds2 ms2 fs)] at hu
    intro n hn i hi q _
    simp [pS, addMod, chZ]
  · intro j hj
    by_cases e : j = 0
    · subst e
      refine ⟨_, c0, c1, ⟨ba, 0, 2, rfl, fun q hq => ?_⟩, by simp, by simp⟩
      match q, hq with
      | 0, _ => exact ha0
      | 1, _ => exact ha1
    · obtain rfl : j = 1 := by omega
      refine ⟨_, c2, c3, ⟨bb, 0, 2, rfl, fun q hq => ?_⟩, by simp, by simp⟩
      match q, hq with
      | 0, _ => exact hb0
      | 1, _ => exact hb1
  · intro j _
    show 0 ≤ (if j = 0 then (1 : Int) else p - 1) ∧ (if j = 0 then (1 : Int) else p - 1) ≤ 6
    split <;> omega
  · intro n hn i hi j _
    by_cases e : j = 0
    · subst e
      exact ⟨_, Chain.cons (led_df h hu hcx.1 hn hi) (Chain.cons (led_prev h2 hf hcx.1 hcy.1 hF hn hi) (Chain.nil _ _))⟩
    · simp only [if_neg e]
      exact ⟨_, Chain.cons (chain_of h2 hf hcx hcy hF hn hi) (Chain.cons (led_dy h2 hv hcx.1 hcy.1 hl hF hn hi) (Chain.nil _ _))⟩
  · intro n hn i hi j _
    by_cases e : j = 0
    · subst e
      exact ap_vec (chA_ok hcx.1 hcy.1 hF hn hi)
    · simp only [if_neg e]
      exact ap_vec (chB_ok hcx.1 hcy.1 hl hF hn hi).1
end Go.Proofs.YtpchbceohnabnabDoor


namespace Go.Proofs.YtpchbceohnabnabDoor
open Go.RowKit

def ZeroF (fs : List (List (List Int))) : Prop := ∀ n, n < fs.length → ∀ i, i < (fs.getD n []).length → ∀ x ∈ (fs.getD n []).getD i [], x = 0

set_option maxHeartbeats 3200000 in
set_option maxRecDepth 100000 in
theorem isZeroFamily_any (fv : Value) (fs : List (List (List Int))) (w : World) (hf : L3 0 w fv fs) (hm1 : fs.length ≤ 1048576) (hm2 : ∀ n, n < fs.length → (fs.getD n []).length ≤ 1048576) (hm3 : ∀ n, n < fs.length → ∀ i, i < (fs.getD n []).length → ((fs.getD n []).getD i []).length ≤ 40) :
    Calls Tryd.prog 68 #[fv] w (BB (ZeroF fs) w) := by
  obtain ⟨af, cf, rfl⟩ := Sl.shape hf
  have HF := Lib.hid hf
  have HM2 := Lib.hid hm2
  have HM3 := Lib.hid hm3
  have HB0 := Lib.hid (Below.refl w.heap.size w)
  clear hf hm2 hm3
  go_enter Tryd.func68, Tryd.ntmps68
  go_wp2
  go_loopw [9] (fun k wr => ∃ (n : Nat), n ≤ fs.length ∧ k = .int .i64 n ∧ Hid (Below w.heap.size w wr) ∧ Hid (∀ n2, n2 < n → n2 < fs.length → ∀ i, i < (fs.getD n2 []).length → ∀ x ∈ (fs.getD n2 []).getD i [], x = 0)) (fun k _ => fs.length - (intOf k).toNat)
  case atStart => exact ⟨0, Nat.zero_le _, rfl, HB0, Lib.hid (fun _ h => absurd h (Nat.not_lt_zero _))⟩
  case round =>
    obtain ⟨n, hn, rfl, HB, HZ⟩ := hrel
    obtain ⟨wx, hwx⟩ : ∃ wx : World, wx = wr := ⟨_, rfl⟩
    subst hwx
    by_cases hlt : n < fs.length
    · refine Sl.cases HF.out (fun _ _ hx _ => absurd hlt (by simp [hx])) (fun b o c hvd _ _ hcl => ?_)
      injection hvd with e1 e2 e3
      clear e2
      subst e1 e3
      obtain ⟨u, hu, hru⟩ := hcl n hlt
      rw [← getD_of_lt [] hlt] at hru
      obtain ⟨t, ht⟩ : ∃ t, t = fs.getD n [] := ⟨_, rfl⟩
      rw [← ht] at hru
      have HT := Lib.hid ht
      obtain ⟨au, cu, hus⟩ := Sl.shape hru
      obtain ⟨r, hr⟩ : ∃ r, r = t.length := ⟨_, rfl⟩
      rw [← hr] at hus
      subst hus
      have HR := Lib.hid hr
      have HRU := Lib.hid hru
      have hrm : r ≤ 1048576 := by rw [hr, ht]; exact HM2.out n hlt
      have hu' := later HB.out (Nat.le_refl _) hu
      clear hu hru hcl ht hr
      go_wp2
      clear hu'
      go_loopw [15] (fun k wr => ∃ (i : Nat), i ≤ r ∧ k = .int .i64 i ∧ Hid (Below w.heap.size w wr) ∧ Hid (∀ i2, i2 < i → ∀ x ∈ t.getD i2 [], x = 0)) (fun k _ => r - (intOf k).toNat)
      case atStart => exact ⟨0, Nat.zero_le _, rfl, HB, Lib.hid (fun _ h => absurd h (Nat.not_lt_zero _))⟩
      case round =>
        obtain ⟨i, hi, rfl, HB2, HI⟩ := hrel
        obtain ⟨wy, hwy⟩ : ∃ wy : World, wy = wr := ⟨_, rfl⟩
        subst hwy
        by_cases hlt2 : i < r
        · have hlt3 : i < t.length := by rw [← HR.out]; exact hlt2
          refine Sl.cases HRU.out (fun _ _ hx _ => absurd hlt3 (by simp [hx])) (fun b1 o1 c1 hvd _ _ hcl => ?_)
          injection hvd with e1 e2 e3
          clear e2
          subst e1 e3
          obtain ⟨u2, hu2, hr2⟩ := hcl i hlt3
          rw [← getD_of_lt [] hlt3] at hr2
          have hu2' := later HB2.out (Nat.le_refl _) hu2
          have HR2 := Lib.hid (hr2.below HB2.out)
          have HLEN : Hid ((t.getD i []).length ≤ 40) := Lib.hid (by rw [HT.out]; exact HM3.out n hlt i (by rw [← HT.out]; exact hlt3))
          obtain ⟨row, hrow⟩ : ∃ row, row = t.getD i [] := ⟨_, rfl⟩
          rw [← hrow] at HR2 HLEN
          have HROW := Lib.hid hrow
          clear hu2 hr2 hcl hlt3 hrow
          go_wp2_with fail
          refine (vectorOf_any u2 (row) _ HR2.out HLEN.out).mono ?_
          rintro e w2 ⟨rfl, hb2⟩
          have HB3 := Lib.hid (HB2.out.trans (hb2.mono HB2.out.size))
          clear hb2 hu2'
          have hneq := neq_zero HLEN.out
          by_cases hz : ∀ x ∈ row, x = 0
          · rw [decide_eq_true hz] at hneq
            have HZ2 := Lib.hid hz
            clear hz
            go_wp2
            go_roundw
            case rel => exact ⟨i + 1, by omega, by go_num, HB3, Lib.hid (fun i2 h2 => by
              by_cases e : i2 = i
              · subst e; rw [← HROW.out]; exact HZ2.out
              · exact HI.out i2 (by omega))⟩
            case measure => simp [intOf]; omega
          · rw [decide_eq_false hz] at hneq
            have HZ2 := Lib.hid hz
            clear hz
            go_wp2
            go_ret
            refine bb_false HB3.out (fun h => HZ2.out ?_)
            have := h n hlt i (by rw [← HT.out, ← HR.out]; exact hlt2)
            rwa [← HT.out, ← HROW.out] at this
        · go_wp2
          go_roundw
          case rel => exact ⟨n + 1, by omega, by go_num, HB2, Lib.hid (fun n2 h2 hl2 i2 hi2 => by
            by_cases e : n2 = n
            · subst e
              rw [← HT.out] at hi2 ⊢
              exact HI.out i2 (by have := HR.out; omega)
            · exact HZ.out n2 (by omega) hl2 i2 hi2)⟩
          case measure => simp [intOf]; omega
    · go_wp2
      go_ret
      exact bb_true HB.out (fun n2 h2 => HZ.out n2 (by omega) h2)
theorem famL_get {m : Nat} {rs cs : Nat → Nat} {Z : Nat → Nat → Nat → Int} {n : Nat} (hn : n < m) : (famL m rs cs Z).getD n [] = tableOf (rs n) (cs n) (Z n) := by
  rw [getD_of_lt _ (by rw [famL_length]; exact hn)]
  simp [famL]
theorem tableOf_len (r c : Nat) (Z : Nat → Nat → Int) : (tableOf r c Z).length = r := by simp [tableOf]
theorem tableOf_get {r c : Nat} {Z : Nat → Nat → Int} {i : Nat} (hi : i < r) : (tableOf r c Z).getD i [] = (List.range c).map (Z i) := by
  rw [getD_of_lt _ (by rw [tableOf_len]; exact hi)]
  simp [tableOf]
theorem zeroF_famL {m : Nat} {rs cs : Nat → Nat} {Z : Nat → Nat → Nat → Int} : ZeroF (famL m rs cs Z) ↔ ∀ n, n < m → ∀ i, i < rs n → ∀ q, q < cs n → Z n i q = 0 := by
  unfold ZeroF
  rw [famL_length]
  refine forall_congr' fun n => forall_congr' fun hn => ?_
  rw [famL_get hn, tableOf_len]
  refine forall_congr' fun i => forall_congr' fun hi => ?_
  rw [tableOf_get hi]
  constructor
  · intro h q hq
    exact h _ (List.mem_map.2 ⟨q, List.mem_range.2 hq, rfl⟩)
  · intro h x hx
    obtain ⟨q, hq, rfl⟩ := List.mem_map.1 hx
    exact h q (List.mem_range.1 hq)
end Go.Proofs.YtpchbceohnabnabDoor


namespace Go.Proofs.YtpchbceohnabnabDoor
open Go.RowKit

/-- Complexes side by side in a row at block b. -/
structure Cxs (w : World) (b n : Nat) (P : Nat → Int) (dv mv : Nat → Value) (ds : Nat → List Int) (ms : Nat → List (List (List Int))) : Prop where
  c0 : ∀ j, j < n → w.cell? ⟨b, j * 3, none⟩ = some (.int .i64 (P j))
  c1 : ∀ j, j < n → w.cell? ⟨b, j * 3 + 1, none⟩ = some (dv j)
  c2 : ∀ j, j < n → w.cell? ⟨b, j * 3 + 2, none⟩ = some (mv j)
  cx : ∀ j, j < n → Cx 0 w (dv j) (mv j) (ds j) (ms j)
  bd : ∀ j, j < n → (ds j).length ≤ 1048576 ∧ Bd3 1048576 (ms j)
theorem Cxs.next {w w' : World} {b n : Nat} {P : Nat → Int} {dv mv : Nat → Value} {ds : Nat → List Int} {ms : Nat → List (List (List Int))} (h : Cxs w b n P dv mv ds ms) (hb : Below w.heap.size w w') : Cxs w' b n P dv mv ds ms :=
  ⟨fun j hj => later hb (Nat.le_refl _) (h.c0 j hj), fun j hj => later hb (Nat.le_refl _) (h.c1 j hj), fun j hj => later hb (Nat.le_refl _) (h.c2 j hj), fun j hj => (h.cx j hj).below hb, h.bd⟩
open Classical in
/-- The code of complexes that are to have the same prime. -/
noncomputable def prCodeN (n : Nat) (P : Nat → Int) (ds : Nat → List Int) (ms : Nat → List (List (List Int))) : Int :=
  if ∀ j, j < n → IsCx (P j) (ds j) (ms j) then (if ∀ j, j < n → P j = P 0 then 0 else 2) else 1
open Classical in
/-- .. and the same number of degrees. -/
noncomputable def endCodeN (n : Nat) (P : Nat → Int) (ds : Nat → List Int) (ms : Nat → List (List (List Int))) : Int :=
  if prCodeN n P ds ms = 0 then (if ∀ j, j < n → (ds j).length = (ds 0).length then 0 else 2) else prCodeN n P ds ms
end Go.Proofs.YtpchbceohnabnabDoor


namespace Go.Proofs.YtpchbceohnabnabDoor
open Go.RowKit

def s3 {α : Type} (a b c : α) (j : Nat) : α := if j = 0 then a else if j = 1 then b else c
structure Ok3 (p p2 p3 : Int) (ds : List Int) (ms : List (List (List Int))) (ds2 : List Int) (ms2 : List (List (List Int))) (ds3 : List Int) (ms3 : List (List (List Int))) : Prop where
  xy : EndOk p p2 ds ms ds2 ms2
  yz : EndOk p2 p3 ds2 ms2 ds3 ms3
theorem Ok3.code {p p2 p3 : Int} {ds : List Int} {ms : List (List (List Int))} {ds2 : List Int} {ms2 : List (List (List Int))} {ds3 : List Int} {ms3 : List (List (List Int))} (h : Ok3 p p2 p3 ds ms ds2 ms2 ds3 ms3) : endCodeN 3 (s3 p p2 p3) (s3 ds ds2 ds3) (s3 ms ms2 ms3) = 0 := by
  have e1 := h.xy.prime
  have e2 := h.yz.prime
  have l1 := h.xy.len
  have l2 := h.yz.len
  have hp : prCodeN 3 (s3 p p2 p3) (s3 ds ds2 ds3) (s3 ms ms2 ms3) = 0 := by
    unfold prCodeN
    rw [if_pos, if_pos]
    · intro j hj
      match j, hj with
      | 0, _ => rfl
      | 1, _ => exact e1.symm
      | 2, _ => exact (e1.trans e2).symm
    · intro j hj
      match j, hj with
      | 0, _ => exact h.xy.x
      | 1, _ => exact h.xy.y
      | 2, _ => exact h.yz.y
  unfold endCodeN
  rw [if_pos hp, if_pos]
  intro j hj
  match j, hj with
  | 0, _ => rfl
  | 1, _ => exact l1.symm
  | 2, _ => exact (l1.trans l2).symm
end Go.Proofs.YtpchbceohnabnabDoor


namespace Go.Proofs.YtpchbceohnabnabDoor
open Go.RowKit

theorem infoGr (y0 y1 y2 y3 y4 : Value) : (Tryd.prog.info? 69).map (·.size) = some (#[y0, y1, y2, y3, y4] : Array Value).size := by kernel_rfl
theorem hloadGr (W : World) {b : Nat} {x0 x1 x2 x3 x4 : Value} (h : Rz W b 69 #[x0, x1, x2, x3, x4]) : (Instr.loadAt 69 (.pointer (some ⟨b, 0, none⟩))).run Tryd.prog W = .ok (.agg #[x0, x1, x2, x3, x4]) W := by
  have c0 : W.cell? ⟨b, 0, none⟩ = some x0 := h.cell rfl
  have c1 : W.cell? ⟨b, 1, none⟩ = some x1 := h.cell rfl
  have c2 : W.cell? ⟨b, 2, none⟩ = some x2 := h.cell rfl
  have c3 : W.cell? ⟨b, 3, none⟩ = some x3 := h.cell rfl
  have c4 : W.cell? ⟨b, 4, none⟩ = some x4 := h.cell rfl
  go_simp

end Go.Proofs.YtpchbceohnabnabDoor


namespace Go.Proofs.YtpchbceohnabnabDoor
open Go.RowKit

theorem cell_new2 (W : World) (u v : Value) (t : TypeId) : (W.alloc (.cells #[u, v] t)).cell? ⟨W.heap.size, 0, none⟩ = some u := by simp
theorem cell_new2' (W : World) (u v : Value) (t : TypeId) : (W.alloc (.cells #[u, v] t)).cell? ⟨W.heap.size, 1, none⟩ = some v := by simp
end Go.Proofs.YtpchbceohnabnabDoor


namespace Go.Proofs.YtpchbceohnabnabDoor
open Go.RowKit

/-- It returns for a chain map, and panics for a family that is none. -/
def ReqR (p : Int) (ds : List Int) (ms : List (List (List Int))) (ds2 : List Int) (ms2 fs : List (List (List Int))) (u : TypeId) (pv : Value) (w : World) (e : Ending) (w' : World) : Prop :=
  Below w.heap.size w w' ∧ ((ChainOk p ds ms ds2 ms2 fs ∧ e = .returned (.tuple #[])) ∨ (¬ ChainOk p ds ms ds2 ms2 fs ∧ e = .panicked [{ v := .iface u pv, recovered := false }]))

set_option maxHeartbeats 6400000 in
set_option maxRecDepth 100000 in
theorem requireChainMap_any (p : Int) (ut : TypeId) (pv : Value) (dv mv dv2 mv2 fv : Value) (ds : List Int) (ms : List (List (List Int))) (ds2 : List Int) (ms2 fs : List (List (List Int))) (w : World) (h : Cx 0 w dv mv ds ms) (h2 : Cx 0 w dv2 mv2 ds2 ms2) (hf : L3 0 w fv fs) (hcx : IsCx p ds ms) (hcy : IsCx p ds2 ms2) (hl : ds.length = ds2.length) (hF : FamOk p ds ds2 0 fs) (hgl : w.cell? ⟨0, 0, none⟩ = some (.iface ut pv)) :
    Calls Tryd.prog 73 #[.agg #[.int .i64 p, dv, mv], .agg #[.int .i64 p, dv2, mv2], fv] w (ReqR p ds ms ds2 ms2 fs ut pv w) := by
  obtain ⟨ad, cap, rfl⟩ := Sl.shape h.dims
  obtain ⟨am, capm, rfl⟩ := Sl.shape h.maps
  obtain ⟨ad2, cap2, rfl⟩ := Sl.shape h2.dims
  obtain ⟨am2, capm2, rfl⟩ := Sl.shape h2.maps
  obtain ⟨af, cf, rfl⟩ := Sl.shape hf
  obtain ⟨k1, k2⟩ := bx_two (p := p) (p2 := p) 30 h h2
  have HX0 := Lib.hid k1
  have HY0 := Lib.hid k2
  have HCX := Lib.hid hcx
  have HCY := Lib.hid hcy
  have HLL := Lib.hid hl
  have HFO := Lib.hid hF
  obtain ⟨w1, hw1⟩ : ∃ w1, w1 = ((w.alloc (.cells #[.int .i64 p, .slice ad ds.length cap, .slice am ms.length capm] 30)).alloc (.cells #[.int .i64 p, .slice ad2 ds2.length cap2, .slice am2 ms2.length capm2] 30)) := ⟨_, rfl⟩
  rw [← hw1] at HX0 HY0
  have HB01 := Lib.hid HX0.out.below
  have HF1 := Lib.hid (hf.below HB01.out)
  have HGL1 := Lib.hid (later HB01.out (Nat.le_refl _) hgl)
  have hp7 : 2 ≤ p ∧ p ≤ 7 := ⟨hcx.1.prime.lo, hcx.1.prime.hi⟩
  obtain ⟨w2, hw2⟩ : ∃ w2, w2 = w1.alloc (.cells #[.int .i64 p, .slice ad2 ds2.length cap2, .slice am2 ms2.length capm2, .int .i64 0, .slice af fs.length cf] 69) := ⟨_, rfl⟩
  have HB12 : Hid (Below w1.heap.size w1 w2) := Lib.hid (by rw [hw2]; exact below_alloc1 _ _)
  have HG2 : Hid (Rz w2 w1.heap.size 69 #[.int .i64 p, .slice ad2 ds2.length cap2, .slice am2 ms2.length capm2, .int .i64 0, .slice af fs.length cf]) := Lib.hid (by rw [hw2]; exact Rz.new _ _ _)
  have HNX : Hid (∀ W, Below w2.heap.size w2 W → Bx w W w.heap.size p (.slice ad ds.length cap) (.slice am ms.length capm) ds ms ∧ Bx w W (w.heap.size + 1) p (.slice ad2 ds2.length cap2) (.slice am2 ms2.length capm2) ds2 ms2 ∧ Rz W w1.heap.size 69 #[.int .i64 p, .slice ad2 ds2.length cap2, .slice am2 ms2.length capm2, .int .i64 0, .slice af fs.length cf] ∧ L3 0 W (.slice af fs.length cf) fs ∧ W.cell? ⟨0, 0, none⟩ = some (.iface ut pv)) := Lib.hid (fun W hb => by
    have hb1 := HB12.out.trans (hb.mono HB12.out.size)
    exact ⟨HX0.out.next hb1, HY0.out.next hb1, HG2.out.next hb, HF1.out.below hb1, later hb1 (Nat.le_refl _) HGL1.out⟩)
  have d0 := HY0.out.c0
  have d1 := HY0.out.c1
  have d2 := HY0.out.c2
  clear h h2 hf k1 k2 hcx hcy hl hF hgl
  go_enter Tryd.func73, Tryd.ntmps73
  go_upto_region 1 with fail
  rw [← hw1]
  clear hw1
  go_upto_region 2 with fail
  rw [← hw2]
  clear hw2 d0 d1 d2
  refine wp_region_held (S := fun W => Below w2.heap.size w2 W) (by kernel_rfl) ?_
  have S0 : Below w2.heap.size w2 w2.drew := (Below.refl _ _).drew
  change wpAnyH _ _ _ _ _ _ _ _ w2.drew
  obtain ⟨wd, hwd⟩ : ∃ wd, wd = w2.drew := ⟨_, rfl⟩
  rw [← hwd] at S0 ⊢
  clear hwd
  refine held_take (i := 0) (v := .agg #[.int .i64 p, .slice ad ds.length cap, .slice am ms.length capm]) (some 11) rfl rfl (by kernel_rfl) (by kernel_rfl) (by kernel_rfl) (fun _ _ _ h => h) (yieldsIf_cell (by kernel_rfl) rfl (by kernel_rfl) (fun W h => hload3x (HNX.out W h).1)) S0 ?_
  refine held_take (i := 1) (v := .agg #[.int .i64 p, .slice ad2 ds2.length cap2, .slice am2 ms2.length capm2]) (some 12) rfl rfl (by kernel_rfl) (by kernel_rfl) (by kernel_rfl) (fun _ _ _ h => h) (yieldsIf_cell (by kernel_rfl) rfl (by kernel_rfl) (fun W h => hload3x (HNX.out W h).2.1)) S0 ?_
  refine held_take (i := 2) (v := .agg #[.int .i64 p, .slice ad ds.length cap, .slice am ms.length capm]) (some 13) rfl rfl (by kernel_rfl) (by kernel_rfl) (by kernel_rfl) (fun _ _ _ h => h) (yieldsIf_cell (by kernel_rfl) rfl (by kernel_rfl) (fun W h => hload3x (HNX.out W h).1)) S0 ?_
  refine held_take (i := 5) (v := .agg #[.int .i64 p, .slice ad2 ds2.length cap2, .slice am2 ms2.length capm2, .int .i64 0, .slice af fs.length cf]) (some 16) rfl rfl (by kernel_rfl) (by kernel_rfl) (by kernel_rfl) (fun _ _ _ h => h) (yieldsIf_cell (by kernel_rfl) rfl (by kernel_rfl) (fun W h => hloadGr W (HNX.out W h).2.2.1)) S0 ?_
  refine held_take (i := 6) (v := .func (.func 66) #[.agg #[.int .i64 p, .slice ad2 ds2.length cap2, .slice am2 ms2.length capm2, .int .i64 0, .slice af fs.length cf]] #[]) (some 17) rfl rfl (by kernel_rfl) (by kernel_rfl) (by kernel_rfl) (fun _ _ _ h => h) (yieldsIf_run (by kernel_rfl) (fun W _ => by kernel_rfl)) S0 ?_
  refine held_take (i := 9) (v := .pointer (some ⟨w.heap.size, 0, none⟩)) (some 20) rfl rfl (by kernel_rfl) (by kernel_rfl) (by kernel_rfl) (fun _ _ _ h => h) (yieldsIf_run (by kernel_rfl) (fun W _ => by kernel_rfl)) S0 ?_
  refine held_take (i := 10) (v := .int .i64 p) (some 21) rfl rfl (by kernel_rfl) (by kernel_rfl) (by kernel_rfl) (fun _ _ _ h => h) (yieldsIf_cell (by kernel_rfl) rfl (by kernel_rfl) (fun W h => hload W (HNX.out W h).1.c0)) S0 ?_
  refine held_take (i := 11) (v := .int .i64 (p - 1)) (some 22) rfl rfl (by kernel_rfl) (by kernel_rfl) (by kernel_rfl) (fun _ _ _ h => h) (yieldsIf_bin (by kernel_rfl) rfl (by kernel_rfl) (by kernel_rfl) (fun _ => rfl) (hsubA (IntWalk.i64_in _ (by omega)))) S0 ?_
  refine held_take (i := 12) (v := .agg #[.int .i64 p, .slice ad2 ds2.length cap2, .slice am2 ms2.length capm2, .int .i64 0, .slice af fs.length cf]) (some 23) rfl rfl (by kernel_rfl) (by kernel_rfl) (by kernel_rfl) (fun _ _ _ h => h) (yieldsIf_cell (by kernel_rfl) rfl (by kernel_rfl) (fun W h => hloadGr W (HNX.out W h).2.2.1)) S0 ?_
  refine held_take (i := 13) (v := .func (.func 66) #[.agg #[.int .i64 p, .slice ad2 ds2.length cap2, .slice am2 ms2.length capm2, .int .i64 0, .slice af fs.length cf]] #[]) (some 24) rfl rfl (by kernel_rfl) (by kernel_rfl) (by kernel_rfl) (fun _ _ _ h => h) (yieldsIf_run (by kernel_rfl) (fun W _ => by kernel_rfl)) S0 ?_
  refine held_take (i := 14) (v := .agg #[.int .i64 p, .slice ad2 ds2.length cap2, .slice am2 ms2.length capm2]) (some 25) rfl rfl (by kernel_rfl) (by kernel_rfl) (by kernel_rfl) (fun _ _ _ h => h) (yieldsIf_cell (by kernel_rfl) rfl (by kernel_rfl) (fun W h => hload3x (HNX.out W h).2.1)) S0 ?_
  refine held_enter (i := 3) (some 14) (f := 67) (args := #[.agg #[.int .i64 p, .slice ad ds.length cap, .slice am ms.length capm]]) (by kernel_rfl) rfl rfl rfl (by kernel_rfl) (differentialMap_any p _ _ ds ms wd (HNX.out wd S0).1.cx HCX.out) ?_ (fun c w' h => by obtain ⟨_, h, _⟩ := h; cases h) (fun w' h => by obtain ⟨_, h, _⟩ := h; cases h)
  rintro e1 V1 ⟨ux, he1, hA, hb1⟩
  injection he1 with he1
  subst he1
  obtain ⟨ua, ca, rfl⟩ := Sl.shape hA
  have S1 : Below w2.heap.size w2 V1 := S0.trans (hb1.mono S0.size)
  refine ⟨S1, ?_⟩
  refine held_take (i := 4) (v := .func (.func 66) #[.agg #[.int .i64 p, .slice ad ds.length cap, .slice am ms.length capm, .int .i64 (-1), .slice ua (dfL ds ms).length ca]] #[]) (some 15) rfl rfl (by kernel_rfl) (by kernel_rfl) (by kernel_rfl) (fun _ _ _ h => h) (yieldsIf_run (by kernel_rfl) (fun W _ => by kernel_rfl)) S1 ?_
  obtain ⟨V2, hV2⟩ : ∃ W', W' = V1.alloc (.cells #[.func (.func 66) #[.agg #[.int .i64 p, .slice ad ds.length cap, .slice am ms.length capm, .int .i64 (-1), .slice ua (dfL ds ms).length ca]] #[], .func (.func 66) #[.agg #[.int .i64 p, .slice ad2 ds2.length cap2, .slice am2 ms2.length capm2, .int .i64 0, .slice af fs.length cf]] #[]] 75) := ⟨_, rfl⟩
  have hb2 : Below V1.heap.size V1 V2 := by rw [hV2]; exact below_alloc1 _ _
  have S2 : Below w2.heap.size w2 V2 := S1.trans (hb2.mono S1.size)
  have hA_2 := hA.below hb2
  have a0 : V2.cell? ⟨V1.heap.size, 0, none⟩ = some (.func (.func 66) #[.agg #[.int .i64 p, .slice ad ds.length cap, .slice am ms.length capm, .int .i64 (-1), .slice ua (dfL ds ms).length ca]] #[]) := by rw [hV2]; exact cell_new2 _ _ _ _
  have a1 : V2.cell? ⟨V1.heap.size, 1, none⟩ = some (.func (.func 66) #[.agg #[.int .i64 p, .slice ad2 ds2.length cap2, .slice am2 ms2.length capm2, .int .i64 0, .slice af fs.length cf]] #[]) := by rw [hV2]; exact cell_new2' _ _ _ _
  refine held_mem (i := 7) (v := .slice (some ⟨V1.heap.size, 0, none⟩) 2 2) (w' := V2) (some 18) (by kernel_rfl) rfl rfl rfl (by rw [hV2]; go_simp) S2 ?_
  refine held_enter (i := 8) (some 19) (f := 65) (args := #[.int .i64 1, .slice (some ⟨V1.heap.size, 0, none⟩) 2 2]) (by kernel_rfl) rfl rfl rfl (by kernel_rfl) (along_any _ _ 2 2 V2) ?_ (fun c w' h => by cases h.1) (fun w' h => by cases h.1)
  rintro e3 V3 ⟨he3, hb3⟩
  injection he3 with he3
  subst he3
  have S3 : Below w2.heap.size w2 V3 := S2.trans (hb3.mono S2.size)
  have hA_3 := hA_2.below hb3
  have a0_3 := later hb3 (Nat.le_refl _) a0
  have a1_3 := later hb3 (Nat.le_refl _) a1
  refine ⟨S3, ?_⟩
  refine held_enter (i := 15) (some 26) (f := 67) (args := #[.agg #[.int .i64 p, .slice ad2 ds2.length cap2, .slice am2 ms2.length capm2]]) (by kernel_rfl) rfl rfl rfl (by kernel_rfl) (differentialMap_any p _ _ ds2 ms2 V3 (HNX.out V3 S3).2.1.cx HCY.out) ?_ (fun c w' h => by obtain ⟨_, h, _⟩ := h; cases h) (fun w' h => by obtain ⟨_, h, _⟩ := h; cases h)
  rintro e4 V4 ⟨uy, he4, hB, hb4⟩
  injection he4 with he4
  subst he4
  obtain ⟨ub, cb, rfl⟩ := Sl.shape hB
  have S4 : Below w2.heap.size w2 V4 := S3.trans (hb4.mono S3.size)
  have hA_4 := hA_3.below hb4
  have a0_4 := later hb4 (Nat.le_refl _) a0_3
  have a1_4 := later hb4 (Nat.le_refl _) a1_3
  refine ⟨S4, ?_⟩
  refine held_take (i := 16) (v := .func (.func 66) #[.agg #[.int .i64 p, .slice ad2 ds2.length cap2, .slice am2 ms2.length capm2, .int .i64 (-1), .slice ub (dfL ds2 ms2).length cb]] #[]) (some 27) rfl rfl (by kernel_rfl) (by kernel_rfl) (by kernel_rfl) (fun _ _ _ h => h) (yieldsIf_run (by kernel_rfl) (fun W _ => by kernel_rfl)) S4 ?_
  obtain ⟨V5, hV5⟩ : ∃ W', W' = V4.alloc (.cells #[.func (.func 66) #[.agg #[.int .i64 p, .slice ad2 ds2.length cap2, .slice am2 ms2.length capm2, .int .i64 0, .slice af fs.length cf]] #[], .func (.func 66) #[.agg #[.int .i64 p, .slice ad2 ds2.length cap2, .slice am2 ms2.length capm2, .int .i64 (-1), .slice ub (dfL ds2 ms2).length cb]] #[]] 75) := ⟨_, rfl⟩
  have hb5 : Below V4.heap.size V4 V5 := by rw [hV5]; exact below_alloc1 _ _
  have S5 : Below w2.heap.size w2 V5 := S4.trans (hb5.mono S4.size)
  have hA_5 := hA_4.below hb5
  have a0_5 := later hb5 (Nat.le_refl _) a0_4
  have a1_5 := later hb5 (Nat.le_refl _) a1_4
  have hB_5 := hB.below hb5
  have b0 : V5.cell? ⟨V4.heap.size, 0, none⟩ = some (.func (.func 66) #[.agg #[.int .i64 p, .slice ad2 ds2.length cap2, .slice am2 ms2.length capm2, .int .i64 0, .slice af fs.length cf]] #[]) := by rw [hV5]; exact cell_new2 _ _ _ _
  have b1 : V5.cell? ⟨V4.heap.size, 1, none⟩ = some (.func (.func 66) #[.agg #[.int .i64 p, .slice ad2 ds2.length cap2, .slice am2 ms2.length capm2, .int .i64 (-1), .slice ub (dfL ds2 ms2).length cb]] #[]) := by rw [hV5]; exact cell_new2' _ _ _ _
  refine held_mem (i := 17) (v := .slice (some ⟨V4.heap.size, 0, none⟩) 2 2) (w' := V5) (some 28) (by kernel_rfl) rfl rfl rfl (by rw [hV5]; go_simp) S5 ?_
  refine held_enter (i := 18) (some 29) (f := 65) (args := #[.int .i64 (p - 1), .slice (some ⟨V4.heap.size, 0, none⟩) 2 2]) (by kernel_rfl) rfl rfl rfl (by kernel_rfl) (along_any _ _ 2 2 V5) ?_ (fun c w' h => by cases h.1) (fun w' h => by cases h.1)
  rintro e6 V6 ⟨he6, hb6⟩
  injection he6 with he6
  subst he6
  have S6 : Below w2.heap.size w2 V6 := S5.trans (hb6.mono S5.size)
  have hA_6 := hA_5.below hb6
  have a0_6 := later hb6 (Nat.le_refl _) a0_5
  have a1_6 := later hb6 (Nat.le_refl _) a1_5
  have hB_6 := hB_5.below hb6
  have b0_6 := later hb6 (Nat.le_refl _) b0
  have b1_6 := later hb6 (Nat.le_refl _) b1
  refine ⟨S6, ?_⟩
  obtain ⟨V7, hV7⟩ : ∃ W', W' = V6.alloc (.cells #[.int .i64 1, .slice (some ⟨V1.heap.size, 0, none⟩) 2 2, .int .i64 (p - 1), .slice (some ⟨V4.heap.size, 0, none⟩) 2 2] 73) := ⟨_, rfl⟩
  have hb7 : Below V6.heap.size V6 V7 := by rw [hV7]; exact below_alloc1 _ _
  have S7 : Below w2.heap.size w2 V7 := S6.trans (hb7.mono S6.size)
  have hA_7 := hA_6.below hb7
  have a0_7 := later hb7 (Nat.le_refl _) a0_6
  have a1_7 := later hb7 (Nat.le_refl _) a1_6
  have hB_7 := hB_6.below hb7
  have b0_7 := later hb7 (Nat.le_refl _) b0_6
  have b1_7 := later hb7 (Nat.le_refl _) b1_6
  have p0 : V7.cell? ⟨V6.heap.size, 0, none⟩ = some (.int .i64 1) := by rw [hV7]; simp
  have p1 : V7.cell? ⟨V6.heap.size, 1, none⟩ = some (.slice (some ⟨V1.heap.size, 0, none⟩) 2 2) := by rw [hV7]; simp
  have p2 : V7.cell? ⟨V6.heap.size, 2, none⟩ = some (.int .i64 (p - 1)) := by rw [hV7]; simp
  have p3 : V7.cell? ⟨V6.heap.size, 3, none⟩ = some (.slice (some ⟨V4.heap.size, 0, none⟩) 2 2) := by rw [hV7]; simp
  refine held_mem (i := 19) (v := .slice (some ⟨V6.heap.size, 0, none⟩) 2 2) (w' := V7) (some 30) (by kernel_rfl) rfl rfl rfl (by rw [hV7]; go_simp) S7 ?_
  have hN := HNX.out V7 S7
  have hcon := chSum_any p (V6.heap.size) (V1.heap.size) (V4.heap.size) _ _ _ _ _ _ _ ds ms ds2 ms2 fs V7 hN.1.cx hN.2.1.cx hN.2.2.2.1 hA_7 hB_7 HCX.out HCY.out HLL.out HFO.out p0 p1 p2 p3 a0_7 a1_7 b0_7 b1_7
  refine held_enter (i := 20) (some 31) (f := 64) (args := #[.agg #[.int .i64 p, .slice ad ds.length cap, .slice am ms.length capm], .agg #[.int .i64 p, .slice ad2 ds2.length cap2, .slice am2 ms2.length capm2], .int .i64 (-1), .slice (some ⟨V6.heap.size, 0, none⟩) 2 2]) (by kernel_rfl) rfl rfl rfl (by kernel_rfl) (hcon) ?_ (fun c w' h => by obtain ⟨_, h, _⟩ := h; cases h) (fun w' h => by obtain ⟨_, h, _⟩ := h; cases h)
  rintro e8 V8 ⟨uF, he8, hrF, hb8⟩
  injection he8 with he8
  subst he8
  obtain ⟨auF, cuF, hsF⟩ := hrF.shape
  obtain ⟨nF, hnF⟩ : ∃ n, n = (famL ds.length (rsF ds) (csF ds2 (-1)) (chZ p ds ms ds2 ms2 fs)).length := ⟨_, rfl⟩
  rw [← hnF] at hsF
  subst hsF
  have S8 : Below w2.heap.size w2 V8 := S7.trans (hb8.mono S7.size)
  refine ⟨S8, ?_⟩
  refine held_take (i := 21) (v := .slice auF nF cuF) (some 7) rfl rfl (by kernel_rfl) (by kernel_rfl) (by kernel_rfl) (fun _ _ _ h => h) (yieldsIf_assign (by kernel_rfl) rfl (by kernel_rfl)) S8 ?_
  refine wpAnyH_done (by kernel_rfl) ?_ _
  simp only [Act.put, List.setIfInBounds_toArray, List.set_cons_zero, List.set_cons_succ]
  have HRF := Lib.hid hrF.l
  have HSF := Lib.hid S8
  obtain ⟨wz, hwz⟩ : ∃ wz : World, wz = V8 := ⟨_, rfl⟩
  rw [← hwz] at HRF HSF ⊢
  have HH := Lib.hid (HNX.out wz HSF.out)
  have hl6 := HCX.out.1.len1
  have HZC := Lib.hid (isZeroFamily_any (.slice auF nF cuF) _ wz HRF.out (by rw [famL_length]; omega) (fun n hn => by rw [famL_length] at hn; rw [famL_get hn, tableOf_len]; have := HCX.out.1.dim n; simp only [rsF]; omega) (fun n hn i hi => by rw [famL_length] at hn; rw [famL_get hn, tableOf_len] at hi; rw [famL_get hn, tableOf_get hi, List.length_map, List.length_range]; have := dimZ_8 HCY.out ((n : Int) + (-1)); simp only [csF]; omega))
  have HIF : Hid (ZeroF (famL ds.length (rsF ds) (csF ds2 (-1)) (chZ p ds ms ds2 ms2 fs)) ↔ ChainOk p ds ms ds2 ms2 fs) := Lib.hid (zeroF_famL.trans (chain_iff HCX.out.1 HCY.out.1 HLL.out HFO.out))
  clear hcon hN hrF hwz hnF hb1 hb2 hb3 hb4 hb5 hb6 hb7 hb8 S0 S1 S2 S3 S4 S5 S6 S7 S8 hV2 hV5 hV7
  go_wp2_with fail
  refine HZC.out.mono ?_
  rintro ee w9 ⟨bb, rfl, hb9, hbb⟩
  have HB9 := Lib.hid (HH.out.1.below.trans (hb9.mono HH.out.1.below.size))
  have HG9 := Lib.hid (later hb9 (Nat.le_refl _) HH.out.2.2.2.2)
  clear HZC hb9
  by_cases hc : ChainOk p ds ms ds2 ms2 fs
  · obtain rfl : bb = true := hbb.2 (HIF.out.2 hc)
    have HC := Lib.hid hc
    clear hbb hc
    go_wp2
    go_end0
    exact ⟨HB9.out, Or.inl ⟨HC.out, rfl⟩⟩
  · obtain rfl : bb = false := by
      cases bb with
      | false => rfl
      | true => exact absurd (HIF.out.1 (hbb.1 rfl)) hc
    have HC := Lib.hid hc
    have g0 := HG9.out
    clear hbb hc
    go_wp2
    exact ⟨rfl, HB9.out, Or.inr ⟨HC.out, rfl⟩⟩
end Go.Proofs.YtpchbceohnabnabDoor


namespace Go.Proofs.YtpchbceohnabnabDoor
open Go.RowKit

theorem hasserts (pv : Value) (W : World) : (Instr.typeAssert (.iface 135 pv) 20 83 true).run Tryd.prog W = .ok (.tuple #[.iface 135 pv, .bool true]) W := by kernel_rfl
theorem hassertn (W : World) : (Instr.typeAssert .nilIface 20 83 true).run Tryd.prog W = .ok (.tuple #[.nilIface, .bool false]) W := by kernel_rfl

set_option maxRecDepth 100000 in
theorem catch_yes (a : Addr) (x : Int) (pv : Value) (older : List PanicEntry) (w : World) (hc : w.cell? a = some (.int .i64 x)) (hz : w.frozen? a = false) :
    CallsD Tryd.prog 72 #[.pointer (some a)] (.panicking ({ v := .iface 135 pv, recovered := false } :: older)) w fun e u' w' =>
      e = .returned (.tuple #[]) ∧ u' = .panicking ({ v := .iface 135 pv, recovered := true } :: older) ∧ w' = w.setCell a (.int .i64 5) := by
  refine callsD_of_wpS Tryd.func72 rfl fun c₀ cs hu => ?_
  apply wpS_seq
  apply wpS_region
  simp [wpOpsS, go_sem, recoverD, hu, Tryd.ntmps72, Exit.thenS, hasserts]
  apply wpS_seq
  apply wpS_region
  simp [wpOpsS, go_sem, Exit.thenS, Array.replicate]
  refine wpS_cond (t := true) (by simp [Act.eval]) ?_
  simp only [if_true]
  apply wpS_region
  simp [wpOpsS, go_sem, hc, hz, bodyPostS, results, Tryd.results72]
theorem catch_no (a : Addr) (w : World) :
    CallsD Tryd.prog 72 #[.pointer (some a)] .returning w fun e u' w' => e = .returned (.tuple #[]) ∧ u' = .returning ∧ w' = w := by
  refine callsD_of_wpS Tryd.func72 rfl fun c₀ cs hu => ?_
  apply wpS_seq
  apply wpS_region
  simp [wpOpsS, go_sem, recoverD, hu, Tryd.ntmps72, Exit.thenS, hassertn]
  apply wpS_seq
  apply wpS_region
  simp [wpOpsS, go_sem, Exit.thenS, Array.replicate]
  refine wpS_cond (t := false) (by simp [Act.eval]) ?_
  simp only [Bool.false_eq_true, if_false]
  refine wpS_of_wp (wp_skip ?_)
  cases c₀
  simp_all [bodyPostS, results, Tryd.results72]

/-- Families in a row at block b. -/
def FamsAt (w : World) (b k : Nat) (F : Nat → List (List (List Int))) : Prop := ∀ j, j < k → ∃ v, w.cell? ⟨b, j, none⟩ = some v ∧ L3 0 w v (F j)
def StR (p : Int) (ds : List Int) (ms : List (List (List Int))) (ds2 : List Int) (ms2 : List (List (List Int))) (k : Nat) (F : Nat → List (List (List Int))) (w : World) (e : Ending) (w' : World) : Prop :=
  ∃ c : Int, e = .returned (.int .i64 c) ∧ Below w.heap.size w w' ∧ ((c = 0 ∧ ∀ j, j < k → ChainOk p ds ms ds2 ms2 (F j)) ∨ (c = 5 ∧ ¬ ∀ j, j < k → ChainOk p ds ms ds2 ms2 (F j)))

set_option maxHeartbeats 6400000 in
set_option maxRecDepth 100000 in
theorem checkState_any (p : Int) (k b : Nat) (F : Nat → List (List (List Int))) (pv : Value) (dv mv dv2 mv2 : Value) (ds : List Int) (ms : List (List (List Int))) (ds2 : List Int) (ms2 : List (List (List Int))) (w : World) (h : Cx 0 w dv mv ds ms) (h2 : Cx 0 w dv2 mv2 ds2 ms2) (hFs : FamsAt w b k F) (hk : k ≤ 100) (hcx : IsCx p ds ms) (hcy : IsCx p ds2 ms2) (hl : ds.length = ds2.length) (hF : ∀ j, j < k → FamOk p ds ds2 0 (F j)) (hgl : w.cell? ⟨0, 0, none⟩ = some (.iface 135 pv)) :
    Calls Tryd.prog 37 #[.agg #[.int .i64 p, dv, mv], .agg #[.int .i64 p, dv2, mv2], .slice (some ⟨b, 0, none⟩) k k] w (StR p ds ms ds2 ms2 k F w) := by
  have hmf : ∀ (fn : Fn) (first cap : Array Value) (w : World), (Instr.makeFunc fn first cap).run Tryd.prog w = .ok (.func fn first cap) w := fun _ _ _ _ => rfl
  obtain ⟨ad, cap, rfl⟩ := Sl.shape h.dims
  obtain ⟨am, capm, rfl⟩ := Sl.shape h.maps
  obtain ⟨ad2, cap2, rfl⟩ := Sl.shape h2.dims
  obtain ⟨am2, capm2, rfl⟩ := Sl.shape h2.maps
  obtain ⟨k1, k2⟩ := bx_two (p := p) (p2 := p) 30 h h2
  obtain ⟨wb, hwb⟩ : ∃ wb, wb = ((w.alloc (.cells #[.int .i64 p, .slice ad ds.length cap, .slice am ms.length capm] 30)).alloc (.cells #[.int .i64 p, .slice ad2 ds2.length cap2, .slice am2 ms2.length capm2] 30)) := ⟨_, rfl⟩
  rw [← hwb] at k1 k2
  have hsb : wb.heap.size = w.heap.size + 2 := by rw [hwb]; simp
  obtain ⟨w1, hw1⟩ : ∃ w1, w1 = wb.alloc (.cells #[.int .i64 0] 2) := ⟨_, rfl⟩
  have hb1 : Below wb.heap.size wb w1 := by rw [hw1]; exact below_alloc1 _ _
  have HX0 := Lib.hid (k1.next hb1)
  have HY0 := Lib.hid (k2.next hb1)
  have HZ0 : Hid (Rz w1 (w.heap.size + 2) 2 #[.int .i64 0]) := Lib.hid (by rw [hw1, ← hsb]; exact Rz.new _ _ _)
  have HB01 := Lib.hid HX0.out.below
  have HFS := Lib.hid hFs
  have HCX := Lib.hid hcx
  have HCY := Lib.hid hcy
  have HLL := Lib.hid hl
  have HFO := Lib.hid hF
  have HGL := Lib.hid hgl
  have HRES : Hid (Tryd.f37.results = #[.cell 6 2]) := Lib.hid (by kernel_rfl)
  have HNX : Hid (∀ W, Below w1.heap.size w1 W → Bx w W w.heap.size p (.slice ad ds.length cap) (.slice am ms.length capm) ds ms ∧ Bx w W (w.heap.size + 1) p (.slice ad2 ds2.length cap2) (.slice am2 ms2.length capm2) ds2 ms2 ∧ Rz W (w.heap.size + 2) 2 #[.int .i64 0] ∧ Below w.heap.size w W) := Lib.hid (fun W hb => ⟨HX0.out.next hb, HY0.out.next hb, HZ0.out.next hb, HB01.out.trans (hb.mono HB01.out.size)⟩)
  rw [hwb] at hw1
  clear h h2 hFs hcx hcy hl hF hgl k1 k2 hb1 hwb hsb
  go_enter_defers Tryd.func37, Tryd.ntmps37
  go_upto_region 1 with fail
  rw [← hw1]
  clear hw1
  go_wp2
  go_loopw [12] (fun i wr => ∃ (j : Nat), j ≤ k ∧ i = .int .i64 j ∧ Hid (Below w1.heap.size w1 wr) ∧ Hid (∀ j2, j2 < j → ChainOk p ds ms ds2 ms2 (F j2))) (fun i _ => k - (intOf i).toNat)
  case atStart => exact ⟨0, Nat.zero_le _, rfl, Lib.hid (Below.refl _ _), Lib.hid (fun _ h => absurd h (Nat.not_lt_zero _))⟩
  case round =>
    obtain ⟨j, hj, rfl, HB, HC⟩ := hrel
    obtain ⟨wx, hwx⟩ : ∃ wx : World, wx = wr := ⟨_, rfl⟩
    subst hwx
    have HH := Lib.hid (HNX.out wx HB.out)
    by_cases hlt : j < k
    · obtain ⟨v, hv, hl3⟩ := HFS.out j hlt
      have hbw := HH.out.2.2.2
      have hv' := later hbw (Nat.le_refl _) hv
      obtain ⟨af, cf, rfl⟩ := Sl.shape hl3
      have HRQ := Lib.hid (requireChainMap_any p 135 pv _ _ _ _ _ ds ms ds2 ms2 (F j) wx HH.out.1.cx HH.out.2.1.cx (hl3.below hbw) HCX.out HCY.out HLL.out (HFO.out j hlt) (later hbw (Nat.le_refl _) HGL.out))
      have c0 := HH.out.1.c0
      have c1 := HH.out.1.c1
      have c2 := HH.out.1.c2
      have d0 := HH.out.2.1.c0
      have d1 := HH.out.2.1.c1
      have d2 := HH.out.2.1.c2
      obtain ⟨fl, hfl⟩ : ∃ fl, fl = (F j).length := ⟨_, rfl⟩
      rw [← hfl] at hv' HRQ
      clear hv hl3 hbw hfl
      go_wp2_with fail
      refine HRQ.out.mono ?_
      rintro e w2 ⟨hb2, hh⟩
      have HB2 := Lib.hid (HB.out.trans (hb2.mono HB.out.size))
      clear HRQ hb2 c0 c1 c2 d0 d1 d2 hv'
      rcases hh with ⟨hc, rfl⟩ | ⟨hc, rfl⟩
      · have HC2 := Lib.hid hc
        clear hc
        go_wp2
        go_roundw
        case rel => exact ⟨j + 1, by omega, by go_num, HB2, Lib.hid (fun j2 h2 => by
          by_cases e : j2 = j
          · subst e; exact HC2.out
          · exact HC.out j2 (by omega))⟩
        case measure => simp [intOf]; omega
      · have HC2 := Lib.hid hc
        clear hc
        have HN2 := Lib.hid (HNX.out w2 HB2.out)
        have q0 : w2.cell? ⟨w.heap.size + 2, 0, none⟩ = some (.int .i64 0) := HN2.out.2.2.1.cell (i := 0) rfl
        have z0 := rz_frozen HN2.out.2.2.1 0
        go_wp2
        refine leaves_cons (f := 72) (args := #[.pointer (some ⟨w.heap.size + 1 + 1, 0, none⟩)]) (by simp) (by simp [go_sem]) ?_
        refine (catch_yes ⟨w.heap.size + 1 + 1, 0, none⟩ 0 pv [] w2 q0 z0).mono ?_
        rintro e u' w'' ⟨rfl, rfl, rfl⟩
        have q5 : (w2.setCell ⟨w.heap.size + 1 + 1, 0, none⟩ (.int .i64 5)).cell? ⟨w.heap.size + 1 + 1, 0, none⟩ = some (.int .i64 5) := World.cell?_setCell_same _ _ _ q0
        refine ⟨.int .i64 5, ?_, 5, rfl, HN2.out.2.2.2.setCell (by show w.heap.size ≤ w.heap.size + 1 + 1; omega) _, Or.inr ⟨rfl, fun hall => HC2.out (hall j hlt)⟩⟩
        simp only [results, HRES.out]
        go_simp
    · have HN2 := HH
      have q0 : wx.cell? ⟨w.heap.size + 2, 0, none⟩ = some (.int .i64 0) := HN2.out.2.2.1.cell (i := 0) rfl
      have z0 := rz_frozen HN2.out.2.2.1 0
      have q5 : (wx.setCell ⟨w.heap.size + 1 + 1, 0, none⟩ (.int .i64 0)).cell? ⟨w.heap.size + 1 + 1, 0, none⟩ = some (.int .i64 0) := World.cell?_setCell_same _ _ _ q0
      go_wp2
      refine leaves_cons (f := 72) (args := #[.pointer (some ⟨w.heap.size + 1 + 1, 0, none⟩)]) (by simp) (by simp [go_sem]) ?_
      refine (catch_no ⟨w.heap.size + 1 + 1, 0, none⟩ _).mono ?_
      rintro e u' w'' ⟨rfl, rfl, rfl⟩
      refine ⟨.int .i64 0, ?_, 0, rfl, HN2.out.2.2.2.setCell (by show w.heap.size ≤ w.heap.size + 1 + 1; omega) _, Or.inl ⟨rfl, fun j2 h2 => HC.out j2 (by omega)⟩⟩
      simp only [results, HRES.out]
      go_simp
end Go.Proofs.YtpchbceohnabnabDoor


namespace Go.Proofs.YtpchbceohnabnabDoor
open Go.RowKit

def ApB (p : Int) (c : Nat) (v : List Int) (t : List (List Int)) (w : World) (e : Ending) (w' : World) : Prop := ∃ u, e = .returned u ∧ Gb w.heap.size w' u (apT p c v t) ∧ Below w.heap.size w w'
theorem Ap.doneB {w wr : World} {p : Int} {c : Nat} {v : List Int} {t : List (List Int)} (hc : c ≤ 1048576) (ok : ApOk p c v t) (h : Ap w wr 2 p c v t v.length 0) : Gb w.heap.size wr (.slice (some ⟨w.heap.size, 0, none⟩) c c) (apT p c v t) := by
  have hl := apTo_length ok (Nat.le_refl _)
  have h1 : wr.rowIs w.heap.size 2 c (fun i => .int .i64 ((apT p c v t).getD i 0)) := h.row.congr (fun j _ => by simp [apCell, apT])
  have hlen : (apT p c v t).length = c := hl
  exact gb_row h1 hlen (fun i hi => by rw [getD_of_lt _ hi]) (by unfold maxLen; omega) (Nat.le_refl _)
set_option maxHeartbeats 3200000 in
theorem l01ApplyB_any (p : Int) (c : Nat) (va vt : Value) (v : List Int) (t : List (List Int)) (w : World) (ok : ApOk p c v t) (ha : L1 0 w va v) (ht : L2 0 w vt t) (hv : v.length ≤ 1048576) (hc : c ≤ 1048576) :
    Calls Tryd.prog 87 #[.int .i64 p, vt, va, .int .i64 c] w (ApB p c v t w) := by
  have hmk := run_make_row' (P := Tryd.prog) 22 2 (.int .i64 0) 8 Tryd.underlying22 Tryd.infoI rfl .i64 .i64 c (by omega) (by omega)
  have hp0 := ok.prime.lo
  have hp1 := ok.prime.hi
  have OK := Lib.hid ok
  clear ok
  refine Sl.cases ha (fun ad cap hx hv' => ?_) (fun b o cap hv' _ hpos hcl => ?_)
  · subst hx hv'
    clear ha ht
    go_enter Tryd.func87, Tryd.ntmps87
    go_wp2
    refine wp_loop_rounds 1 ?_
    rw [rounds_succ]
    go_wp2
    go_ret
    exact ⟨_, rfl, Ap.doneB (by omega) OK.out (Ap.start _ _ _ _ _ _), (Below.refl _ _).alloc (Nat.le_refl _) _⟩
  · refine Sl.cases ht (fun ad2 cap2 hx2 hv2 => absurd OK.out.len (by subst hx2; simp only [List.length_nil]; omega)) (fun b2 o2 cap2 hv2 _ hpos2 hcl2 => ?_)
    subst hv' hv2
    clear ha ht
    have hlen := OK.out.len
    have HC := Lib.hid hcl
    have HC2 := Lib.hid hcl2
    clear hcl hcl2
    go_enter Tryd.func87, Tryd.ntmps87
    go_wp2
    clear hmk
    go_loopw [10, 11] (fun i _ wr => ∃ (k : Nat), k ≤ v.length ∧ i = .int .i64 k ∧ Ap w wr 2 p c v t k 0) (fun i _ _ => v.length - (intOf i).toNat)
    case atStart => exact ⟨0, Nat.zero_le _, rfl, Ap.start _ _ _ _ _ _⟩
    case round =>
      obtain ⟨k, hk, rfl, HA⟩ := hrel
      by_cases hlt2 : k < v.length
      · have hlt3 : k < t.length := by omega
        obtain ⟨u, hu, hr⟩ := HC.out k hlt2
        obtain ⟨u2, hu2, hr2⟩ := HC2.out k hlt3
        have hnum := OK.out.num hlt2
        have hrow := OK.out.row hlt2
        rw [getD_of_lt _ hlt2] at hnum
        rw [getD_of_lt _ hlt3] at hrow
        obtain ⟨f, hf⟩ : ∃ f, f = v[k] := ⟨_, rfl⟩
        obtain ⟨ys, hy⟩ : ∃ ys, ys = t[k] := ⟨_, rfl⟩
        rw [← hf] at hnum
        rw [← hy] at hrow hr2
        obtain ⟨hf0, hf1⟩ := hnum
        have HU : Hid (w.cell? ⟨b, o + k, none⟩ = some (.int .i64 f)) := Lib.hid (by rw [hu, hr, hf])
        have HU2 := Lib.hid hu2
        have HF := Lib.hid hf
        have HY := Lib.hid hy
        have HROW := Lib.hid hrow
        have HR2 := Lib.hid hr2
        have HA' := Lib.hid HA
        clear hf hy hrow HA hu hr hu2 hr2
        obtain ⟨wo, hwo⟩ : ∃ wo : World, wo = wr := ⟨_, rfl⟩
        have HWO := Lib.hid hwo
        clear hwo
        go_wp2
        go_loopw [11] (fun i wr => ∃ (q : Nat), q ≤ c ∧ i = .int .i64 q ∧ Ap w wr 2 p c v t k q) (fun i _ => c - (intOf i).toNat)
        case atStart => exact ⟨0, Nat.zero_le _, rfl, HA'.out⟩
        case round =>
          obtain ⟨q, hq, rfl, HB⟩ := hrel
          by_cases hlt4 : q < c
          · have hl5 : q < ys.length := by have := HROW.out.1; omega
            refine Sl.cases HR2.out (fun ad3 cap3 hx3 hv3 => absurd hl5 (by subst hx3; simp)) (fun b3 o3 cap3 hv3 _ hpos3 hcl3 => ?_)
            obtain ⟨u3, hu3, hr3⟩ := hcl3 q hl5
            have hx := HROW.out.2 _ (List.getElem_mem hl5)
            obtain ⟨x, hxx⟩ : ∃ x, x = ys[q] := ⟨_, rfl⟩
            obtain ⟨a, haa⟩ : ∃ a, a = (apTo p c v t k).getD q 0 := ⟨_, rfl⟩
            have hab := apTo_mod OK.out (Nat.le_of_lt hlt2) q
            have hac := HB.cell hlt4
            have hfz := HB.row.frozen q
            rw [← haa] at hab hac
            rw [← hxx] at hx
            obtain ⟨hx0, hx1⟩ := hx
            obtain ⟨ha0, ha1⟩ := hab
            have hu' : wr.cell? ⟨b, o + k, none⟩ = some (.int .i64 f) := by rw [HB.below.cell (p := ⟨b, o + k, none⟩) (cell_lt HU.out)]; exact HU.out
            have hu2' : wr.cell? ⟨b2, o2 + k, none⟩ = some (.slice (some ⟨b3, o3, none⟩) ys.length cap3) := by rw [HB.below.cell (p := ⟨b2, o2 + k, none⟩) (cell_lt HU2.out)]; rw [HU2.out, hv3]
            have hu3' : wr.cell? ⟨b3, o3 + q, none⟩ = some (.int .i64 x) := by rw [HB.below.cell (p := ⟨b3, o3 + q, none⟩) (cell_lt hu3), hu3, hr3, hxx]
            have m0 : 0 ≤ f * x := Int.mul_nonneg hf0 hx0
            have m1 : f * x ≤ 36 := Int.le_trans (Int.mul_le_mul (show f ≤ 6 by omega) (show x ≤ 6 by omega) hx0 (by omega)) (by omega)
            have HS := Lib.hid (HB.step OK.out hlt2 hlt4 (x := (a + f * x) % p) (by rw [haa, HF.out, hxx, getD_of_lt _ hlt2, getD_of_lt _ hlt3, ← HY.out, getD_of_lt _ hl5]))
            clear HB hu3 hr3 haa hxx hv3 hcl3
            go_wp2
            go_region
            all_goals go_wp2
            all_goals go_roundw
            case rel => exact ⟨q + 1, by omega, by go_num, HS.out.drew⟩
            case measure => simp [intOf]; omega
          · have HB' := Lib.hid HB
            have hqc : Hid (q = c) := Lib.hid (by omega)
            clear HB
            go_wp2
            go_roundw
            case rel => exact ⟨k + 1, by omega, by go_num, Ap.next (by have := HB'.out; rwa [hqc.out] at this)⟩
            case measure => simp [intOf]; omega
      · have hkk : k = v.length := by omega
        subst hkk
        have HA' := Lib.hid HA
        clear HA
        go_wp2
        go_ret
        exact ⟨_, rfl, Ap.doneB (by omega) OK.out HA'.out, HA'.out.below⟩


set_option maxHeartbeats 1600000 in
set_option maxRecDepth 100000 in
theorem l04D_any (p : Int) (i c : Nat) (dv mv va : Value) (ds : List Int) (ms : List (List (List Int))) (vs : List Int) (w : World) (h : Cx 0 w dv mv ds ms) (hcx : IsCx p ds ms) (hi : i < ds.length) (hc : dimZ ds ((i : Int) + (-1)) = (c : Int)) (ha : L1 0 w va vs) (ok : ApOk p c vs (cycT ds ms i)) (hvl : vs.length ≤ 1048576) :
    Calls Tryd.prog 59 #[.agg #[.int .i64 p, dv, mv], .int .i64 (i : Int), va] w (GbR (apT p c vs (cycT ds ms i)) w) := by
  obtain ⟨ad, cap, rfl⟩ := Sl.shape h.dims
  obtain ⟨am, capm, rfl⟩ := Sl.shape h.maps
  obtain ⟨av, cv, rfl⟩ := Sl.shape ha
  have HX0 := Lib.hid (Bx.start (p := p) 30 h)
  have HCX := Lib.hid hcx
  have HOK := Lib.hid ok
  have hl6 := hcx.1.len1
  have hz := dimZ_b hcx ((i : Int) + (-1))
  have hc8 : c ≤ 8 := by omega
  obtain ⟨w1, hw1⟩ : ∃ w1 : World, w1 = w.alloc (.cells #[.int .i64 p, .slice ad ds.length cap, .slice am ms.length capm] 30) := ⟨_, rfl⟩
  rw [← hw1] at HX0
  have HA1 := Lib.hid (ha.below HX0.out.below)
  have HN1 : Hid (∀ W, Below w1.heap.size w1 W → Bx w W w.heap.size p (.slice ad ds.length cap) (.slice am ms.length capm) ds ms ∧ L1 0 W (.slice av vs.length cv) vs) := Lib.hid (fun W hb => ⟨HX0.out.next hb, HA1.out.below hb⟩)
  have hs1 := HX0.out.below.size
  have HDC := Lib.hid hc
  clear h hcx ha ok hz hc
  go_enter Tryd.func59, Tryd.ntmps59
  go_upto_region 1 with fail
  rw [← hw1]
  clear hw1
  by_cases h0 : i = 0
  · have hq : ((i : Int) == 0) = true := by simp [h0]
    have HE : Hid (apT p c vs (cycT ds ms i) = []) := Lib.hid (List.eq_nil_of_length_eq_zero (by have h1 := apT_length' HOK.out; have h2 := HDC.out; rw [dimZ_neg (by omega)] at h2; omega))
    clear h0
    go_wp2
    go_ret
    refine ⟨_, rfl, ?_, HX0.out.below.trans ((below_alloc1 _ _).mono hs1)⟩
    rw [HE.out]
    exact (Gb.new w1 (Nat.le_refl _)).mono hs1
  · have hq : ((i : Int) == 0) = false := by simp [h0]
    have hwk : IntKind.i64.wrap ((i : Int) - 1) = (i : Int) + (-1) := by rw [show (i : Int) - 1 = (i : Int) + (-1) by omega]; exact IntWalk.i64_in _ (by omega)
    clear h0
    go_wp2
    refine wp_region_held (S := fun W => Below w1.heap.size w1 W) (by kernel_rfl) ?_
    have S0 : Below w1.heap.size w1 w1.drew := (Below.refl _ _).drew
    refine held_take (i := 0) (v := .pointer (some ⟨w.heap.size, 0, none⟩)) (some 10) rfl rfl (by kernel_rfl) (by kernel_rfl) (by kernel_rfl) (fun _ _ _ h => h) (yieldsIf_run (by kernel_rfl) (fun W _ => by kernel_rfl)) S0 ?_
    refine held_take (i := 1) (v := .int .i64 p) (some 11) rfl rfl (by kernel_rfl) (by kernel_rfl) (by kernel_rfl) (fun _ _ _ h => h) (yieldsIf_cell (by kernel_rfl) rfl (by kernel_rfl) (fun W h => hload W ((HN1.out W h).1.c0))) S0 ?_
    refine held_take (i := 2) (v := .agg #[.int .i64 p, .slice ad ds.length cap, .slice am ms.length capm]) (some 12) rfl rfl (by kernel_rfl) (by kernel_rfl) (by kernel_rfl) (fun _ _ _ h => h) (yieldsIf_cell (by kernel_rfl) rfl (by kernel_rfl) (fun W h => hload3x (HN1.out W h).1)) S0 ?_
    refine held_take (i := 3) (v := .int .i64 (i : Int)) (some 13) rfl rfl (by kernel_rfl) (by kernel_rfl) (by kernel_rfl) (fun _ _ _ h => h) (yieldsIf_move (by kernel_rfl) rfl (by kernel_rfl)) S0 ?_
    refine held_take (i := 5) (v := .slice av vs.length cv) (some 15) rfl rfl (by kernel_rfl) (by kernel_rfl) (by kernel_rfl) (fun _ _ _ h => h) (yieldsIf_move (by kernel_rfl) rfl (by kernel_rfl)) S0 ?_
    refine held_take (i := 6) (v := .agg #[.int .i64 p, .slice ad ds.length cap, .slice am ms.length capm]) (some 16) rfl rfl (by kernel_rfl) (by kernel_rfl) (by kernel_rfl) (fun _ _ _ h => h) (yieldsIf_cell (by kernel_rfl) rfl (by kernel_rfl) (fun W h => hload3x (HN1.out W h).1)) S0 ?_
    refine held_take (i := 7) (v := .int .i64 (i : Int)) (some 17) rfl rfl (by kernel_rfl) (by kernel_rfl) (by kernel_rfl) (fun _ _ _ h => h) (yieldsIf_move (by kernel_rfl) rfl (by kernel_rfl)) S0 ?_
    refine held_take (i := 8) (v := .int .i64 ((i : Int) + (-1))) (some 18) rfl rfl (by kernel_rfl) (by kernel_rfl) (by kernel_rfl) (fun _ _ _ h => h) (yieldsIf_bin (by kernel_rfl) rfl (by kernel_rfl) (by kernel_rfl) (fun _ => rfl) (hsubA hwk)) S0 ?_
    refine held_enter (i := 4) (some 14) (f := 88) (args := #[.agg #[.int .i64 p, .slice ad ds.length cap, .slice am ms.length capm], .int .i64 (i : Int)]) (by kernel_rfl) rfl rfl rfl (by kernel_rfl) (l01Map_any p (i : Int) _ _ ds ms _ (HN1.out _ S0).1.cx HCX.out) ?_ (fun c w' h => by obtain ⟨_, h, _⟩ := h; cases h) (fun w' h => by obtain ⟨_, h, _⟩ := h; cases h)
    rintro ee w2 ⟨vt, he, hvt, hb2⟩
    injection he with he
    subst he
    have S1 : Below w1.heap.size w1 w2 := S0.trans (hb2.mono S0.size)
    obtain ⟨at', ct, hv⟩ := Sl.shape hvt
    subst hv
    refine ⟨S1, ?_⟩
    refine held_enter (i := 9) (some 19) (f := 58) (args := #[.agg #[.int .i64 p, .slice ad ds.length cap, .slice am ms.length capm], .int .i64 ((i : Int) + (-1))]) (by kernel_rfl) rfl rfl rfl (by kernel_rfl) (l01Dim_any p ((i : Int) + (-1)) _ _ ds ms _ (HN1.out _ S1).1.cx (by omega)) ?_ (fun c w' h => by cases h.1) (fun w' h => by cases h.1)
    rintro ee w3 ⟨he, hb3⟩
    injection he with he
    subst he
    have S2 : Below w1.heap.size w1 w3 := S1.trans (hb3.mono S1.size)
    refine ⟨S2, ?_⟩
    have hvt3 := hvt.below hb3
    have hmz : mapZ ds ms (i : Int) = cycT ds ms i := rfl
    rw [HDC.out]
    refine held_enter (i := 10) (some 20) (f := 87) (args := #[.int .i64 p, .slice at' (mapZ ds ms (i : Int)).length ct, .slice av vs.length cv, .int .i64 (c : Int)]) (by kernel_rfl) rfl rfl rfl (by kernel_rfl) (l01ApplyB_any p c _ _ vs (cycT ds ms i) _ HOK.out (HN1.out _ S2).2 hvt3 hvl (by omega)) ?_ (fun c w' h => by obtain ⟨_, h, _⟩ := h; cases h) (fun w' h => by obtain ⟨_, h, _⟩ := h; cases h)
    rintro ee w4 ⟨u4, he, hu, hb4⟩
    injection he with he
    subst he
    obtain ⟨a4, c4, hv⟩ := Sl.shape hu.l1
    subst hv
    have S3 : Below w1.heap.size w1 w4 := S2.trans (hb4.mono S2.size)
    have HU := Lib.hid (hu.mono (Nat.le_trans hs1 S2.size))
    have HBW := Lib.hid (HN1.out _ S3).1.below
    refine ⟨S3, ?_⟩
    refine held_take (i := 11) (v := .slice a4 (apT p c vs (cycT ds ms i)).length c4) (some 6) rfl rfl (by kernel_rfl) (by kernel_rfl) (by kernel_rfl) (fun _ _ _ h => h) (yieldsIf_assign (by kernel_rfl) rfl (by kernel_rfl)) S3 ?_
    refine wpAnyH_done (by kernel_rfl) ?_ _
    simp only [Act.put, List.setIfInBounds_toArray, List.set_cons_zero, List.set_cons_succ]
    clear S0 S1 S2 S3 hb2 hb3 hb4 hu hvt hvt3
    go_wp2
    go_ret
    exact ⟨_, rfl, HU.out, HBW.out⟩
end Go.Proofs.YtpchbceohnabnabDoor


namespace Go.Proofs.YtpchbceohnabnabDoor
open Go.RowKit

set_option maxHeartbeats 800000 in
theorem l04Same_any (va vb : Value) (xs ys : List Int) (w : World) (ha : L1 0 w va xs) (hb : L1 0 w vb ys) (hm : xs.length ≤ 1048576) (hn : ys.length ≤ 1048576) :
    Calls Tryd.prog 62 #[va, vb] w (QR (.bool (decide (xs = ys))) w) := by
  by_cases hl : ys.length = xs.length
  · refine Sl.cases ha (fun ad cap hx hv => ?_) (fun b o cap hv _ hpos hc => ?_)
    · subst hx hv
      obtain ⟨ad2, cap2, hv2⟩ := Sl.shape hb
      rw [hl] at hv2
      obtain rfl : ys = [] := List.eq_nil_of_length_eq_zero hl
      subst hv2
      clear ha hb hl
      go_enter Tryd.func62, Tryd.ntmps62
      go_wp2
      refine wp_loop_rounds 1 ?_
      rw [rounds_succ]
      go_wp2
      go_ret
      exact ⟨rfl, 0, rfl⟩
    · refine Sl.cases hb (fun ad cap hx hv => absurd hl (by subst hx; simp; omega)) (fun b2 o2 cap2 hv2 _ hpos2 hc2 => ?_)
      rw [hl] at hv2
      subst hv hv2
      clear ha hb
      have HL := Lib.hid hl
      have HC := Lib.hid hc
      have HC2 := Lib.hid hc2
      clear hl hc hc2
      go_enter Tryd.func62, Tryd.ntmps62
      go_wp2
      go_loopw [5] (fun i wr => ∃ (k m : Nat), k ≤ xs.length ∧ i = .int .i64 k ∧ wr = w.drewN m ∧ Hid (∀ j (h1 : j < xs.length) (h2 : j < ys.length), j < k → xs[j] = ys[j])) (fun i _ => xs.length - (intOf i).toNat)
      case atStart => exact ⟨0, 0, Nat.zero_le _, rfl, rfl, Lib.hid (fun _ _ _ h => absurd h (Nat.not_lt_zero _))⟩
      case round =>
        obtain ⟨k, m, hk, rfl, rfl, HD⟩ := hrel
        by_cases hlt2 : k < xs.length
        · have hlt3 : k < ys.length := by have := HL.out; omega
          obtain ⟨u, hu, hr⟩ := HC.out k hlt2
          obtain ⟨u2, hu2, hr2⟩ := HC2.out k hlt3
          obtain ⟨x, hx⟩ : ∃ x, x = xs[k] := ⟨_, rfl⟩
          obtain ⟨y, hy⟩ : ∃ y, y = ys[k] := ⟨_, rfl⟩
          rw [hr, ← hx] at hu
          rw [hr2, ← hy] at hu2
          have HX := Lib.hid hx
          have HY := Lib.hid hy
          clear hx hy hr hr2
          by_cases hxy : x = y
          · have HXY := Lib.hid hxy
            have hq : (x != y) = false := by simp [hxy]
            have hq2 : (x == y) = true := by simp [hxy]
            clear hxy
            go_wp2
            go_quiet (fail)
            go_wp2
            go_roundw
            case rel => exact ⟨k + 1, _, by omega, by go_num, rfl, Lib.hid (fun j h1 h2 hjk => by
              by_cases e : j = k
              · subst e; rw [← HX.out, ← HY.out, HXY.out]
              · exact HD.out j h1 h2 (by omega))⟩
            case measure => simp [intOf]; omega
          · have HXY := Lib.hid hxy
            have hq : (x != y) = true := by simp [hxy]
            have hq2 : (x == y) = false := by simp [hxy]
            clear hxy
            go_wp2
            go_quiet (fail)
            go_wp2
            go_ret
            refine ⟨ret_bool ?_, m + nq, by rw [World.drewN_drewN]⟩
            have hne : ¬ xs = ys := fun e => HXY.out (by rw [HX.out, HY.out]; subst e; rfl)
            simp [hne]
        · go_wp2
          go_ret
          refine ⟨ret_bool ?_, m, rfl⟩
          have := list_eq_take HL.out (by omega) HD.out
          simp [this]
  · obtain ⟨ad, cap, rfl⟩ := Sl.shape ha
    obtain ⟨ad2, cap2, rfl⟩ := Sl.shape hb
    clear ha hb
    have hq : ((xs.length : Int) != (ys.length : Int)) = true := by simp; omega
    have hq2 : ((xs.length : Int) == (ys.length : Int)) = false := by simp; omega
    have HL := Lib.hid hl
    clear hl
    go_enter Tryd.func62, Tryd.ntmps62
    go_wp2
    go_ret
    refine ⟨ret_bool ?_, 0, rfl⟩
    have hne : ¬ xs = ys := fun e => HL.out (by rw [e])
    simp [hne]
end Go.Proofs.YtpchbceohnabnabDoor


namespace Go.Proofs.YtpchbceohnabnabDoor
open Go.RowKit

theorem hloadSS (w : World) {b o : Nat} {x : Value} (h : w.cell? ⟨b, o, none⟩ = some x) : (Instr.loadAt 48 (.pointer (some ⟨b, o, none⟩))).run Tryd.prog w = .ok x w := by go_simp
theorem hloadSSS (w : World) {b o : Nat} {x : Value} (h : w.cell? ⟨b, o, none⟩ = some x) : (Instr.loadAt 23 (.pointer (some ⟨b, o, none⟩))).run Tryd.prog w = .ok x w := by go_simp
end Go.Proofs.YtpchbceohnabnabDoor


namespace Go.Proofs.YtpchbceohnabnabDoor
open Go.RowKit

theorem chain_zero {p : Int} {ds : List Int} {ms : List (List (List Int))} {ds2 : List Int} {ms2 fs : List (List (List Int))} (hcx : PreOk p ds ms) (hcy : PreOk p ds2 ms2) (hl : ds.length = ds2.length) (hF : FamOk p ds ds2 0 fs) {i : Nat} (hi : i < rsF ds 0) : chA p ds ms ds2 fs 0 i = chB p ds2 ms2 fs 0 i := by
  have h0 := hcx.len0
  have e : csF ds2 (-1) 0 = 0 := by simp only [csF]; rw [dimZ_neg (by omega)]; rfl
  have a := apT_length' (chA_ok hcx hcy hF (by omega) hi)
  have b := apT_length' (chB_ok hcx hcy hl hF (by omega) hi).1
  rw [e] at a b
  have a' : chA p ds ms ds2 fs 0 i = [] := List.eq_nil_of_length_eq_zero (by unfold chA; rw [e]; exact a)
  have b' : chB p ds2 ms2 fs 0 i = [] := List.eq_nil_of_length_eq_zero (by unfold chB; rw [e]; exact b)
  rw [a', b']
theorem hsubNc {a : Int} (h : 1 ≤ a ∧ a ≤ 100) : IntKind.i64.wrap (a - 1) = a - 1 := IntWalk.i64_in _ (by omega)

set_option maxHeartbeats 6400000 in
set_option maxRecDepth 100000 in
theorem l04Chain_any (p : Int) (dv mv dv2 mv2 fv : Value) (ds : List Int) (ms : List (List (List Int))) (ds2 : List Int) (ms2 fs : List (List (List Int))) (w : World) (h : Cx 0 w dv mv ds ms) (h2 : Cx 0 w dv2 mv2 ds2 ms2) (hf : L3 0 w fv fs) (hcx : IsCx p ds ms) (hcy : IsCx p ds2 ms2) (hl : ds.length = ds2.length) (hF : FamOk p ds ds2 0 fs) :
    Calls Tryd.prog 33 #[.agg #[.int .i64 p, dv, mv], .agg #[.int .i64 p, dv2, mv2], fv] w (BB (ChainOk p ds ms ds2 ms2 fs) w) := by
  obtain ⟨ad, cap, rfl⟩ := Sl.shape h.dims
  obtain ⟨am, capm, rfl⟩ := Sl.shape h.maps
  obtain ⟨ad2, cap2, rfl⟩ := Sl.shape h2.dims
  obtain ⟨am2, capm2, rfl⟩ := Sl.shape h2.maps
  obtain ⟨af, cf, rfl⟩ := Sl.shape hf
  obtain ⟨k1, k2⟩ := bx_two (p := p) (p2 := p) 30 h h2
  have HX0 := Lib.hid k1
  have HY0 := Lib.hid k2
  have HCX := Lib.hid hcx
  have HCY := Lib.hid hcy
  have HLL := Lib.hid hl
  have HFO := Lib.hid hF
  have HF := Lib.hid hf
  have hl6 := hcx.1.len1
  have hl1 := hcx.1.len0
  have HFL : Hid (fs.length = ds.length) := Lib.hid hF.1
  obtain ⟨w1, hw1⟩ : ∃ w1, w1 = ((w.alloc (.cells #[.int .i64 p, .slice ad ds.length cap, .slice am ms.length capm] 30)).alloc (.cells #[.int .i64 p, .slice ad2 ds2.length cap2, .slice am2 ms2.length capm2] 30)) := ⟨_, rfl⟩
  rw [← hw1] at HX0 HY0
  have HB01 := Lib.hid HX0.out.below
  have HNX : Hid (∀ W, Below w1.heap.size w1 W → Bx w W w.heap.size p (.slice ad ds.length cap) (.slice am ms.length capm) ds ms ∧ Bx w W (w.heap.size + 1) p (.slice ad2 ds2.length cap2) (.slice am2 ms2.length capm2) ds2 ms2 ∧ Below w.heap.size w W) := Lib.hid (fun W h => ⟨HX0.out.next h, HY0.out.next h, HB01.out.trans (h.mono HB01.out.size)⟩)
  refine Sl.cases h.dims (fun _ _ hx _ => absurd hl1 (by simp [hx])) (fun bd od capd hvd _ _ hcl => ?_)
  injection hvd with e1 e2 e3
  clear e2
  subst e1 e3
  have HDC : Hid (∀ W, Below w.heap.size w W → ∀ n, n < ds.length → W.cell? ⟨bd, od + n, none⟩ = some (.int .i64 (rsF ds n : Int))) := Lib.hid (fun W hb n hn => by
    obtain ⟨u, hu, hr⟩ := hcl n hn
    have := later hb (Nat.le_refl _) hu
    rw [this, hr, ← getD_of_lt 0 hn]
    have := HCX.out.1.dim n
    simp only [rsF]
    congr 2
    omega)
  clear h h2 hf k1 k2 hcx hcy hl hF hcl
  go_enter Tryd.func33, Tryd.ntmps33
  go_upto_region 1 with fail
  rw [← hw1]
  clear hw1
  go_wp2
  go_loopw [7] (fun k wr => ∃ (n : Nat), 1 ≤ n ∧ n ≤ ds.length ∧ k = .int .i64 n ∧ Hid (Below w1.heap.size w1 wr) ∧ Hid (∀ n2, n2 < n → ∀ i, i < rsF ds n2 → chA p ds ms ds2 fs n2 i = chB p ds2 ms2 fs n2 i)) (fun k _ => ds.length - (intOf k).toNat)
  case atStart => exact ⟨1, Nat.le_refl _, hl1, rfl, Lib.hid (Below.refl _ _), Lib.hid (fun n2 h2 i hi => by
    obtain rfl : n2 = 0 := by omega
    exact chain_zero HCX.out.1 HCY.out.1 HLL.out HFO.out hi)⟩
  case round =>
    obtain ⟨n, hn1, hn, rfl, HB, HC⟩ := hrel
    obtain ⟨wx, hwx⟩ : ∃ wx : World, wx = wr := ⟨_, rfl⟩
    subst hwx
    have HN := Lib.hid (HNX.out wx HB.out)
    have c1 := HN.out.1.c1
    by_cases hlt : n < ds.length
    · obtain ⟨r, hr⟩ : ∃ r, r = rsF ds n := ⟨_, rfl⟩
      have HR := Lib.hid hr
      have hr8 : r ≤ 8 := by have := HCX.out.1.dim n; rw [hr]; simp only [rsF]; omega
      clear hr
      go_wp2
      clear c1
      go_loopw [8] (fun k wr => ∃ (i : Nat), i ≤ r ∧ k = .int .i64 i ∧ Hid (Below w1.heap.size w1 wr) ∧ Hid (∀ i2, i2 < i → chA p ds ms ds2 fs n i2 = chB p ds2 ms2 fs n i2)) (fun k _ => r - (intOf k).toNat)
      case atStart => exact ⟨0, Nat.zero_le _, rfl, HB, Lib.hid (fun _ h => absurd h (Nat.not_lt_zero _))⟩
      case round =>
        obtain ⟨i, hi, rfl, HB2, HI⟩ := hrel
        obtain ⟨wy, hwy⟩ : ∃ wy : World, wy = wr := ⟨_, rfl⟩
        subst hwy
        have HN2 := Lib.hid (HNX.out wy HB2.out)
        have c1 := HN2.out.1.c1
        have hu : wy.cell? ⟨bd, od + n, none⟩ = some (.int .i64 (r : Int)) := by rw [HR.out]; exact HDC.out wy HN2.out.2.2 n hlt
        by_cases hlt2 : i < r
        · have HU := Lib.hid (l04Unit_any r i wy (by omega) hlt2)
          go_wp2_with fail
          refine HU.out.mono ?_
          rintro e w3 ⟨u9, rfl, hg9, hb9⟩
          have HB3 := Lib.hid (HB2.out.trans (hb9.mono HB2.out.size))
          have HN3 := Lib.hid (HNX.out w3 HB3.out)
          have HL9 : Hid (L1 0 w3 u9 (unitL r i)) := Lib.hid hg9.l1
          obtain ⟨a9, c9, hv9⟩ := Sl.shape hg9.l1
          rw [unitRow_length] at hv9
          subst hv9
          clear HU hg9 hb9 c1 hu
          have hlf : n < fs.length := by rw [HFL.out]; exact hlt
          refine Sl.cases HF.out (fun _ _ hx _ => absurd hlf (by simp [hx])) (fun bf of cf2 hvf _ _ hcf => ?_)
          injection hvf with e1 e2 e3
          clear e2
          subst e1 e3
          obtain ⟨ut, hut, hrt⟩ := hcf n hlf
          rw [← getD_of_lt [] hlf] at hrt
          obtain ⟨_, _, hit, hro⟩ := fam_row HFO.out hlt (by rw [← HR.out]; exact hlt2) (HCX.out.1.dim n).1 (HCY.out.1.dsOk.dimZ ((n : Int) + 0)).1
          obtain ⟨t, ht⟩ : ∃ t, t = fs.getD n [] := ⟨_, rfl⟩
          rw [← ht] at hrt hit hro
          have HT := Lib.hid ht
          obtain ⟨at', ct, hvt⟩ := Sl.shape hrt
          subst hvt
          refine Sl.cases hrt (fun _ _ hx _ => absurd hit (by simp [hx])) (fun bt ot ct2 hvt _ _ hct => ?_)
          injection hvt with e1 e2 e3
          clear e2
          subst e1 e3
          obtain ⟨uv, huv, hrv⟩ := hct i hit
          rw [← getD_of_lt [] hit] at hrv
          obtain ⟨row, hrow⟩ : ∃ row, row = t.getD i [] := ⟨_, rfl⟩
          rw [← hrow] at hrv hro
          have HROW := Lib.hid hrow
          obtain ⟨av, cv, hvv⟩ := Sl.shape hrv
          subst hvv
          have hrowl : row.length ≤ 1048576 := by have h1 := hro.1; have h2 := HCY.out.1.dsOk.dimZ ((n : Int) + 0); simp only [csF] at h1; omega
          have HLV := Lib.hid hrv
          have HCE : Hid (∀ W, Below w3.heap.size w3 W → W.cell? ⟨bf, of + n, none⟩ = some (.slice (some ⟨bt, ot, none⟩) t.length ct) ∧ W.cell? ⟨bt, ot + i, none⟩ = some (.slice av row.length cv)) := Lib.hid (fun W hb => by
            have h0 := HN3.out.2.2.trans (hb.mono HN3.out.2.2.size)
            exact ⟨later h0 (Nat.le_refl _) hut, later h0 (Nat.le_refl _) huv⟩)
          have HXY : Hid (∀ W, Below w3.heap.size w3 W → Bx w W w.heap.size p (.slice (some ⟨bd, od, none⟩) ds.length cap) (.slice am ms.length capm) ds ms ∧ Bx w W (w.heap.size + 1) p (.slice ad2 ds2.length cap2) (.slice am2 ms2.length capm2) ds2 ms2 ∧ Below w.heap.size w W ∧ L1 0 W (.slice a9 r c9) (unitL r i)) := Lib.hid (fun W hb => by
            have h0 := HNX.out W (HB3.out.trans (hb.mono HB3.out.size))
            exact ⟨h0.1, h0.2.1, h0.2.2, HL9.out.below hb⟩)
          have hir : i < rsF ds n := by rw [← HR.out]; exact hlt2
          have hfr := fam_row (dfL_fam HCX.out.1) hlt hir (HCX.out.1.dim n).1 (HCX.out.1.dsOk.dimZ ((n : Int) + (-1))).1
          have okd : ApOk p (csF ds (-1) n) (unitL r i) (cycT ds ms n) := by
            have := unit_apOk (i := i) HCX.out.1.prime (cn := csF ds (-1) n) rfl hfr.2.1
            rw [dfL_get hlt, ← HR.out] at this
            exact this
          have edr : apT p (csF ds (-1) n) (unitL r i) (cycT ds ms n) = ((dfL ds ms).getD n []).getD i [] := by
            have := unit_apT (i := i) (unit_apOk (i := i) HCX.out.1.prime (cn := csF ds (-1) n) rfl hfr.2.1) hir
            rw [← HR.out] at this
            rw [dfL_get hlt] at this ⊢
            exact this
          have hzx := HCX.out.1.dsOk.dimZ ((n : Int) + (-1))
          have hzy := HCY.out.1.dsOk.dimZ ((n : Int) + (-1))
          have oA := chA_ok HCX.out.1 HCY.out.1 HFO.out hlt hir
          have oB := (chB_ok HCX.out.1 HCY.out.1 HLL.out HFO.out hlt hir).1
          have epr : prevT fs n = fs.getD (n - 1) [] := if_neg (by omega)
          rw [epr] at oA
          have ecn : ((n - 1 : Nat) : Int) = (n : Int) - 1 := by omega
          have hDR : (((dfL ds ms).getD n []).getD i []).length ≤ 1048576 := by have h1 := hfr.2.2.2.1; simp only [csF] at h1; omega
          have HD1 : Hid (∀ W, Below w3.heap.size w3 W → Calls Tryd.prog 59 #[.agg #[.int .i64 p, .slice (some ⟨bd, od, none⟩) ds.length cap, .slice am ms.length capm], .int .i64 (n : Int), .slice a9 r c9] W (GbR (((dfL ds ms).getD n []).getD i []) W)) := Lib.hid (fun W hb => by
            have h0 := HXY.out W hb
            have := l04D_any p n (csF ds (-1) n) _ _ _ ds ms (unitL r i) W h0.1.cx HCX.out hlt (by simp only [csF]; omega) h0.2.2.2 okd (by rw [unitL_length]; omega)
            rwa [edr] at this)
          have HIM : Hid (∀ W u, Below w3.heap.size w3 W → L1 0 W u (((dfL ds ms).getD n []).getD i []) → Calls Tryd.prog 60 #[.agg #[.int .i64 p, .slice (some ⟨bd, od, none⟩) ds.length cap, .slice am ms.length capm], .agg #[.int .i64 p, .slice ad2 ds2.length cap2, .slice am2 ms2.length capm2], .slice (some ⟨bf, of, none⟩) fs.length cf, .int .i64 ((n : Int) - 1), .int .i64 0, u] W (ApG p (csF ds2 (-1) n) (((dfL ds ms).getD n []).getD i []) (fs.getD (n - 1) []) W)) := Lib.hid (fun W u hb hu => by
            have h0 := HXY.out W hb
            have := l04Image_any p p 0 (n - 1) (csF ds2 (-1) n) _ _ _ _ _ u ds ms ds2 ms2 fs _ W h0.1.cx h0.2.1.cx (HF.out.below h0.2.2.1) hu HCY.out (by omega) (by omega) (by omega) (by rw [ecn, show (n : Int) - 1 + 0 = (n : Int) + (-1) by omega]; simp only [csF]; omega) oA hDR
            rwa [ecn] at this)
          have HD2 : Hid (∀ W, Below w3.heap.size w3 W → Calls Tryd.prog 59 #[.agg #[.int .i64 p, .slice ad2 ds2.length cap2, .slice am2 ms2.length capm2], .int .i64 (n : Int), .slice av row.length cv] W (GbR (chB p ds2 ms2 fs n i) W)) := Lib.hid (fun W hb => by
            have h0 := HXY.out W hb
            have hn2 : n < ds2.length := by rw [← HLL.out]; exact hlt
            have o2 := oB
            rw [dfL_get hn2, ← HT.out, ← HROW.out] at o2
            have := l04D_any p n (csF ds2 (-1) n) _ _ _ ds2 ms2 row W h0.2.1.cx HCY.out hn2 (by simp only [csF]; omega) (HLV.out.below h0.2.2.1) o2 hrowl
            unfold chB
            rw [dfL_get hn2, ← HT.out, ← HROW.out]
            exact this)
          have ecA : chA p ds ms ds2 fs n i = apT p (csF ds2 (-1) n) (((dfL ds ms).getD n []).getD i []) (fs.getD (n - 1) []) := by unfold chA; rw [epr]
          have HAE := Lib.hid ecA
          have hLA : (chA p ds ms ds2 fs n i).length = csF ds2 (-1) n := by rw [ecA]; exact apT_length' oA
          have hLB : (chB p ds2 ms2 fs n i).length = csF ds2 (-1) n := apT_length' oB
          have HLAB : Hid ((chA p ds ms ds2 fs n i).length ≤ 1048576 ∧ (chB p ds2 ms2 fs n i).length ≤ 1048576) := Lib.hid (by rw [hLA, hLB]; simp only [csF]; omega)
          obtain ⟨drl, hdrl⟩ : ∃ k, k = (((dfL ds ms).getD n []).getD i []).length := ⟨_, rfl⟩
          have HDRL := Lib.hid hdrl
          clear hut hrt hcf hct huv hrv ht hrow hro hfr okd edr hzx hzy oA oB epr ecn hDR ecA hLA hLB hdrl hrowl
          go_upto_region 8 with fail
          refine wp_region_held (S := fun W => Below w3.heap.size w3 W) (by kernel_rfl) ?_
          have S0 : Below w3.heap.size w3 w3.drew := (Below.refl _ _).drew
          change wpAnyH _ _ _ _ _ _ _ _ w3.drew
          obtain ⟨wd, hwd⟩ : ∃ wd, wd = w3.drew := ⟨_, rfl⟩
          rw [← hwd] at S0 ⊢
          clear hwd
          refine held_take (i := 0) (v := .agg #[.int .i64 p, .slice (some ⟨bd, od, none⟩) ds.length cap, .slice am ms.length capm]) (some 33) rfl rfl (by kernel_rfl) (by kernel_rfl) (by kernel_rfl) (fun _ _ _ h => h) (yieldsIf_cell (by kernel_rfl) rfl (by kernel_rfl) (fun W h => hload3x (HXY.out W h).1)) S0 ?_
          refine held_take (i := 1) (v := .agg #[.int .i64 p, .slice ad2 ds2.length cap2, .slice am2 ms2.length capm2]) (some 34) rfl rfl (by kernel_rfl) (by kernel_rfl) (by kernel_rfl) (fun _ _ _ h => h) (yieldsIf_cell (by kernel_rfl) rfl (by kernel_rfl) (fun W h => hload3x (HXY.out W h).2.1)) S0 ?_
          refine held_take (i := 2) (v := .slice (some ⟨bf, of, none⟩) fs.length cf) (some 35) rfl rfl (by kernel_rfl) (by kernel_rfl) (by kernel_rfl) (fun _ _ _ h => h) (yieldsIf_move (by kernel_rfl) rfl (by kernel_rfl)) S0 ?_
          refine held_take (i := 3) (v := .int .i64 (n : Int)) (some 36) rfl rfl (by kernel_rfl) (by kernel_rfl) (by kernel_rfl) (fun _ _ _ h => h) (yieldsIf_move (by kernel_rfl) rfl (by kernel_rfl)) S0 ?_
          refine held_take (i := 4) (v := .int .i64 ((n : Int) - 1)) (some 37) rfl rfl (by kernel_rfl) (by kernel_rfl) (by kernel_rfl) (fun _ _ _ h => h) (yieldsIf_bin (by kernel_rfl) rfl (by kernel_rfl) (by kernel_rfl) (fun _ => rfl) (hsubA (hsubNc (by omega)))) S0 ?_
          refine held_take (i := 5) (v := .agg #[.int .i64 p, .slice (some ⟨bd, od, none⟩) ds.length cap, .slice am ms.length capm]) (some 38) rfl rfl (by kernel_rfl) (by kernel_rfl) (by kernel_rfl) (fun _ _ _ h => h) (yieldsIf_cell (by kernel_rfl) rfl (by kernel_rfl) (fun W h => hload3x (HXY.out W h).1)) S0 ?_
          refine held_take (i := 6) (v := .int .i64 (n : Int)) (some 39) rfl rfl (by kernel_rfl) (by kernel_rfl) (by kernel_rfl) (fun _ _ _ h => h) (yieldsIf_move (by kernel_rfl) rfl (by kernel_rfl)) S0 ?_
          refine held_take (i := 7) (v := .slice a9 r c9) (some 40) rfl rfl (by kernel_rfl) (by kernel_rfl) (by kernel_rfl) (fun _ _ _ h => h) (yieldsIf_move (by kernel_rfl) rfl (by kernel_rfl)) S0 ?_
          refine held_take (i := 10) (v := .agg #[.int .i64 p, .slice ad2 ds2.length cap2, .slice am2 ms2.length capm2]) (some 43) rfl rfl (by kernel_rfl) (by kernel_rfl) (by kernel_rfl) (fun _ _ _ h => h) (yieldsIf_cell (by kernel_rfl) rfl (by kernel_rfl) (fun W h => hload3x (HXY.out W h).2.1)) S0 ?_
          refine held_take (i := 11) (v := .int .i64 (n : Int)) (some 44) rfl rfl (by kernel_rfl) (by kernel_rfl) (by kernel_rfl) (fun _ _ _ h => h) (yieldsIf_move (by kernel_rfl) rfl (by kernel_rfl)) S0 ?_
          refine held_take (i := 12) (v := .slice (some ⟨bf, of, none⟩) fs.length cf) (some 45) rfl rfl (by kernel_rfl) (by kernel_rfl) (by kernel_rfl) (fun _ _ _ h => h) (yieldsIf_move (by kernel_rfl) rfl (by kernel_rfl)) S0 ?_
          refine held_take (i := 13) (v := .int .i64 (n : Int)) (some 46) rfl rfl (by kernel_rfl) (by kernel_rfl) (by kernel_rfl) (fun _ _ _ h => h) (yieldsIf_move (by kernel_rfl) rfl (by kernel_rfl)) S0 ?_
          refine held_take (i := 14) (v := .pointer (some ⟨bf, of + n, none⟩)) (some 47) rfl rfl (by kernel_rfl) (by kernel_rfl) (by kernel_rfl) (fun _ _ _ h => h) (yieldsIf_index (by kernel_rfl) rfl (by kernel_rfl) (by kernel_rfl) (hidxU bf of cf hlf)) S0 ?_
          refine held_take (i := 15) (v := .slice (some ⟨bt, ot, none⟩) t.length ct) (some 48) rfl rfl (by kernel_rfl) (by kernel_rfl) (by kernel_rfl) (fun _ _ _ h => h) (yieldsIf_cell (by kernel_rfl) rfl (by kernel_rfl) (fun W h => hloadSS W (HCE.out W h).1)) S0 ?_
          refine held_take (i := 16) (v := .int .i64 (i : Int)) (some 49) rfl rfl (by kernel_rfl) (by kernel_rfl) (by kernel_rfl) (fun _ _ _ h => h) (yieldsIf_move (by kernel_rfl) rfl (by kernel_rfl)) S0 ?_
          refine held_take (i := 17) (v := .pointer (some ⟨bt, ot + i, none⟩)) (some 50) rfl rfl (by kernel_rfl) (by kernel_rfl) (by kernel_rfl) (fun _ _ _ h => h) (yieldsIf_index (by kernel_rfl) rfl (by kernel_rfl) (by kernel_rfl) (hidxS bt ot ct hit)) S0 ?_
          refine held_take (i := 18) (v := .slice av row.length cv) (some 51) rfl rfl (by kernel_rfl) (by kernel_rfl) (by kernel_rfl) (fun _ _ _ h => h) (yieldsIf_cell (by kernel_rfl) rfl (by kernel_rfl) (fun W h => hloadS W (HCE.out W h).2)) S0 ?_
          refine held_enter (i := 8) (some 41) (f := 59) (args := #[.agg #[.int .i64 p, .slice (some ⟨bd, od, none⟩) ds.length cap, .slice am ms.length capm], .int .i64 (n : Int), .slice a9 r c9]) (by kernel_rfl) rfl rfl rfl (by kernel_rfl) (HD1.out _ S0) ?_ (fun c w' h => by obtain ⟨_, h, _⟩ := h; cases h) (fun w' h => by obtain ⟨_, h, _⟩ := h; cases h)
          rintro ee V1 ⟨u1, he, hg1, hb1⟩
          injection he with he
          subst he
          obtain ⟨a1, c1, hv1⟩ := Sl.shape hg1.l1
          rw [← HDRL.out] at hv1
          subst hv1
          have S1 : Below w3.heap.size w3 V1 := S0.trans (hb1.mono S0.size)
          refine ⟨S1, ?_⟩
          refine held_enter (i := 9) (some 42) (f := 60) (args := #[.agg #[.int .i64 p, .slice (some ⟨bd, od, none⟩) ds.length cap, .slice am ms.length capm], .agg #[.int .i64 p, .slice ad2 ds2.length cap2, .slice am2 ms2.length capm2], .slice (some ⟨bf, of, none⟩) fs.length cf, .int .i64 ((n : Int) - 1), .int .i64 0, .slice a1 drl c1]) (by kernel_rfl) rfl rfl rfl (by kernel_rfl) (HIM.out _ _ S1 hg1.l1) ?_ (fun c w' h => by obtain ⟨_, h, _⟩ := h; cases h) (fun w' h => by obtain ⟨_, h, _⟩ := h; cases h)
          rintro ee V2 ⟨u2, he, hg2, hb2⟩
          injection he with he
          subst he
          rw [← HAE.out] at hg2
          obtain ⟨a2, c2, hv2⟩ := Sl.shape hg2.l1
          have S2 : Below w3.heap.size w3 V2 := S1.trans (hb2.mono S1.size)
          obtain ⟨la, hla⟩ : ∃ k, k = (chA p ds ms ds2 fs n i).length := ⟨_, rfl⟩
          rw [← hla] at hv2
          subst hv2
          refine ⟨S2, ?_⟩
          refine held_enter (i := 19) (some 52) (f := 59) (args := #[.agg #[.int .i64 p, .slice ad2 ds2.length cap2, .slice am2 ms2.length capm2], .int .i64 (n : Int), .slice av row.length cv]) (by kernel_rfl) rfl rfl rfl (by kernel_rfl) (HD2.out _ S2) ?_ (fun c w' h => by obtain ⟨_, h, _⟩ := h; cases h) (fun w' h => by obtain ⟨_, h, _⟩ := h; cases h)
          rintro ee V3 ⟨u3, he, hg3, hb3⟩
          injection he with he
          subst he
          obtain ⟨a3, c3, hv3⟩ := Sl.shape hg3.l1
          have S3 : Below w3.heap.size w3 V3 := S2.trans (hb3.mono S2.size)
          obtain ⟨lb, hlb⟩ : ∃ k, k = (chB p ds2 ms2 fs n i).length := ⟨_, rfl⟩
          rw [← hlb] at hv3
          subst hv3
          refine ⟨S3, ?_⟩
          refine held_enter (i := 20) (some 53) (f := 62) (args := #[.slice a2 la c2, .slice a3 lb c3]) (by kernel_rfl) rfl rfl rfl (by kernel_rfl) (l04Same_any _ _ (chA p ds ms ds2 fs n i) (chB p ds2 ms2 fs n i) _ (hg2.l1.below hb3) hg3.l1 HLAB.out.1 HLAB.out.2) ?_ (fun c w' h => by cases h.1) (fun w' h => by cases h.1)
          rintro ee V4 ⟨he, q4, hq4⟩
          injection he with he
          subst he
          have hb4 : Below V3.heap.size V3 V4 := by rw [hq4]; exact drewN_below _ _
          have S4 : Below w3.heap.size w3 V4 := S3.trans (hb4.mono S3.size)
          refine ⟨S4, ?_⟩
          refine held_take (i := 21) (v := .bool (!decide (chA p ds ms ds2 fs n i = chB p ds2 ms2 fs n i))) (some 54) rfl rfl (by kernel_rfl) (by kernel_rfl) (by kernel_rfl) (fun _ _ _ h => h) (yieldsIf_run (by kernel_rfl) (fun W _ => by kernel_rfl)) S4 ?_
          refine wpAnyH_done (by kernel_rfl) ?_ _
          simp only [Act.put, List.setIfInBounds_toArray, List.set_cons_zero, List.set_cons_succ]
          have HB4 := Lib.hid (HB3.out.trans (S4.mono HB3.out.size))
          obtain ⟨wz, hwz⟩ : ∃ wz : World, wz = V4 := ⟨_, rfl⟩
          rw [← hwz] at HB4 ⊢
          have HN4 := Lib.hid (HNX.out wz HB4.out)
          clear S0 S1 S2 S3 S4 hb1 hb2 hb3 hb4 hg1 hg2 hg3 hq4 hwz hla hlb HCE HXY HD1 HIM HD2
          by_cases hch : chA p ds ms ds2 fs n i = chB p ds2 ms2 fs n i
          · rw [decide_eq_true hch]
            have HCH := Lib.hid hch
            clear hch
            simp only [Bool.not_true]
            go_wp2
            go_roundw
            case rel => exact ⟨i + 1, by omega, by go_num, HB4, Lib.hid (fun i2 h2 => by
              by_cases e : i2 = i
              · subst e; exact HCH.out
              · exact HI.out i2 (by omega))⟩
            case measure => simp [intOf]; omega
          · rw [decide_eq_false hch]
            have HCH := Lib.hid hch
            clear hch
            simp only [Bool.not_false]
            go_wp2
            go_ret
            exact bb_false HN4.out.2.2 (fun h => HCH.out (h n hlt i hir))
        · go_wp2
          go_roundw
          case rel => exact ⟨n + 1, by omega, by omega, by go_num, HB2, Lib.hid (fun n2 h2 i2 hi2 => by
            by_cases e : n2 = n
            · subst e
              exact HI.out i2 (by rw [← HR.out] at hi2; omega)
            · exact HC.out n2 (by omega) i2 hi2)⟩
          case measure => simp [intOf]; omega
    · go_wp2
      go_ret
      exact bb_true HN.out.2.2 (fun n2 h2 => HC.out n2 (by omega))
end Go.Proofs.YtpchbceohnabnabDoor


namespace Go.Proofs.YtpchbceohnabnabDoor
open Go.RowKit

theorem hidxQ (b o : Nat) {k n : Nat} (cap : Nat) (hk : k < n) (w : World) : (Instr.indexAt 79 (.slice (some ⟨b, o, none⟩) n cap) (.int .i64 k)).run Tryd.prog w = .ok (.pointer (some ⟨b, o + k, none⟩)) w := by
  have h2 : (0 : Int) ≤ (k : Int) := by omega
  have h3 : (k : Int) < (n : Int) := by omega
  go_simp
def AllCh (p : Int) (ds : List Int) (ms : List (List (List Int))) (ds2 : List Int) (ms2 : List (List (List Int))) (k : Nat) (F : Nat → List (List (List Int))) : Prop := ∀ j, j < k → ChainOk p ds ms ds2 ms2 (F j)
open Classical in
/-- The code of families that have to be chain maps, out of that of families. -/
noncomputable def mapCode (cd : Int) (all : Prop) : Int := if cd = 0 then (if all then 0 else 5) else cd
theorem mapCode_ok {cd : Int} {all : Prop} (h : cd = 0) (ha : all) : mapCode cd all = 0 := by unfold mapCode; rw [if_pos h, if_pos ha]
theorem mapCode_no {cd : Int} {all : Prop} (h : cd = 0) (ha : ¬ all) : mapCode cd all = 5 := by unfold mapCode; rw [if_pos h, if_neg ha]
theorem mapCode_ne {cd : Int} {all : Prop} (h : cd ≠ 0) : mapCode cd all = cd := by unfold mapCode; rw [if_neg h]
set_option maxHeartbeats 3200000 in
set_option maxRecDepth 100000 in
theorem l04Maps_any (p p2 cd : Int) (k b : Nat) (F : Nat → List (List (List Int))) (dv mv dv2 mv2 : Value) (ds : List Int) (ms : List (List (List Int))) (ds2 : List Int) (ms2 : List (List (List Int))) (w : World) (h : Cx 0 w dv mv ds ms) (h2 : Cx 0 w dv2 mv2 ds2 ms2) (hFs : FamsAt w b k F) (hk : k ≤ 100)
    (hcd : ∀ W, Below w.heap.size w W → Calls Tryd.prog 32 #[.agg #[.int .i64 p, dv, mv], .agg #[.int .i64 p2, dv2, mv2], .slice (some ⟨b, 0, none⟩) k k] W (BR (.int .i64 cd) W)) (hz : cd = 0 → EndOk p p2 ds ms ds2 ms2 ∧ ∀ j, j < k → FamOk p ds ds2 0 (F j)) :
    Calls Tryd.prog 40 #[.agg #[.int .i64 p, dv, mv], .agg #[.int .i64 p2, dv2, mv2], .slice (some ⟨b, 0, none⟩) k k] w (BR (.int .i64 (mapCode cd (AllCh p ds ms ds2 ms2 k F))) w) := by
  obtain ⟨ad, cap, rfl⟩ := Sl.shape h.dims
  obtain ⟨am, capm, rfl⟩ := Sl.shape h.maps
  obtain ⟨ad2, cap2, rfl⟩ := Sl.shape h2.dims
  obtain ⟨am2, capm2, rfl⟩ := Sl.shape h2.maps
  obtain ⟨k1, k2⟩ := bx_two (p := p) (p2 := p2) 30 h h2
  have HX0 := Lib.hid k1
  have HY0 := Lib.hid k2
  obtain ⟨w1, hw1⟩ : ∃ w1, w1 = ((w.alloc (.cells #[.int .i64 p, .slice ad ds.length cap, .slice am ms.length capm] 30)).alloc (.cells #[.int .i64 p2, .slice ad2 ds2.length cap2, .slice am2 ms2.length capm2] 30)) := ⟨_, rfl⟩
  rw [← hw1] at HX0 HY0
  have hb01 : Below w.heap.size w w1 := HX0.out.below
  have HB01 := Lib.hid hb01
  have HCK := Lib.hid (hcd w1 hb01)
  have HFS : Hid (FamsAt w1 b k F) := Lib.hid (fun j hj => by
    obtain ⟨v, hv, hl⟩ := hFs j hj
    exact ⟨v, later hb01 (Nat.le_refl _) hv, hl.below hb01⟩)
  have HZ := Lib.hid hz
  have c0 := HX0.out.c0
  have c1 := HX0.out.c1
  have c2 := HX0.out.c2
  have d0 := HY0.out.c0
  have d1 := HY0.out.c1
  have d2 := HY0.out.c2
  clear h h2 hFs hcd hz k1 k2 hb01
  go_enter Tryd.func40, Tryd.ntmps40
  go_upto_region 1 with fail
  rw [← hw1]
  clear hw1
  go_wp2_with fail
  refine HCK.out.mono ?_
  rintro e w3 ⟨rfl, hb3⟩
  have HX3 := Lib.hid (HX0.out.next hb3)
  have HY3 := Lib.hid (HY0.out.next hb3)
  have HB3 := Lib.hid hb3
  clear hb3 c0 c1 c2 d0 d1 d2 HCK
  by_cases h0 : cd = 0
  · subst h0
    have hfz := HZ.out rfl
    have hpp := hfz.1.prime
    subst hpp
    have HE := Lib.hid hfz.1
    have HFO := Lib.hid hfz.2
    clear hfz
    have HNX : Hid (∀ W, Below w3.heap.size w3 W → Bx w W w.heap.size p (.slice ad ds.length cap) (.slice am ms.length capm) ds ms ∧ Bx w W (w.heap.size + 1) p (.slice ad2 ds2.length cap2) (.slice am2 ms2.length capm2) ds2 ms2 ∧ Below w1.heap.size w1 W) := Lib.hid (fun W hb => ⟨HX3.out.next hb, HY3.out.next hb, HB3.out.trans (hb.mono HB3.out.size)⟩)
    go_wp2
    go_loopw [8] (fun i wr => ∃ (j : Nat), j ≤ k ∧ i = .int .i64 j ∧ Hid (Below w3.heap.size w3 wr) ∧ Hid (∀ j2, j2 < j → ChainOk p ds ms ds2 ms2 (F j2))) (fun i _ => k - (intOf i).toNat)
    case atStart => exact ⟨0, Nat.zero_le _, rfl, Lib.hid (Below.refl _ _), Lib.hid (fun _ h => absurd h (Nat.not_lt_zero _))⟩
    case round =>
      obtain ⟨j, hj, rfl, HB, HC⟩ := hrel
      obtain ⟨wx, hwx⟩ : ∃ wx : World, wx = wr := ⟨_, rfl⟩
      subst hwx
      by_cases hlt : j < k
      · obtain ⟨v, hv, hl3⟩ := HFS.out j hlt
        obtain ⟨af, cf, hvs⟩ := Sl.shape hl3
        obtain ⟨fl, hfl⟩ : ∃ fl, fl = (F j).length := ⟨_, rfl⟩
        rw [← hfl] at hvs
        subst hvs
        have HNA : Hid (∀ W, Below wx.heap.size wx W → Below w3.heap.size w3 W) := Lib.hid (fun W h => HB.out.trans (h.mono HB.out.size))
        have HVC : Hid (∀ W, Below wx.heap.size wx W → W.cell? ⟨b, 0 + j, none⟩ = some (.slice af fl cf)) := Lib.hid (fun W h => by rw [Nat.zero_add]; exact later (HNX.out W (HNA.out W h)).2.2 (Nat.le_refl _) hv)
        have HLC : Hid (∀ W, Below wx.heap.size wx W → Calls Tryd.prog 33 #[.agg #[.int .i64 p, .slice ad ds.length cap, .slice am ms.length capm], .agg #[.int .i64 p, .slice ad2 ds2.length cap2, .slice am2 ms2.length capm2], .slice af fl cf] W (BB (ChainOk p ds ms ds2 ms2 (F j)) W)) := Lib.hid (fun W h => by
          have h0 := HNX.out W (HNA.out W h)
          exact l04Chain_any p _ _ _ _ _ ds ms ds2 ms2 (F j) W h0.1.cx h0.2.1.cx (hl3.below h0.2.2) HE.out.x HE.out.y HE.out.len (HFO.out j hlt))
        clear hv hl3 hfl
        go_upto_region 7 with fail
        refine wp_region_held (S := fun W => Below wx.heap.size wx W) (by kernel_rfl) ?_
        have S0 : Below wx.heap.size wx wx.drew := (Below.refl _ _).drew
        change wpAnyH _ _ _ _ _ _ _ _ wx.drew
        obtain ⟨wd, hwd⟩ : ∃ wd, wd = wx.drew := ⟨_, rfl⟩
        rw [← hwd] at S0 ⊢
        clear hwd
        refine held_take (i := 0) (v := .agg #[.int .i64 p, .slice ad ds.length cap, .slice am ms.length capm]) (some 22) rfl rfl (by kernel_rfl) (by kernel_rfl) (by kernel_rfl) (fun _ _ _ h => h) (yieldsIf_cell (by kernel_rfl) rfl (by kernel_rfl) (fun W h => hload3x (HNX.out W (HNA.out W h)).1)) S0 ?_
        refine held_take (i := 1) (v := .agg #[.int .i64 p, .slice ad2 ds2.length cap2, .slice am2 ms2.length capm2]) (some 23) rfl rfl (by kernel_rfl) (by kernel_rfl) (by kernel_rfl) (fun _ _ _ h => h) (yieldsIf_cell (by kernel_rfl) rfl (by kernel_rfl) (fun W h => hload3x (HNX.out W (HNA.out W h)).2.1)) S0 ?_
        refine held_take (i := 2) (v := .slice (some ⟨b, 0, none⟩) k k) (some 24) rfl rfl (by kernel_rfl) (by kernel_rfl) (by kernel_rfl) (fun _ _ _ h => h) (yieldsIf_move (by kernel_rfl) rfl (by kernel_rfl)) S0 ?_
        refine held_take (i := 3) (v := .int .i64 (j : Int)) (some 25) rfl rfl (by kernel_rfl) (by kernel_rfl) (by kernel_rfl) (fun _ _ _ h => h) (yieldsIf_move (by kernel_rfl) rfl (by kernel_rfl)) S0 ?_
        refine held_take (i := 4) (v := .pointer (some ⟨b, 0 + j, none⟩)) (some 26) rfl rfl (by kernel_rfl) (by kernel_rfl) (by kernel_rfl) (fun _ _ _ h => h) (yieldsIf_index (by kernel_rfl) rfl (by kernel_rfl) (by kernel_rfl) (hidxQ b 0 k hlt)) S0 ?_
        refine held_take (i := 5) (v := .slice af fl cf) (some 27) rfl rfl (by kernel_rfl) (by kernel_rfl) (by kernel_rfl) (fun _ _ _ h => h) (yieldsIf_cell (by kernel_rfl) rfl (by kernel_rfl) (fun W h => hloadSSS W (HVC.out W h))) S0 ?_
        refine held_enter (i := 6) (some 28) (f := 33) (args := #[.agg #[.int .i64 p, .slice ad ds.length cap, .slice am ms.length capm], .agg #[.int .i64 p, .slice ad2 ds2.length cap2, .slice am2 ms2.length capm2], .slice af fl cf]) (by kernel_rfl) rfl rfl rfl (by kernel_rfl) (HLC.out _ S0) ?_ (fun c w' h => by obtain ⟨_, h, _⟩ := h; cases h) (fun w' h => by obtain ⟨_, h, _⟩ := h; cases h)
        rintro ee V1 ⟨bb, he, hb1, hbb⟩
        injection he with he
        subst he
        have S1 : Below wx.heap.size wx V1 := S0.trans (hb1.mono S0.size)
        refine ⟨S1, ?_⟩
        refine held_take (i := 7) (v := .bool (!bb)) (some 29) rfl rfl (by kernel_rfl) (by kernel_rfl) (by kernel_rfl) (fun _ _ _ h => h) (yieldsIf_run (by kernel_rfl) (fun W _ => by kernel_rfl)) S1 ?_
        refine wpAnyH_done (by kernel_rfl) ?_ _
        simp only [Act.put, List.setIfInBounds_toArray, List.set_cons_zero, List.set_cons_succ]
        have HB1 := Lib.hid (HNA.out _ S1)
        have HN1 := Lib.hid (HNX.out _ HB1.out)
        clear S0 S1 hb1 HVC HLC HNA
        by_cases hch : ChainOk p ds ms ds2 ms2 (F j)
        · obtain rfl : bb = true := hbb.2 hch
          have HCH := Lib.hid hch
          clear hch hbb
          simp only [Bool.not_true]
          go_wp2
          go_roundw
          case rel => exact ⟨j + 1, by omega, by go_num, HB1, Lib.hid (fun j2 h2 => by
            by_cases e : j2 = j
            · subst e; exact HCH.out
            · exact HC.out j2 (by omega))⟩
          case measure => simp [intOf]; omega
        · obtain rfl : bb = false := by
            cases bb with
            | false => rfl
            | true => exact absurd (hbb.1 rfl) hch
          have HMC : Hid (mapCode 0 (AllCh p ds ms ds2 ms2 k F) = 5) := Lib.hid (mapCode_no rfl (fun h => hch (h j hlt)))
          clear hch hbb
          simp only [Bool.not_false]
          go_wp2
          go_ret
          exact ⟨by rw [HMC.out]; rfl, HN1.out.1.below⟩
      · have HMC : Hid (mapCode 0 (AllCh p ds ms ds2 ms2 k F) = 0) := Lib.hid (mapCode_ok rfl (fun j2 h2 => HC.out j2 (by omega)))
        have HN1 := Lib.hid (HNX.out _ HB.out)
        go_wp2
        go_ret
        exact ⟨by rw [HMC.out]; rfl, HN1.out.1.below⟩
  · have hne2 : (cd != 0) = true := by simp [h0]
    have HMN := Lib.hid (mapCode_ne (all := AllCh p ds ms ds2 ms2 k F) h0)
    clear h0
    go_wp2
    go_ret
    exact ⟨by rw [HMN.out]; rfl, HX3.out.below⟩
end Go.Proofs.YtpchbceohnabnabDoor


namespace Go.Proofs.YtpchbceohnabnabDoor
open Go.RowKit

/-- The answers of IsChainMap. -/
def ChS (p p2 : Int) (ds : List Int) (ms : List (List (List Int))) (ds2 : List Int) (ms2 fs : List (List (List Int))) (b : Bool) (c : Int) : Prop := c = famCode p p2 0 ds ms ds2 ms2 fs ∧ (b = true ↔ famCode p p2 0 ds ms ds2 ms2 fs = 0 ∧ ChainOk p ds ms ds2 ms2 fs)
theorem ChS.unique {p p2 : Int} {ds : List Int} {ms : List (List (List Int))} {ds2 : List Int} {ms2 fs : List (List (List Int))} {b b2 : Bool} {c c2 : Int} (h : ChS p p2 ds ms ds2 ms2 fs b c) (k : ChS p p2 ds ms ds2 ms2 fs b2 c2) : b = b2 ∧ c = c2 := by
  obtain ⟨h1, h2⟩ := h
  obtain ⟨k1, k2⟩ := k
  refine ⟨?_, h1.trans k1.symm⟩
  cases b <;> cases b2 <;> simp_all
end Go.Proofs.YtpchbceohnabnabDoor


namespace Go.Proofs.YtpchbceohnabnabDoor
open Go.RowKit

set_option maxHeartbeats 400000 in
theorem sz1_any {lo : Nat} (v : Value) (xs : List Int) (left : Int) (w : World) (h : L1 lo w v xs) (h0 : 0 ≤ left) (h1 : left ≤ 1048576) (hm : xs.length ≤ 9223372036854775807) :
    Calls Tryd.prog 30 #[v, .int .i64 left] w (SzR left (Bd1 1048576 xs) w) := by
  obtain ⟨ad, cap, rfl⟩ := Sl.shape h
  by_cases hlt : left - xs.length < 0
  · go_enter Tryd.func30, Tryd.ntmps30
    go_wp2
    go_ret
    exact ⟨_, rfl, rfl, Or.inl rfl⟩
  · go_enter Tryd.func30, Tryd.ntmps30
    go_wp2
    go_ret
    exact ⟨_, rfl, rfl, Or.inr ⟨by omega, by omega, by unfold Bd1; omega⟩⟩

set_option maxHeartbeats 400000 in
theorem sz2_any {lo : Nat} (v : Value) (xs : List (List Int)) (left : Int) (w : World) (h : L2 lo w v xs) (h0 : 0 ≤ left) (h1 : left ≤ 1048576) (hm : Bd2 9223372036854775807 xs) :
    Calls Tryd.prog 31 #[v, .int .i64 left] w (SzR left (Bd2 1048576 xs) w) := by
  have hm0 : xs.length ≤ 9223372036854775807 := hm.1
  refine Sl.cases h (fun ad cap hx hv => ?_) (fun b o cap hv _ hpos hc => ?_)
  · subst hx hv
    go_enter Tryd.func31, Tryd.ntmps31
    go_wp2
    refine wp_loop_rounds 1 ?_
    rw [rounds_succ]
    go_wp2
    go_ret
    exact ⟨_, rfl, rfl, Or.inr ⟨by omega, by omega, by simp [Bd2]⟩⟩
  · subst hv
    clear h
    by_cases hlt : left - xs.length < 0
    · go_enter Tryd.func31, Tryd.ntmps31
      go_wp2
      go_ret
      exact ⟨_, rfl, rfl, Or.inl rfl⟩
    · have HM := Lib.hid hm
      have HC := Lib.hid hc
      clear hm hc
      go_enter Tryd.func31, Tryd.ntmps31
      go_wp2
      go_loop [1, 5] (fun l i => ∃ (k : Nat) (r : Int), k ≤ xs.length ∧ i = .int .i64 k ∧ l = .int .i64 r ∧ 0 ≤ r ∧ r ≤ left ∧ Hid (∀ j (hj : j < xs.length), j < k → Bd1 1048576 xs[j])) (fun _ i => xs.length - (intOf i).toNat)
      case atStart => exact ⟨0, _, Nat.zero_le _, rfl, rfl, by omega, by omega, Lib.hid (fun _ _ h => absurd h (Nat.not_lt_zero _))⟩
      case round =>
        obtain ⟨k, r, hk, rfl, rfl, hr0, hr1, HD⟩ := hrel
        by_cases hlt2 : k < xs.length
        · obtain ⟨u, hu, hr⟩ := HC.out k hlt2
          have hmu : (xs[k]).length ≤ 9223372036854775807 := HM.out.2 _ (List.getElem_mem hlt2)
          go_wp2_with fail
          refine (sz1_any u xs[k] r _ hr hr0 (by omega) hmu).mono ?_
          rintro e w' ⟨r2, rfl, rfl, hpost⟩
          rcases hpost with rfl | ⟨hp0, hp1, hp2⟩
          · go_wp2
            go_ret
            exact ⟨_, rfl, rfl, Or.inl rfl⟩
          · go_wp2
            go_round
            case rel => exact ⟨k + 1, r2, by omega, by go_num, rfl, hp0, by omega, Lib.hid (fun j hj hjk => by
              by_cases e : j = k
              · subst e; exact hp2
              · exact HD.out j hj (by omega))⟩
            case measure => simp [intOf]; omega
        · go_wp2
          go_ret
          exact ⟨_, rfl, rfl, Or.inr ⟨hr0, hr1, by omega, fun x hx => by
            obtain ⟨j, hj, rfl⟩ := List.getElem_of_mem hx
            exact HD.out j hj (by omega)⟩⟩
set_option maxHeartbeats 400000 in
theorem sz3_any {lo : Nat} (v : Value) (xs : List (List (List Int))) (left : Int) (w : World) (h : L3 lo w v xs) (h0 : 0 ≤ left) (h1 : left ≤ 1048576) (hm : Bd3 9223372036854775807 xs) :
    Calls Tryd.prog 10 #[v, .int .i64 left] w (SzR left (Bd3 1048576 xs) w) := by
  have hm0 : xs.length ≤ 9223372036854775807 := hm.1
  refine Sl.cases h (fun ad cap hx hv => ?_) (fun b o cap hv _ hpos hc => ?_)
  · subst hx hv
    go_enter Tryd.func10, Tryd.ntmps10
    go_wp2
    refine wp_loop_rounds 1 ?_
    rw [rounds_succ]
    go_wp2
    go_ret
    exact ⟨_, rfl, rfl, Or.inr ⟨by omega, by omega, by simp [Bd3]⟩⟩
  · subst hv
    clear h
    by_cases hlt : left - xs.length < 0
    · go_enter Tryd.func10, Tryd.ntmps10
      go_wp2
      go_ret
      exact ⟨_, rfl, rfl, Or.inl rfl⟩
    · have HM := Lib.hid hm
      have HC := Lib.hid hc
      clear hm hc
      go_enter Tryd.func10, Tryd.ntmps10
      go_wp2
      go_loop [1, 5] (fun l i => ∃ (k : Nat) (r : Int), k ≤ xs.length ∧ i = .int .i64 k ∧ l = .int .i64 r ∧ 0 ≤ r ∧ r ≤ left ∧ Hid (∀ j (hj : j < xs.length), j < k → Bd2 1048576 xs[j])) (fun _ i => xs.length - (intOf i).toNat)
      case atStart => exact ⟨0, _, Nat.zero_le _, rfl, rfl, by omega, by omega, Lib.hid (fun _ _ h => absurd h (Nat.not_lt_zero _))⟩
      case round =>
        obtain ⟨k, r, hk, rfl, rfl, hr0, hr1, HD⟩ := hrel
        by_cases hlt2 : k < xs.length
        · obtain ⟨u, hu, hr⟩ := HC.out k hlt2
          have hmu : Bd2 9223372036854775807 xs[k] := HM.out.2 _ (List.getElem_mem hlt2)
          go_wp2_with fail
          refine (sz2_any u xs[k] r _ hr hr0 (by omega) hmu).mono ?_
          rintro e w' ⟨r2, rfl, rfl, hpost⟩
          rcases hpost with rfl | ⟨hp0, hp1, hp2⟩
          · go_wp2
            go_ret
            exact ⟨_, rfl, rfl, Or.inl rfl⟩
          · go_wp2
            go_round
            case rel => exact ⟨k + 1, r2, by omega, by go_num, rfl, hp0, by omega, Lib.hid (fun j hj hjk => by
              by_cases e : j = k
              · subst e; exact hp2
              · exact HD.out j hj (by omega))⟩
            case measure => simp [intOf]; omega
        · go_wp2
          go_ret
          exact ⟨_, rfl, rfl, Or.inr ⟨hr0, hr1, by omega, fun x hx => by
            obtain ⟨j, hj, rfl⟩ := List.getElem_of_mem hx
            exact HD.out j hj (by omega)⟩⟩

set_option maxHeartbeats 400000 in
theorem szComplex_any (p : Int) (dv mv : Value) (ds : List Int) (ms : List (List (List Int))) (left : Int) (w : World) (hd : L1 0 w dv ds) (hm : L3 0 w mv ms) (h0 : 0 ≤ left) (h1 : left ≤ 1048576)
    (hdl : ds.length ≤ 9223372036854775807) (hml : Bd3 9223372036854775807 ms) :
    Calls Tryd.prog 9 #[.agg #[.int .i64 p, dv, mv], .int .i64 left] w (SzB left (Bd1 1048576 ds ∧ Bd3 1048576 ms) w) := by
  have HML := Lib.hid hml
  have HD := Lib.hid hd
  have HM := Lib.hid hm
  clear hml hd hm
  go_enter Tryd.func9, Tryd.ntmps9
  go_wp2_with fail
  have hb1 : Below w.heap.size w (w.alloc (.cells #[.int .i64 p, dv, mv] 25)) := (Below.refl _ _).alloc (Nat.le_refl _) _
  refine (sz1_any (lo := 0) dv ds left _ (HD.out.below hb1) h0 h1 hdl).mono ?_
  rintro e w' ⟨r, rfl, rfl, hpost⟩
  rcases hpost with rfl | ⟨hp0, hp1, hp2⟩
  · go_wp2
    go_ret
    exact ⟨_, rfl, hb1, Or.inl rfl⟩
  · go_wp2_with fail
    refine (sz3_any (lo := 0) mv ms r _ (HM.out.below hb1) hp0 (by omega) HML.out).mono ?_
    rintro e w' ⟨r2, rfl, rfl, hpost⟩
    rcases hpost with rfl | ⟨hq0, hq1, hq2⟩
    · go_wp2
      go_ret
      exact ⟨_, rfl, hb1, Or.inl rfl⟩
    · go_wp2
      go_ret
      exact ⟨_, rfl, hb1, Or.inr ⟨hq0, by omega, hp2, hq2⟩⟩
end Go.Proofs.YtpchbceohnabnabDoor

namespace Go.Proofs.YtpchbceohnabnabDoor
open Go.RowKit

structure Fi (lo : Nat) (w : World) (dv mv lv : Value) (ds : List Int) (ms : List (List (List Int))) (ls : List (List Int)) : Prop where
  cx : Cx lo w dv mv ds ms
  lv : L2 lo w lv ls
theorem Fi.below {lo : Nat} {w w' : World} {dv mv lv : Value} {ds : List Int} {ms : List (List (List Int))} {ls : List (List Int)} (h : Fi lo w dv mv lv ds ms ls) (hb : Below w.heap.size w w') : Fi lo w' dv mv lv ds ms ls := ⟨h.cx.below hb, h.lv.below hb⟩
theorem Fi.zero {lo : Nat} {w : World} {dv mv lv : Value} {ds : List Int} {ms : List (List (List Int))} {ls : List (List Int)} (h : Fi lo w dv mv lv ds ms ls) : Fi 0 w dv mv lv ds ms ls := ⟨h.cx.zero, h.lv.lower (Nat.zero_le _)⟩
theorem Fi.drew {lo : Nat} {w : World} {dv mv lv : Value} {ds : List Int} {ms : List (List (List Int))} {ls : List (List Int)} (h : Fi lo w dv mv lv ds ms ls) : Fi lo w.drew dv mv lv ds ms ls := h.below (Below.refl _ _).drew
theorem Fi.shapes {lo : Nat} {w : World} {dv mv lv : Value} {ds : List Int} {ms : List (List (List Int))} {ls : List (List Int)} (h : Fi lo w dv mv lv ds ms ls) : (∃ a c, dv = .slice a ds.length c) ∧ (∃ a c, mv = .slice a ms.length c) ∧ ∃ a c, lv = .slice a ls.length c := ⟨h.cx.shapes.1, h.cx.shapes.2, Sl.shape h.lv⟩

/-- What stands in the box of a filtered complex, in whatever later world. -/
structure Fx (w wr : World) (b : Nat) (p : Int) (dv mv lv : Value) (ds : List Int) (ms : List (List (List Int))) (ls : List (List Int)) : Prop where
  below : Below w.heap.size w wr
  c0 : wr.cell? ⟨b, 0, none⟩ = some (.int .i64 p)
  c1 : wr.cell? ⟨b, 1, none⟩ = some dv
  c2 : wr.cell? ⟨b, 2, none⟩ = some mv
  c3 : wr.cell? ⟨b, 3, none⟩ = some lv
  lt : b < wr.heap.size
  fi : Fi 0 wr dv mv lv ds ms ls
theorem Fx.next {w wr w' : World} {b : Nat} {p : Int} {dv mv lv : Value} {ds : List Int} {ms : List (List (List Int))} {ls : List (List Int)} (h : Fx w wr b p dv mv lv ds ms ls) (hb : Below wr.heap.size wr w') : Fx w w' b p dv mv lv ds ms ls :=
  ⟨h.below.trans (hb.mono h.below.size), later hb (Nat.le_refl _) h.c0, later hb (Nat.le_refl _) h.c1, later hb (Nat.le_refl _) h.c2, later hb (Nat.le_refl _) h.c3, Nat.lt_of_lt_of_le h.lt hb.size, h.fi.below hb⟩
theorem Fx.start {w : World} {p : Int} {dv mv lv : Value} {ds : List Int} {ms : List (List (List Int))} {ls : List (List Int)} (t : TypeId) (h : Fi 0 w dv mv lv ds ms ls) : Fx w (w.alloc (.cells #[.int .i64 p, dv, mv, lv] t)) w.heap.size p dv mv lv ds ms ls :=
  ⟨(Below.refl _ _).alloc (Nat.le_refl _) _, by simp, by simp, by simp, by simp, by simp, h.below ((Below.refl _ _).alloc (Nat.le_refl _) _)⟩

end Go.Proofs.YtpchbceohnabnabDoor

namespace Go.Proofs.YtpchbceohnabnabDoor
open Go.RowKit

end Go.Proofs.YtpchbceohnabnabDoor

namespace Go.Proofs.YtpchbceohnabnabDoor
open Go.RowKit

theorem Fx.all {w wr : World} {b : Nat} {p : Int} {dv mv lv : Value} {ds : List Int} {ms : List (List (List Int))} {ls : List (List Int)} (h : Hid (Fx w wr b p dv mv lv ds ms ls)) :
    wr.cell? ⟨b, 0, none⟩ = some (.int .i64 p) ∧ wr.cell? ⟨b, 1, none⟩ = some dv ∧ wr.cell? ⟨b, 2, none⟩ = some mv ∧ wr.cell? ⟨b, 3, none⟩ = some lv ∧ Hid (Fx w wr b p dv mv lv ds ms ls) := ⟨h.out.c0, h.out.c1, h.out.c2, h.out.c3, h⟩

end Go.Proofs.YtpchbceohnabnabDoor

namespace Go.Proofs.YtpchbceohnabnabDoor
open Go.RowKit

end Go.Proofs.YtpchbceohnabnabDoor


namespace Go.Proofs.YtpchbceohnabnabDoor
open Go.RowKit

/-- Approximate cycles: no numbers at levels above q, and a differential without numbers at levels above q0. -/
structure ZcS (p : Int) (d m : Nat) (t : List (List Int)) (l l0 : List Int) (q q0 : Int) (v : Lin.V) : Prop where
  md : Lin.Md p v
  wd : Lin.Wd d v
  up : ∀ i, i < d → q < l.getD i 0 → v i = 0
  dn : ∀ j, j < m → q0 < l0.getD j 0 → Lin.dot d (Lin.col (fun i => ofL (t.getD i [])) j) v % p = 0

theorem ZcS.zv {p : Int} (hp : 0 < p) (d m : Nat) (t : List (List Int)) (l l0 : List Int) (q q0 : Int) : ZcS p d m t l l0 q q0 Lin.zv :=
  ⟨Lin.zv_md hp, Lin.zv_wd d, fun _ _ _ => rfl, fun j _ _ => by rw [Lin.dot_nil (fun i _ => by simp [Lin.zv])]; rfl⟩
theorem ZcS.add {p : Int} (hp : 0 < p) {d m : Nat} {t : List (List Int)} {l l0 : List Int} {q q0 : Int} {v w : Lin.V} (hv : ZcS p d m t l l0 q q0 v) (c : Int) (hw : ZcS p d m t l l0 q q0 w) : ZcS p d m t l l0 q q0 (Lin.add p v c w) := by
  refine ⟨Lin.add_md hp _ _ _, Lin.add_wd c hv.wd hw.wd, fun i hi h => ?_, fun j hj h => ?_⟩
  · simp [Lin.add, hv.up i hi h, hw.up i hi h]
  · rw [Lin.dot_add]
    have h1 := hv.dn j hj h
    have h2 := hw.dn j hj h
    generalize Lin.dot d (Lin.col (fun i => ofL (t.getD i [])) j) v = a at *
    generalize Lin.dot d (Lin.col (fun i => ofL (t.getD i [])) j) w = b at *
    obtain ⟨x, hx⟩ : ∃ x, a = p * x := Int.dvd_of_emod_eq_zero h1
    obtain ⟨y, hy⟩ : ∃ y, b = p * y := Int.dvd_of_emod_eq_zero h2
    rw [hx, hy, Lin.cg (b := 0) (x + c * y) (by grind)]
    rfl
theorem ZcS.sp {p : Int} (hp : 0 < p) {d m : Nat} {t : List (List Int)} {l l0 : List Int} {q q0 : Int} {O : List Lin.V} (h : ∀ u ∈ O, ZcS p d m t l l0 q q0 u) {v : Lin.V} (hv : Lin.Sp p O v) : ZcS p d m t l l0 q q0 v := by
  induction hv with
  | zero => exact ZcS.zv hp _ _ _ _ _ _ _
  | step c _ hw ih => exact ih.add hp c (h _ hw)

/-! ### The conditions of the program. -/
/-! ### What a test keeps of the places. -/
/-- Approximate cycles of a degree, by the levels. -/
def ZcD (p : Int) (ds : List Int) (ms : List (List (List Int))) (ls : List (List Int)) (n : Nat) (q q0 : Int) : Lin.V → Prop := ZcS p (dimN ds (n : Int)) (cycM ds n) (cycT ds ms n) (ls.getD n []) (ls.getD (n - 1) []) q q0
end Go.Proofs.YtpchbceohnabnabDoor

namespace Go.Proofs.YtpchbceohnabnabDoor
open Go.RowKit

end Go.Proofs.YtpchbceohnabnabDoor

namespace Go.Proofs.YtpchbceohnabnabDoor
open Go.RowKit

end Go.Proofs.YtpchbceohnabnabDoor

namespace Go.Proofs.YtpchbceohnabnabDoor
open Go.RowKit

end Go.Proofs.YtpchbceohnabnabDoor

namespace Go.Proofs.YtpchbceohnabnabDoor
open Go.RowKit

end Go.Proofs.YtpchbceohnabnabDoor

namespace Go.Proofs.YtpchbceohnabnabDoor
open Go.RowKit

end Go.Proofs.YtpchbceohnabnabDoor

namespace Go.Proofs.YtpchbceohnabnabDoor
open Go.RowKit

end Go.Proofs.YtpchbceohnabnabDoor

namespace Go.Proofs.YtpchbceohnabnabDoor
open Go.RowKit

end Go.Proofs.YtpchbceohnabnabDoor


namespace Go.Proofs.YtpchbceohnabnabDoor
open Go.RowKit

section
variable {md : Region.Mode} {ops : Array Oper} {Q : Exit → Act → World → Prop} {S : World → Prop}
end
/-- Cycles of levels of at most q together with all boundaries. -/
def LimD (p : Int) (ds : List Int) (ms : List (List (List Int))) (ls : List (List Int)) (k : Nat) (q : Int) (v : Lin.V) : Prop :=
  ∃ Z B, SpF p (dimN ds (k : Int)) (ZcD p ds ms ls k q (-1)) Z ∧ SpF p (dimN ds (k : Int)) (Lin.Sp p ((tabN ms k).map ofL)) B ∧ Lin.Sp p (Z ++ B) v
def LDim (p : Int) (ds : List Int) (ms : List (List (List Int))) (ls : List (List Int)) (k : Nat) (q x : Int) : Prop := ∃ E, SpF p (dimN ds (k : Int)) (LimD p ds ms ls k q) E ∧ x = (E.length : Int)
theorem SpF.unique' {p : Int} {n : Nat} {S : Lin.V → Prop} {R R' : List Lin.V} (hp : 1 < p) (h : SpF p n S R) (k : SpF p n S R') : R = R' := Lin.Red.unique hp h.1 k.1 (fun v => (h.2.2 v).trans (k.2.2 v).symm)
theorem LDim.unique {p : Int} {ds : List Int} {ms : List (List (List Int))} {ls : List (List Int)} {k : Nat} {q x y : Int} (hp : 1 < p) (h : LDim p ds ms ls k q x) (h' : LDim p ds ms ls k q y) : x = y := by
  obtain ⟨A, a, rfl⟩ := h
  obtain ⟨B, b, rfl⟩ := h'
  rw [a.unique' hp b]
theorem LDim.bd {p : Int} {ds : List Int} {ms : List (List (List Int))} {ls : List (List Int)} {k : Nat} {q x : Int} (hcx : IsCx p ds ms) (h : LDim p ds ms ls k q x) : 0 ≤ x ∧ x ≤ 8 := by
  obtain ⟨A, a, rfl⟩ := h
  have := a.short
  have := (dimN_le8 hcx k).1
  omega
/-- The limit number. -/
def LimNum (p : Int) (ds : List Int) (ms : List (List (List Int))) (ls : List (List Int)) (k : Nat) (q x : Int) : Prop := ∃ a b, LDim p ds ms ls k q a ∧ LDim p ds ms ls k (q - 1) b ∧ x = a - b
theorem LimNum.unique {p : Int} {ds : List Int} {ms : List (List (List Int))} {ls : List (List Int)} {k : Nat} {q x y : Int} (hp : 1 < p) (h : LimNum p ds ms ls k q x) (h' : LimNum p ds ms ls k q y) : x = y := by
  obtain ⟨a, b, ha, hb, rfl⟩ := h
  obtain ⟨c, d, hc, hd, rfl⟩ := h'
  rw [ha.unique hp hc, hb.unique hp hd]
/-- A number and a code. -/
structure NOut (P : Int → Prop) (c0 x c : Int) : Prop where
  code : c = c0
  bad : c0 ≠ 0 → x = 0
  good : c0 = 0 → P x
theorem NOut.unique {P : Int → Prop} {c0 x c y d : Int} (hu : c0 = 0 → ∀ a b, P a → P b → a = b) (h : NOut P c0 x c) (k : NOut P c0 y d) : x = y ∧ c = d := by
  refine ⟨?_, h.code.trans k.code.symm⟩
  by_cases h0 : c0 = 0
  · exact hu h0 _ _ (h.good h0) (k.good h0)
  · rw [h.bad h0, k.bad h0]
end Go.Proofs.YtpchbceohnabnabDoor


namespace Go.Proofs.YtpchbceohnabnabDoor
open Go.RowKit

/-- The differential of a vector, by the table. -/
def dimg (p : Int) (d : Nat) (t : List (List Int)) (u : Lin.V) : Lin.V := img p d (rowsV (t.map ofL)) u
section
variable {P : Program} {ops : Array Oper} {S : World → Prop}
end

end Go.Proofs.YtpchbceohnabnabDoor


namespace Go.Proofs.YtpchbceohnabnabDoor
open Go.RowKit

/-- The homology number of a degree. -/
def HNum (p : Int) (ds : List Int) (ms : List (List (List Int))) (q : Nat) (x : Int) : Prop :=
  ∃ R1 R2, SpF p (dimN ds (q : Int)) (CycS p (dimN ds (q : Int)) (cycM ds q) (cycT ds ms q)) R1 ∧ SpF p (dimN ds (q : Int)) (Lin.Sp p ((tabN ms q).map ofL)) R2 ∧ x = (R1.length : Int) - (R2.length : Int)
theorem SpF.unique {p : Int} {n : Nat} {S : Lin.V → Prop} {R R' : List Lin.V} (hp : 1 < p) (h : SpF p n S R) (k : SpF p n S R') : R = R' := Lin.Red.unique hp h.1 k.1 (fun v => (h.2.2 v).trans (k.2.2 v).symm)
theorem HNum.unique {p : Int} {ds : List Int} {ms : List (List (List Int))} {q : Nat} {x y : Int} (hp : 1 < p) (h : HNum p ds ms q x) (k : HNum p ds ms q y) : x = y := by
  obtain ⟨A, B, a, b, rfl⟩ := h
  obtain ⟨C, D, c, d, rfl⟩ := k
  rw [a.unique hp c, b.unique hp d]
theorem HNum.bd {p : Int} {ds : List Int} {ms : List (List (List Int))} {q : Nat} {x : Int} (hcx : IsCx p ds ms) (h : HNum p ds ms q x) : -8 ≤ x ∧ x ≤ 8 := by
  obtain ⟨A, B, a, b, rfl⟩ := h
  have := a.short
  have := b.short
  have := (dimN_le8 hcx q).1
  omega
/-- What IsExactAt answers. -/
structure ExOut (p : Int) (ds : List Int) (ms : List (List (List Int))) (n : Int) (b : Bool) (c : Int) : Prop where
  code : c = cxCode p ds ms n
  bad : c ≠ 0 → b = false
  good : c = 0 → ∃ x, HNum p ds ms n.toNat x ∧ (b = true ↔ x = 0)
theorem ExOut.unique {p : Int} {ds : List Int} {ms : List (List (List Int))} {n : Int} {b1 b2 : Bool} {c1 c2 : Int} (h : ExOut p ds ms n b1 c1) (k : ExOut p ds ms n b2 c2) : b1 = b2 ∧ c1 = c2 := by
  have e : c1 = c2 := h.code.trans k.code.symm
  refine ⟨?_, e⟩
  by_cases h0 : c1 = 0
  · obtain ⟨x, hx, hb⟩ := h.good h0
    obtain ⟨y, hy, hd⟩ := k.good (by rw [← e]; exact h0)
    have hp := (cxCode_zero (h.code.symm.trans h0)).1.1.prime.lo1
    have := hx.unique hp hy
    subst this
    exact Bool.eq_iff_iff.2 (hb.trans hd.symm)
  · rw [h.bad h0, k.bad (by rw [← e]; exact h0)]
end Go.Proofs.YtpchbceohnabnabDoor


namespace Go.Proofs.YtpchbceohnabnabDoor
open Go.RowKit

section
variable {p : Int} {ds ds2 : List Int} {ms ms2 fs : List (List (List Int))}
/-- The images of vectors of the degree n. -/
def fImg (p : Int) (ds : List Int) (fs : List (List (List Int))) (n : Nat) (A : List Lin.V) : List Lin.V := A.map (dimg p (dimN ds (n : Int)) (fs.getD n []))
/-- The rank that a family induces. -/
def RkInd (p : Int) (ds : List Int) (ms : List (List (List Int))) (ds2 : List Int) (ms2 fs : List (List (List Int))) (n : Nat) (x : Int) : Prop :=
  ∃ A B E, SpF p (dimN ds (n : Int)) (CycS p (dimN ds (n : Int)) (cycM ds n) (cycT ds ms n)) A ∧ SpF p (dimN ds2 (n : Int)) (Lin.Sp p ((tabN ms2 n).map ofL)) B ∧ SpF p (dimN ds2 (n : Int)) (Lin.Sp p (fImg p ds fs n A ++ B)) E ∧ x = (E.length : Int) - (B.length : Int)
theorem RkInd.unique {n : Nat} {x y : Int} (hp : 1 < p) (h : RkInd p ds ms ds2 ms2 fs n x) (k : RkInd p ds ms ds2 ms2 fs n y) : x = y := by
  obtain ⟨A, B, E, a, b, e, rfl⟩ := h
  obtain ⟨A', B', E', a', b', e', rfl⟩ := k
  obtain rfl := a.unique hp a'
  obtain rfl := b.unique hp b'
  rw [e.unique hp e']
end
end Go.Proofs.YtpchbceohnabnabDoor


namespace Go.Proofs.YtpchbceohnabnabDoor
open Go.RowKit
theorem Same.setRow {lo hi g : Nat} {w : World} (x : Array Value) (h : g < lo ∨ hi ≤ g) : Same lo hi w (w.setRow g x) := fun b hl hb => setRow_other w g b x (by omega)
end Go.Proofs.YtpchbceohnabnabDoor


namespace Go.Proofs.YtpchbceohnabnabDoor
open Go.RowKit

/-- Approximate cycles of the degree above, none beyond the degrees. -/
def UpP (p : Int) (ds : List Int) (ms : List (List (List Int))) (ls : List (List Int)) (k : Nat) (q q0 : Int) (R : List Lin.V) : Prop := (k < ds.length → SpF p (dimN ds (k : Int)) (ZcD p ds ms ls k q q0) R) ∧ (¬ k < ds.length → R = [])
theorem UpP.unique {p : Int} {ds : List Int} {ms : List (List (List Int))} {ls : List (List Int)} {k : Nat} {q q0 : Int} {R R' : List Lin.V} (hp : 1 < p) (h : UpP p ds ms ls k q q0 R) (h' : UpP p ds ms ls k q q0 R') : R = R' := by
  by_cases hk : k < ds.length
  · exact (h.1 hk).unique' hp (h'.1 hk)
  · rw [h.2 hk, h'.2 hk]
theorem UpP.short {p : Int} {ds : List Int} {ms : List (List (List Int))} {ls : List (List Int)} (hcx : IsCx p ds ms) {k : Nat} {q q0 : Int} {R : List Lin.V} (h : UpP p ds ms ls k q q0 R) : R.length ≤ 8 := by
  by_cases hk : k < ds.length
  · have := (h.1 hk).short
    have := (dimN_le8 hcx k).1
    omega
  · rw [h.2 hk]; simp
end Go.Proofs.YtpchbceohnabnabDoor


namespace Go.Proofs.YtpchbceohnabnabDoor
open Go.RowKit

section
variable {md : Region.Mode} {ops : Array Oper} {Q : Exit → Act → World → Prop} {S : World → Prop}
end

/-- Gathered rows of a table behind one another. -/
structure CatA (base : Nat) (w : World) (v : Value) (tb : List (List Int)) (xs : List Value) : Prop where
  own : w.ownsRow base 22 1 v tb.length xs
  len : xs.length = tb.length
  rows : ∀ k (h1 : k < xs.length) (h2 : k < tb.length), G1 w xs[k] tb[k]
theorem CatA.below {base : Nat} {w w' : World} {v : Value} {tb : List (List Int)} {xs : List Value} (h : CatA base w v tb xs) (hb : Below w.heap.size w w') : CatA base w' v tb xs := ⟨owns_below h.own hb, h.len, fun k h1 h2 => (h.rows k h1 h2).below hb⟩
theorem CatA.gs {base : Nat} {w : World} {v : Value} {tb : List (List Int)} {xs : List Value} (h : CatA base w v tb xs) : Gs base w v tb := ⟨xs, h.own, h.rows⟩
theorem CatA.start (w : World) (base : Nat) (hb : base ≤ w.heap.size) : CatA base (w.alloc (.cells #[] 22)) (.slice (some ⟨w.heap.size, 0, none⟩) 0 0) [] [] :=
  ⟨by simpa using World.ownsRow_made (base := base) (e := 22) (size := 1) w #[] 0 hb (by unfold maxLen; omega) (by simp), rfl, fun k h1 _ => absurd h1 (Nat.not_lt_zero _)⟩
/-- behind the append of a gathered table. -/
theorem CatA.add {base : Nat} {w w' : World} {v v' : Value} {ta tb : List (List Int)} {xs ys : List Value} (h : CatA base w v ta xs) (hb : ∀ k (h1 : k < ys.length) (h2 : k < tb.length), G1 w ys[k] tb[k]) (hl : ys.length = tb.length)
    (ho : w'.ownsRow base 22 1 v' (ta.length + tb.length) (xs ++ ys)) (hg : w.grownBy w' v.ownBlock) : CatA base w' v' (ta ++ tb) (xs ++ ys) := by
  have h1 := h.len
  refine ⟨by rw [List.length_append]; exact ho, by simp; omega, fun k hk hk2 => ?_⟩
  by_cases e : k < xs.length
  · rw [List.getElem_append_left e, List.getElem_append_left (by omega)]
    exact owns_grown (h.rows k e (by omega)) h.own (by decide) hg
  · rw [List.getElem_append_right (by omega), List.getElem_append_right (by omega)]
    have h3 : k - xs.length < ys.length := by rw [List.length_append] at hk; omega
    have : G1 w' ys[k - xs.length] (tb[k - xs.length]'(by omega)) := owns_grown (hb (k - xs.length) h3 (by omega)) h.own (by decide) hg
    simpa [h1] using this
end Go.Proofs.YtpchbceohnabnabDoor

