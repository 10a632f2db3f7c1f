/-
  impl.path's addTo by contract: a list of maps leads an element, and what arises is added to a row that is there.
-/
import Derived.Test.YtpdkfidmmjlmnabIdm
import Derived.Test.YtpdkfidmmjlmnabApg
import Derived.Test.YtpdkfidmmjlmnabLes
import Derived.Test.YtpdkfidmmjlmnabHld
import Derived.BigRegion
import Derived.Deep.Cut
import Derived.Deep.CutRange
namespace Go.Proofs.Ytpdkfidmmjlmnab
open Go.RowKit

/-- Nothing that was there has changed, but the block b. -/
structure But (b : Nat) (w w' : World) : Prop where
  os : w'.os = w.os
  tape : w'.tape = w.tape
  output : w'.output = w.output
  size : w.heap.size ≤ w'.heap.size
  block : ∀ k, k < w.heap.size → k ≠ b → w'.heap[k]? = w.heap[k]?
theorem But.refl (b : Nat) (w : World) : But b w w := ⟨rfl, rfl, rfl, Nat.le_refl _, fun _ _ _ => rfl⟩
theorem But.trans {b : Nat} {x y z : World} (h : But b x y) (k : But b y z) : But b x z :=
  ⟨k.os.trans h.os, k.tape.trans h.tape, k.output.trans h.output, Nat.le_trans h.size k.size, fun i hi hb => (k.block i (Nat.lt_of_lt_of_le hi h.size) hb).trans (h.block i hi hb)⟩
theorem But.of_below {b : Nat} {w w' : World} (h : Below w.heap.size w w') : But b w w' := ⟨h.os, h.tape, h.output, h.size, fun k hk _ => h.block k hk⟩
theorem But.set {b : Nat} (w : World) (i : Nat) (v : Value) : But b w (w.setCell ⟨b, i, none⟩ v) :=
  ⟨rfl, rfl, rfl, by simp, fun k _ hb => Below.heap_setCell w ⟨b, i, none⟩ v k hb⟩
theorem But.drew {b : Nat} {w w' : World} (h : But b w w') : But b w w'.drew := ⟨h.os, (Below.refl 0 w').drew.tape.trans h.tape, h.output, h.size, h.block⟩
theorem But.below {b B : Nat} {w w' : World} (h : But b w w') (hB : B ≤ w.heap.size) (hb : B ≤ b) : Below B w w' := ⟨h.os, h.tape, h.output, h.size, fun k hk => h.block k (by omega) (by omega)⟩

theorem But.cell {b : Nat} {w w' : World} (h : But b w w') {k o : Nat} (hk : k < w.heap.size) (hb : k ≠ b) : w'.cell? ⟨k, o, none⟩ = w.cell? ⟨k, o, none⟩ := World.cell?_of_block (w := w) (h.block k hk hb)

/-- The map with the graded g leads the element (x, us) to (y, vs), in all worlds that hold what w holds. -/
def Led (w : World) (g : Value) (x : Int) (us : List Int) (y : Int) (vs : List Int) : Prop :=
  ∀ W vv, Below w.heap.size w W → L1 0 W vv us → Calls Try.prog 122 #[g, .agg #[.int .i64 x, vv]] W (LeadR y vs W)
inductive Chain (w : World) : List Value → Int → List Int → Int → List Int → Prop
  | nil (x : Int) (us : List Int) : Chain w [] x us x us
  | cons {g : Value} {gs : List Value} {x y z : Int} {us vs ts : List Int} : Led w g x us y vs → Chain w gs y vs z ts → Chain w (g :: gs) x us z ts

/-- A path's list of maps, read in w. -/
def MapsAt (w : World) (v : Value) (gs : List Value) : Prop := ∃ b o c, v = .slice (some ⟨b, o, none⟩) gs.length c ∧ ∀ k (h : k < gs.length), w.cell? ⟨b, o + k, none⟩ = some (.func (.func 122) #[gs[k]] #[])

/-- A number of a row with a factor's share of another one. -/
def addMod (p f a x : Int) : Int := (a + f * x) % p

theorem chain_cons {w : World} {gs : List Value} {x z : Int} {us ts : List Int} {k : Nat} (h : Chain w (gs.drop k) x us z ts) (hk : k < gs.length) : ∃ y vs, Led w gs[k] x us y vs ∧ Chain w (gs.drop (k + 1)) y vs z ts := by
  rw [List.drop_eq_getElem_cons hk] at h
  cases h with
  | cons h1 h2 => exact ⟨_, _, h1, h2⟩
theorem chain_end {w : World} {gs : List Value} {x z : Int} {us ts : List Int} {k : Nat} (h : Chain w (gs.drop k) x us z ts) (hk : ¬ k < gs.length) : us = ts := by
  rw [List.drop_eq_nil_of_le (Nat.le_of_not_lt hk)] at h
  cases h with
  | nil => rfl
/-- The path's box at block S, the element's box behind it. -/
structure ElB (W : World) (S : Nat) (f : Int) (mv : Value) (x : Int) (uv : Value) (us : List Int) : Prop where
  a0 : W.cell? ⟨S, 0, none⟩ = some (.int .i64 f)
  a1 : W.cell? ⟨S, 1, none⟩ = some mv
  c0 : W.cell? ⟨S + 1, 0, none⟩ = some (.int .i64 x)
  c1 : W.cell? ⟨S + 1, 1, none⟩ = some uv
  th : W.there (S + 1) 0 2
  l : L1 0 W uv us
theorem ElB.lt {W : World} {S : Nat} {f : Int} {mv : Value} {x : Int} {uv : Value} {us : List Int} (h : ElB W S f mv x uv us) : S + 1 < W.heap.size := cell_lt h.c0
theorem ElB.step {W W' : World} {S : Nat} {f : Int} {mv : Value} {x : Int} {uv : Value} {us : List Int} (h : ElB W S f mv x uv us) (hb : Below W.heap.size W W') {x2 : Int} {u2 : Value} {vs : List Int} (hu : W1 W.heap.size W'.heap.size W' u2 vs) :
    ElB ((W'.setCell ⟨S + 1, 0, none⟩ (.int .i64 x2)).setCell ⟨S + 1, 1, none⟩ u2) S f mv x2 u2 vs := by
  have hl := h.lt
  have d0 := later hb (Nat.le_refl _) h.c0
  have d1 := later hb (Nat.le_refl _) h.c1
  refine ⟨?_, ?_, ?_, ?_, there_set (there_set (there_below h.th hb hl) _ _) _ _, ?_⟩
  · rw [World.cell?_setCell_other _ _ _ _ (by simp), World.cell?_setCell_other _ _ _ _ (by simp)]
    exact later hb (Nat.le_refl _) h.a0
  · rw [World.cell?_setCell_other _ _ _ _ (by simp), World.cell?_setCell_other _ _ _ _ (by simp)]
    exact later hb (Nat.le_refl _) h.a1
  · rw [World.cell?_setCell_other _ _ _ _ (by simp)]
    exact World.cell?_setCell_same _ _ _ d0
  · exact World.cell?_setCell_same _ _ _ (by rw [World.cell?_setCell_other _ _ _ _ (by simp)]; exact d1)
  · exact (stable1 W.heap.size _ _ _ _ ((Keep.set _ hl).trans (Keep.set _ hl)) hu.l1).lower (Nat.zero_le _)
theorem ElB.step1 {W W' : World} {S : Nat} {f : Int} {mv : Value} {x : Int} {uv : Value} {us : List Int} (h : ElB W S f mv x uv us) {x2 : Int} {u2 : Value} {vs : List Int} (hu : W1 W.heap.size W'.heap.size W' u2 vs) :
    L1 S ((W'.setCell ⟨S + 1, 0, none⟩ (.int .i64 x2)).setCell ⟨S + 1, 1, none⟩ u2) u2 vs := by
  have hl := h.lt
  exact (stable1 W.heap.size _ _ _ _ ((Keep.set _ hl).trans (Keep.set _ hl)) hu.l1).lower (by omega)

def AddR (b c : Nat) (Z : Nat → Int) (w : World) (e : Ending) (w' : World) : Prop := e = .returned (.tuple #[]) ∧ But b w w' ∧ w'.rowIs b 2 c (fun i => .int .i64 (Z i))

set_option maxHeartbeats 3200000 in
set_option maxRecDepth 100000 in
theorem addTo_any (p f x z : Int) (b c : Nat) (Z : Nat → Int) (us ts : List Int) (gs : List Value) (mv uv : Value) (w0 w : World) (hB : Below w0.heap.size w0 w) (hr : w.rowIs b 2 c (fun i => .int .i64 (Z i)))
    (hmv : MapsAt w0 mv gs) (hgl : 0 < gs.length ∧ gs.length ≤ 1048576) (hu : L1 0 w uv us) (hch : Chain w0 gs x us z ts) (hp : 0 < p ∧ p ≤ 7) (hf : 0 ≤ f ∧ f ≤ 6) (hZ : ∀ i, i < c → 0 ≤ Z i ∧ Z i ≤ 6) (ht : ts.length = c) (htn : ∀ y ∈ ts, 0 ≤ y ∧ y ≤ 6) (hc : c ≤ 1048576) :
    Calls Try.prog 185 #[.agg #[.int .i64 f, mv], .int .i64 p, .slice (some ⟨b, 0, none⟩) c c, .agg #[.int .i64 x, uv]] w (AddR b c (fun i => addMod p f (Z i) (ts.getD i 0)) w) := by
  obtain ⟨bm, om, cm, rfl, hcl⟩ := hmv
  obtain ⟨au, cu, rfl⟩ := Sl.shape hu
  have hbl : b < w.heap.size := hr.lt
  obtain ⟨hgl0, hgl1⟩ := hgl
  obtain ⟨w1, hw1⟩ : ∃ w1, w1 = ((w.alloc (.cells #[.int .i64 f, .slice (some ⟨bm, om, none⟩) gs.length cm] 129)).alloc (.cells #[.int .i64 x, .slice au us.length cu] 118)) := ⟨_, rfl⟩
  have hb01 : Below w.heap.size w w1 := by rw [hw1]; exact ((Below.refl _ _).alloc (Nat.le_refl _) _).alloc (by simp) _
  have hs1 : w1.heap.size = w.heap.size + 2 := by rw [hw1]; simp
  have a0 : w1.cell? ⟨w.heap.size, 0, none⟩ = some (.int .i64 f) := by rw [hw1]; simp
  have a1 : w1.cell? ⟨w.heap.size, 1, none⟩ = some (.slice (some ⟨bm, om, none⟩) gs.length cm) := by rw [hw1]; simp
  have e0 : w1.cell? ⟨w.heap.size + 1, 0, none⟩ = some (.int .i64 x) := by rw [hw1]; simp
  have e1 : w1.cell? ⟨w.heap.size + 1, 1, none⟩ = some (.slice au us.length cu) := by rw [hw1]; simp
  have HB0 := Lib.hid hB
  have HR0 := Lib.hid hr
  have HB1 : Hid (Below w0.heap.size w0 w1) := Lib.hid (hB.trans (hb01.mono hB.size))
  have HR1 : Hid (w1.rowIs b 2 c (fun i => .int .i64 (Z i))) := Lib.hid (hr.of_block (hb01.block _ hbl))
  have HU1 := Lib.hid (hu.below hb01)
  have HTH1 : Hid (w1.there (w.heap.size + 1) 0 2) := Lib.hid (by rw [hw1]; have := there_new (w.alloc (.cells #[.int .i64 f, .slice (some ⟨bm, om, none⟩) gs.length cm] 129)) #[.int .i64 x, .slice au us.length cu] 118 (n := 2) (by simp); simpa using this)
  have HB01 := Lib.hid hb01
  have HBT : Hid (But b w w1) := Lib.hid (But.of_below hb01)
  have hi1 : w0.heap.size ≤ w.heap.size := hB.size
  obtain ⟨hp0, hp1⟩ := hp
  obtain ⟨hf0, hf1⟩ := hf
  have HCL := Lib.hid hcl
  have HCH := Lib.hid hch
  have HTN := Lib.hid htn
  have HZ := Lib.hid hZ
  have HRES : Hid (Try.f185.results = #[]) := Lib.hid (by kernel_rfl)
  have HIE : Hid ((Try.prog.info? 118).map (·.size) = some 2) := Lib.hid (by kernel_rfl)
  clear hr hu hB hcl hch htn hZ
  go_enter Try.func185, Try.ntmps185
  go_upto_region 1 with fail
  rw [← hw1]
  clear hw1 hb01
  go_wp2
  have th1 : w1.there (w.heap.size + 1) 0 2 := HTH1.out
  obtain ⟨S, hS⟩ : ∃ S, S = w.heap.size := ⟨_, rfl⟩
  have HBW : Hid (Below S w w1) := Lib.hid (by rw [hS]; exact HB01.out)
  rw [← hS] at a0 a1 e0 e1 th1 hbl hs1 hi1
  have HSE := Lib.hid hS
  rw [← hS]
  clear hS HTH1
  have HST : Hid (ElB w1 S f (.slice (some ⟨bm, om, none⟩) gs.length cm) x (.slice au us.length cu) us) := Lib.hid ⟨a0, a1, e0, e1, th1, HU1.out⟩
  clear a0 a1 e0 e1 th1
  go_loopw [15] (fun i wr => ∃ (k : Nat) (y : Int) (vs : List Int) (uw : Value), k ≤ gs.length ∧ i = .int .i64 k ∧ Hid (Below S w wr) ∧ Hid (w1.heap.size ≤ wr.heap.size) ∧ Hid (ElB wr S f (.slice (some ⟨bm, om, none⟩) gs.length cm) y uw vs) ∧ Hid (Chain w0 (gs.drop k) y vs z ts) ∧ Hid (0 < k → L1 S wr uw vs)) (fun i _ => gs.length - (intOf i).toNat)
  case atStart => exact ⟨0, x, us, _, Nat.zero_le _, rfl, HBW, Lib.hid (Nat.le_refl _), HST, Lib.hid (by rw [List.drop_zero]; exact HCH.out), Lib.hid (fun h => absurd h (Nat.lt_irrefl _))⟩
  case round =>
    obtain ⟨k, y, vs, uw, hk, rfl, HB, HSZ, HE, HC, HLL⟩ := hrel
    obtain ⟨wx, hwx⟩ : ∃ wx : World, wx = wr := ⟨_, rfl⟩
    subst hwx
    have e0 := HE.out.c0
    have e1 := HE.out.c1
    have hsz := HSZ.out
    by_cases hlt : k < gs.length
    · obtain ⟨y2, vs2, hled, hch2⟩ := chain_cons HC.out hlt
      have HCH2 := Lib.hid hch2
      have hcell : wx.cell? ⟨bm, om + k, none⟩ = some (.func (.func 122) #[gs[k]] #[]) := by
        have h0 := HCL.out k hlt
        exact later (HB0.out.trans (HB.out.mono hi1)) (Nat.le_refl _) h0
      have HLD := Lib.hid (hled wx uw (HB0.out.trans (HB.out.mono hi1)) HE.out.l)
      obtain ⟨g, hg⟩ : ∃ g, g = gs[k] := ⟨_, rfl⟩
      rw [← hg] at hcell HLD
      have hkl : (k : Int) < (gs.length : Int) := by omega
      clear hg hled hch2
      go_wp2_with fail
      refine HLD.out.mono ?_
      rintro e w4 ⟨u4, rfl, hw4, hb4⟩
      obtain ⟨au4, cu4, hus4⟩ := Sl.shape hw4.l1
      subst hus4
      have HL4 : Hid (0 < k + 1 → L1 S ((w4.setCell ⟨S + 1, 0, none⟩ (.int .i64 y2)).setCell ⟨S + 1, 1, none⟩ (.slice au4 vs2.length cu4)) (.slice au4 vs2.length cu4) vs2) := Lib.hid (fun _ => HE.out.step1 hw4)
      have HE4 := Lib.hid (HE.out.step hb4 (x2 := y2) hw4)
      have hth : w4.there (S + 1) 0 2 := there_below HE.out.th hb4 HE.out.lt
      have d0 := later hb4 (Nat.le_refl _) e0
      have d1 := later hb4 (Nat.le_refl _) e1
      have x0 := hth 0 (by omega)
      have x1 := hth 1 (by omega)
      have HB4 : Hid (Below S w ((w4.setCell ⟨S + 1, 0, none⟩ (.int .i64 y2)).setCell ⟨S + 1, 1, none⟩ (.slice au4 vs2.length cu4))) := Lib.hid (((HB.out.trans (hb4.mono (Nat.le_trans (by rw [HSE.out]; exact HB.out.size) (Nat.le_refl _)))).setCell (by show S ≤ S + 1; omega) _).setCell (by show S ≤ S + 1; omega) _)
      have HS4 : Hid (w1.heap.size ≤ ((w4.setCell ⟨S + 1, 0, none⟩ (.int .i64 y2)).setCell ⟨S + 1, 1, none⟩ (.slice au4 vs2.length cu4)).heap.size) := Lib.hid (by simpa using Nat.le_trans HSZ.out hb4.size)
      clear e0 e1 hcell hw4 hb4 HLD
      go_wp2
      go_roundw
      case rel => exact ⟨k + 1, y2, vs2, _, by omega, by go_num, HB4, HS4, HE4, HCH2, HL4⟩
      case measure => simp [intOf]; omega
    · have hke : k = gs.length := by omega
      have hts := chain_end HC.out hlt
      subst hts
      have hl := HLL.out (by omega)
      obtain ⟨auw, cuw, hus⟩ := Sl.shape hl
      rw [ht] at hus
      subst hus
      have HL := Lib.hid hl
      have a0 := HE.out.a0
      have HROW : Hid (wx.rowIs b 2 c (fun i => .int .i64 (if i < 0 then addMod p f (Z i) (vs.getD i 0) else Z i))) := Lib.hid ((HR0.out.of_block (HB.out.block _ hbl)).congr (fun i _ => by simp))
      obtain ⟨wo, hwo⟩ : ∃ wo : World, wo = wx := ⟨_, rfl⟩
      rw [← hwo] at HROW HL a0 HB HSZ HE hsz e0 e1
      have HWO := Lib.hid hwo.symm
      have hbS : b ≠ S := by omega
      have hSo : S + 1 < wo.heap.size := HE.out.lt
      have A0 : Hid (∀ W, But b wo W → W.cell? ⟨S, 0, none⟩ = some (.int .i64 f)) := Lib.hid (fun W h => by rw [h.cell (by omega) (by omega)]; exact HE.out.a0)
      subst hwo
      clear hl hlt
      go_wp2
      go_loopw [26] (fun i wr => ∃ (q : Nat), q ≤ c ∧ i = .int .i64 q ∧ Hid (But b wo wr) ∧ Hid (wr.rowIs b 2 c (fun i => .int .i64 (if i < q then addMod p f (Z i) (vs.getD i 0) else Z i)))) (fun i _ => c - (intOf i).toNat)
      case atStart => exact ⟨0, Nat.zero_le _, rfl, Lib.hid (But.refl _ _), HROW⟩
      case round =>
        obtain ⟨q, hq, rfl, HBO, HRW⟩ := hrel
        obtain ⟨wy, hwy⟩ : ∃ wy : World, wy = wr := ⟨_, rfl⟩
        subst hwy
        by_cases hlt : q < c
        · have hltv : q < vs.length := by omega
          refine Sl.cases HL.out (fun _ _ hx _ => absurd hltv (by simp [hx])) (fun bu ou capu hvu hbu _ hcl => ?_)
          injection hvu with k1 k2 k3
          clear k2
          subst k1 k3
          obtain ⟨u, hu, hru⟩ := hcl q hltv
          have hbu2 := cell_lt hu
          obtain ⟨n, hn⟩ : ∃ n, n = vs[q] := ⟨_, rfl⟩
          have hnb := HTN.out _ (List.getElem_mem hltv)
          rw [← hn] at hnb
          obtain ⟨hn0, hn1⟩ := hnb
          have hun : wy.cell? ⟨bu, ou + q, none⟩ = some (.int .i64 n) := by rw [HBO.out.cell hbu2 (by omega), hu, hru, hn]
          have hfa := A0.out _ HBO.out
          obtain ⟨a, ha⟩ : ∃ a, a = Z q := ⟨_, rfl⟩
          have hab := HZ.out q hlt
          rw [← ha] at hab
          obtain ⟨ha0, ha1⟩ := hab
          have HACC : Hid (∀ W : World, W.rowIs b 2 c (fun i => .int .i64 (if i < q then addMod p f (Z i) (vs.getD i 0) else Z i)) → W.cell? ⟨b, 0 + q, none⟩ = some (.int .i64 a)) := Lib.hid (fun W h => by have := h.cell hlt; rw [if_neg (Nat.lt_irrefl _), ← ha] at this; rwa [Nat.zero_add])
          have m0 : 0 ≤ f * n := Int.mul_nonneg hf0 hn0
          have m1 : f * n ≤ 36 := Int.le_trans (Int.mul_le_mul hf1 hn1 hn0 (by omega)) (by omega)
          have HST2 : Hid (∀ W : World, W.rowIs b 2 c (fun i => .int .i64 (if i < q then addMod p f (Z i) (vs.getD i 0) else Z i)) → (W.setCell ⟨b, 0 + q, none⟩ (.int .i64 ((a + f * n) % p))).rowIs b 2 c (fun i => .int .i64 (if i < q + 1 then addMod p f (Z i) (vs.getD i 0) else Z i))) := Lib.hid (fun W h => by
            rw [Nat.zero_add]
            refine (h.set q _).congr (fun i _ => ?_)
            by_cases e : i = q
            · subst e
              rw [if_pos rfl, if_pos (Nat.lt_succ_self _), addMod, ← ha, getD_of_lt _ hltv, ← hn]
            · rw [if_neg e]
              by_cases e2 : i < q
              · rw [if_pos e2, if_pos (by omega)]
              · rw [if_neg e2, if_neg (by omega)])
          clear hu hru hcl ha hn
          go_upto_region 9 with fail
          have S0 : Hid (But b wo wy.drew ∧ wy.drew.rowIs b 2 c (fun i => .int .i64 (if i < q then addMod p f (Z i) (vs.getD i 0) else Z i))) := Lib.hid ⟨HBO.out.drew, HRW.out.drew⟩
          refine wp_region_last (fun W => Hid (But b wo W ∧ W.rowIs b 2 c (fun i => .int .i64 (if i < q then addMod p f (Z i) (vs.getD i 0) else Z i)))) 14 (by kernel_rfl) rfl (by kernel_rfl) ?_
          refine held_take (i := 0) (v := .slice (some ⟨b, 0, none⟩) c c) (some 31) rfl rfl (by kernel_rfl) (by kernel_rfl) (by kernel_rfl) (fun _ _ _ h => h) (yieldsIf_move (by kernel_rfl) rfl (by kernel_rfl)) S0 ?_
          refine held_take (i := 1) (v := .int .i64 (q : Int)) (some 32) rfl rfl (by kernel_rfl) (by kernel_rfl) (by kernel_rfl) (fun _ _ _ h => h) (yieldsIf_move (by kernel_rfl) rfl (by kernel_rfl)) S0 ?_
          refine held_take (i := 2) (v := .slice (some ⟨b, 0, none⟩) c c) (some 33) rfl rfl (by kernel_rfl) (by kernel_rfl) (by kernel_rfl) (fun _ _ _ h => h) (yieldsIf_move (by kernel_rfl) rfl (by kernel_rfl)) S0 ?_
          refine held_take (i := 3) (v := .int .i64 (q : Int)) (some 34) rfl rfl (by kernel_rfl) (by kernel_rfl) (by kernel_rfl) (fun _ _ _ h => h) (yieldsIf_move (by kernel_rfl) rfl (by kernel_rfl)) S0 ?_
          refine held_take (i := 4) (v := .pointer (some ⟨b, 0 + q, none⟩)) (some 35) rfl rfl (by kernel_rfl) (by kernel_rfl) (by kernel_rfl) (fun _ _ _ h => h) (yieldsIf_index (by kernel_rfl) rfl (by kernel_rfl) (by kernel_rfl) (hidxI b 0 c hlt)) S0 ?_
          refine held_take (i := 5) (v := .int .i64 a) (some 36) rfl rfl (by kernel_rfl) (by kernel_rfl) (by kernel_rfl) (fun _ _ _ h => h) (yieldsIf_cell (by kernel_rfl) rfl (by kernel_rfl) (fun W h => hload W (HACC.out W h.out.2))) S0 ?_
          refine held_take (i := 6) (v := .pointer (some ⟨S, 0, none⟩)) (some 37) rfl rfl (by kernel_rfl) (by kernel_rfl) (by kernel_rfl) (fun _ _ _ h => h) (yieldsIf_run (by kernel_rfl) (fun W _ => by kernel_rfl)) S0 ?_
          refine held_take (i := 7) (v := .int .i64 f) (some 38) rfl rfl (by kernel_rfl) (by kernel_rfl) (by kernel_rfl) (fun _ _ _ h => h) (yieldsIf_cell (by kernel_rfl) rfl (by kernel_rfl) (fun W h => hload W (A0.out _ h.out.1))) S0 ?_
          refine held_take (i := 8) (v := .int .i64 n) (some 39) rfl rfl (by kernel_rfl) (by kernel_rfl) (by kernel_rfl) (fun _ _ _ h => h) (yieldsIf_move (by kernel_rfl) rfl (by kernel_rfl)) S0 ?_
          refine held_take (i := 9) (v := .int .i64 (f * n)) (some 40) rfl rfl (by kernel_rfl) (by kernel_rfl) (by kernel_rfl) (fun _ _ _ h => h) (yieldsIf_bin (by kernel_rfl) rfl (by kernel_rfl) (by kernel_rfl) (fun _ => rfl) (hmulA (IntWalk.i64_in _ (by omega)))) S0 ?_
          refine held_take (i := 10) (v := .int .i64 (a + f * n)) (some 41) rfl rfl (by kernel_rfl) (by kernel_rfl) (by kernel_rfl) (fun _ _ _ h => h) (yieldsIf_bin (by kernel_rfl) rfl (by kernel_rfl) (by kernel_rfl) (fun _ => rfl) (haddA (IntWalk.i64_in _ (by omega)))) S0 ?_
          refine held_take (i := 11) (v := .int .i64 p) (some 42) rfl rfl (by kernel_rfl) (by kernel_rfl) (by kernel_rfl) (fun _ _ _ h => h) (yieldsIf_move (by kernel_rfl) rfl (by kernel_rfl)) S0 ?_
          refine held_take (i := 12) (v := .int .i64 ((a + f * n) % p)) (some 43) rfl rfl (by kernel_rfl) (by kernel_rfl) (by kernel_rfl) (fun _ _ _ h => h) (yieldsIf_bin (by kernel_rfl) rfl (by kernel_rfl) (by kernel_rfl) (fun _ => rfl) (hremI (by omega) (by omega) (by omega))) S0 ?_
          refine held_take (i := 13) (v := .pointer (some ⟨b, 0 + q, none⟩)) (some 44) rfl rfl (by kernel_rfl) (by kernel_rfl) (by kernel_rfl) (fun _ _ _ h => h) (yieldsIf_index (by kernel_rfl) rfl (by kernel_rfl) (by kernel_rfl) (hidxI b 0 c hlt)) S0 ?_
          refine held_none (i := 14) (v := .bool false) rfl rfl (by kernel_rfl) (by kernel_rfl) (by kernel_rfl) (fun _ _ _ h => h) (yieldsIf_move (by kernel_rfl) rfl (by kernel_rfl)) S0 ?_
          have hac2 : wy.drew.cell? ⟨b, 0 + q, none⟩ = some (.int .i64 a) := HACC.out _ S0.out.2
          have hfz2 : wy.drew.frozen? ⟨b, 0 + q, none⟩ = false := S0.out.2.frozen _
          have hBN := S0.out.1.trans (But.set wy.drew (0 + q) (.int .i64 ((a + f * n) % p)) (b := b))
          have HRN := Lib.hid (HST2.out _ S0.out.2)
          refine wpAnyH_done (by kernel_rfl) (lastQ_storeI rfl (by kernel_rfl) (by kernel_rfl) (.tmp 44) (.tmp 43) (by kernel_rfl) b (0 + q) ((a + f * n) % p) _ (by kernel_rfl) (by kernel_rfl) hac2 hfz2 ?_) _
          simp only [Act.put, List.setIfInBounds_toArray, List.set_cons_zero, List.set_cons_succ]
          obtain ⟨WN, hWN⟩ : ∃ WN, WN = wy.drew.setCell ⟨b, 0 + q, none⟩ (.int .i64 ((a + f * n) % p)) := ⟨_, rfl⟩
          rw [← hWN] at hBN HRN ⊢
          have HBN := Lib.hid hBN
          clear hBN S0 hWN hac2 hfz2
          go_wp2
          go_roundw
          case rel => exact ⟨q + 1, by omega, by go_num, HBN, HRN⟩
          case measure => simp [intOf]; omega
        · have hqc : q = c := by omega
          have HBF : Hid (But b w wy) := Lib.hid ((But.of_below (HB.out.mono (Nat.le_of_eq HSE.out.symm))).trans HBO.out)
          have HRF : Hid (wy.rowIs b 2 c (fun i => .int .i64 (addMod p f (Z i) (vs.getD i 0)))) := Lib.hid (HRW.out.congr (fun i hi => by rw [hqc, if_pos hi]))
          clear hqc
          go_wp2
          refine bodyPost_ret (v := .tuple #[]) ?_ rfl ⟨rfl, HBF.out, HRF.out⟩
          simp only [results, HRES.out]
          go_simp
end Go.Proofs.Ytpdkfidmmjlmnab
