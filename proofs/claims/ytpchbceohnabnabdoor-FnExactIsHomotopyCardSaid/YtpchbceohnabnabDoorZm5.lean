/-
  Texts that ProofHml needs, part 5.
-/
import Derived.Test.YtpchbceohnabnabDoorZm4
import Derived.Laws.EntriesVeiled
namespace Go.Proofs.YtpchbceohnabnabDoor
open Go.RowKit

/-- The code of InducedRank. -/
noncomputable def irCode (p p2 n : Int) (ds : List Int) (ms : List (List (List Int))) (ds2 : List Int) (ms2 fs : List (List (List Int))) : Int :=
  if famCode p p2 0 ds ms ds2 ms2 fs = 0 then (if 0 ≤ n ∧ n ≤ (ds.length : Int) - 1 then mapCode 0 (ChainOk p ds ms ds2 ms2 fs) else 2) else famCode p p2 0 ds ms ds2 ms2 fs
section
variable {p p2 n : Int} {ds : List Int} {ms : List (List (List Int))} {ds2 : List Int} {ms2 fs : List (List (List Int))}
theorem irCode_ne (h : famCode p p2 0 ds ms ds2 ms2 fs ≠ 0) : irCode p p2 n ds ms ds2 ms2 fs = famCode p p2 0 ds ms ds2 ms2 fs := by unfold irCode; rw [if_neg h]
theorem irCode_zero (h : irCode p p2 n ds ms ds2 ms2 fs = 0) : famCode p p2 0 ds ms ds2 ms2 fs = 0 := by
  by_cases h0 : famCode p p2 0 ds ms ds2 ms2 fs = 0
  · exact h0
  · rw [irCode_ne h0] at h; exact absurd h h0
/-- The answers of InducedRank. -/
def IrO (p p2 n : Int) (ds : List Int) (ms : List (List (List Int))) (ds2 : List Int) (ms2 fs : List (List (List Int))) (a c : Int) : Prop :=
  c = irCode p p2 n ds ms ds2 ms2 fs ∧ (c ≠ 0 → a = 0) ∧ (c = 0 → RkInd p ds ms ds2 ms2 fs n.toNat a)
theorem IrO.unique {a a2 c c2 : Int} (h : IrO p p2 n ds ms ds2 ms2 fs a c) (k : IrO p p2 n ds ms ds2 ms2 fs a2 c2) : a = a2 ∧ c = c2 := by
  have e : c = c2 := h.1.trans k.1.symm
  refine ⟨?_, e⟩
  by_cases h0 : c = 0
  · have hp := (famCode_zero (irCode_zero (h.1.symm.trans h0))).1.x.1.prime.lo1
    exact (h.2.2 h0).unique hp (k.2.2 (e.symm.trans h0))
  · rw [h.2.1 h0, k.2.1 (fun hh => h0 (e.trans hh))]
end

end Go.Proofs.YtpchbceohnabnabDoor


namespace Go.Proofs.YtpchbceohnabnabDoor
open Go.RowKit

section
variable {p p2 : Int} {ds : List Int} {ms : List (List (List Int))} {ds2 : List Int} {ms2 fs : List (List (List Int))}
/-- In the degree n a family's rank is both homology numbers. -/
def QuAt (p : Int) (ds : List Int) (ms : List (List (List Int))) (ds2 : List Int) (ms2 fs : List (List (List Int))) (n : Nat) : Prop := ∃ r, RkInd p ds ms ds2 ms2 fs n r ∧ HNum p ds ms n r ∧ HNum p ds2 ms2 n r
/-- The answers of IsQuasi. -/
def QuS (p p2 : Int) (ds : List Int) (ms : List (List (List Int))) (ds2 : List Int) (ms2 fs : List (List (List Int))) (b : Bool) (c : Int) : Prop := c = mapCode (famCode p p2 0 ds ms ds2 ms2 fs) (AllCh p ds ms ds2 ms2 1 (fun _ => fs)) ∧ (b = true ↔ mapCode (famCode p p2 0 ds ms ds2 ms2 fs) (AllCh p ds ms ds2 ms2 1 (fun _ => fs)) = 0 ∧ ∀ n, n < ds.length → QuAt p ds ms ds2 ms2 fs n)
theorem QuS.unique {b b2 : Bool} {c c2 : Int} (h : QuS p p2 ds ms ds2 ms2 fs b c) (k : QuS p p2 ds ms ds2 ms2 fs b2 c2) : b = b2 ∧ c = c2 := by
  obtain ⟨h1, h2⟩ := h
  obtain ⟨k1, k2⟩ := k
  refine ⟨?_, h1.trans k1.symm⟩
  exact Bool.eq_iff_iff.2 (h2.trans k2.symm)
end

end Go.Proofs.YtpchbceohnabnabDoor


namespace Go.Proofs.YtpchbceohnabnabDoor
open Go.RowKit

theorem cell_new1' (W : World) (v : Value) (t : TypeId) : (W.alloc (.cells #[v] t)).cell? ⟨W.heap.size, 0, none⟩ = some v := by simp
theorem Sl.at0 {α : Type} {lo : Nat} {R : World → Value → α → Prop} {w : World} {v : Value} {xs : List α} (h : Sl lo R w v xs) {k : Nat} (hk : k < xs.length) : ∃ b o cap u, v = .slice (some ⟨b, o, none⟩) xs.length cap ∧ w.cell? ⟨b, o + k, none⟩ = some u ∧ R w u xs[k] := by
  refine Sl.cases h (fun _ _ hx _ => absurd hk (by simp [hx])) (fun b o cap hv _ _ hc => ?_)
  obtain ⟨u, hu, hr⟩ := hc k hk
  exact ⟨b, o, cap, u, hv, hu, hr⟩
theorem slice_some {ad : Option Addr} {n m cap cap2 b o : Nat} (h : Value.slice ad n cap = .slice (some ⟨b, o, none⟩) m cap2) : ad = some ⟨b, o, none⟩ ∧ n = m ∧ cap = cap2 := by
  injection h with a b c
  exact ⟨a, b, c⟩
/-- Families of one shape: m tables of rs rows of cs numbers, all small. -/
structure Fs6 (m : Nat) (rs cs : Nat → Nat) (fs : List (List (List Int))) : Prop where
  len : fs.length = m
  rows : ∀ n, n < m → (fs.getD n []).length = rs n
  cols : ∀ n, n < m → ∀ i, i < rs n → ((fs.getD n []).getD i []).length = cs n
  nums : ∀ n, n < m → ∀ i, i < rs n → ∀ q, q < cs n → 0 ≤ ((fs.getD n []).getD i []).getD q 0 ∧ ((fs.getD n []).getD i []).getD q 0 ≤ 6
theorem famL_succ (m : Nat) (rs cs : Nat → Nat) (Z : Nat → Nat → Nat → Int) : famL (m + 1) rs cs Z = famL m rs cs Z ++ [tableOf (rs m) (cs m) (Z m)] := by simp [famL, List.range_succ]
/-- Table n of a family of that shape in memory. -/
theorem Fs6.tab {m : Nat} {rs cs : Nat → Nat} {fs : List (List (List Int))} (h : Fs6 m rs cs fs) {w : World} {v : Value} (hv : L3 0 w v fs) {n : Nat} (hn : n < m) : ∃ b o cap ad ct, v = .slice (some ⟨b, o, none⟩) m cap ∧ w.cell? ⟨b, o + n, none⟩ = some (.slice ad (rs n) ct) ∧ L2 0 w (.slice ad (rs n) ct) (fs.getD n []) := by
  have hn' : n < fs.length := by rw [h.len]; exact hn
  obtain ⟨b, o, cap, u, e, hu, hr⟩ := hv.at0 hn'
  obtain ⟨ad, ct, rfl⟩ := Sl.shape hr
  rw [← getD_of_lt [] hn'] at hr hu
  rw [h.rows n hn] at hr hu
  rw [h.len] at e
  exact ⟨b, o, cap, ad, ct, e, hu, hr⟩
theorem Fs6.row {m : Nat} {rs cs : Nat → Nat} {fs : List (List (List Int))} (h : Fs6 m rs cs fs) {w : World} {v : Value} {n : Nat} (hn : n < m) (hv : L2 0 w v (fs.getD n [])) {i : Nat} (hi : i < rs n) : ∃ b o cap ad ct, v = .slice (some ⟨b, o, none⟩) (rs n) cap ∧ w.cell? ⟨b, o + i, none⟩ = some (.slice ad (cs n) ct) ∧ L1 0 w (.slice ad (cs n) ct) ((fs.getD n []).getD i []) := by
  have hi' : i < (fs.getD n []).length := by rw [h.rows n hn]; exact hi
  obtain ⟨b, o, cap, u, e, hu, hr⟩ := hv.at0 hi'
  obtain ⟨ad, ct, rfl⟩ := Sl.shape hr
  rw [← getD_of_lt [] hi'] at hr hu
  rw [h.cols n hn i hi] at hr hu
  rw [h.rows n hn] at e
  exact ⟨b, o, cap, ad, ct, e, hu, hr⟩
theorem Fs6.num {m : Nat} {rs cs : Nat → Nat} {fs : List (List (List Int))} (h : Fs6 m rs cs fs) {w : World} {v : Value} {n : Nat} (hn : n < m) {i : Nat} (hi : i < rs n) (hv : L1 0 w v ((fs.getD n []).getD i [])) {q : Nat} (hq : q < cs n) : ∃ b o cap, v = .slice (some ⟨b, o, none⟩) (cs n) cap ∧ w.cell? ⟨b, o + q, none⟩ = some (.int .i64 (((fs.getD n []).getD i []).getD q 0)) := by
  have hq' : q < ((fs.getD n []).getD i []).length := by rw [h.cols n hn i hi]; exact hq
  obtain ⟨b, o, cap, u, e, hu, hr⟩ := hv.at0 hq'
  rw [h.cols n hn i hi] at e
  rw [getD_of_lt 0 hq']
  rw [hr] at hu
  exact ⟨b, o, cap, e, hu⟩

set_option maxHeartbeats 6400000 in
set_option maxRecDepth 100000 in
theorem l04Sum_any (p k : Int) (m : Nat) (rs cs : Nat → Nat) (fv gv : Value) (fs gs : List (List (List Int))) (w : World) (hf : L3 0 w fv fs) (hg : L3 0 w gv gs) (h6 : Fs6 m rs cs fs) (h7 : Fs6 m rs cs gs) (hp : IsP p) (hk : -6 ≤ k ∧ k ≤ 6) (hm : m ≤ 100) (hrs : ∀ n, n < m → rs n ≤ 100 ∧ cs n ≤ 100) :
    Calls Tryd.prog 57 #[.int .i64 p, fv, gv, .int .i64 k] w (Gt3R (famL m rs cs (afZ p k fs gs)) w) := by
  obtain ⟨af, cf, rfl⟩ := Sl.shape hf
  obtain ⟨ag, cg, rfl⟩ := Sl.shape hg
  rw [h6.len] at hf ⊢
  rw [h7.len] at hg ⊢
  have HF := Lib.hid hf
  have HG := Lib.hid hg
  have H6 := Lib.hid h6
  have H7 := Lib.hid h7
  have HPR := Lib.hid hp
  have HRS := Lib.hid hrs
  have HT0 := Lib.hid (Gt.new (base := w.heap.size) w (Nat.le_refl _))
  have hp27 : 2 ≤ p ∧ p ≤ 7 := ⟨hp.lo, hp.hi⟩
  obtain ⟨hk0, hk1⟩ := hk
  clear hf hg h6 h7 hp hrs
  go_enter Tryd.func57, Tryd.ntmps57
  go_wp2
  go_loopw [9, 10, 11, 12, 13, 14] (fun ov i _ _ _ _ wr => ∃ (n : Nat) (ao : Option Addr) (co : Nat), n ≤ m ∧ ov = .slice ao n co ∧ i = .int .i64 n ∧ Hid (Below w.heap.size w wr) ∧ Hid (Gt w.heap.size wr ov (famL n rs cs (afZ p k fs gs)))) (fun _ i _ _ _ _ _ => m - (intOf i).toNat)
  case atStart => exact ⟨0, _, _, Nat.zero_le _, rfl, rfl, Lib.hid (below_alloc1 _ _), Lib.hid (by simpa [famL] using HT0.out)⟩
  case round =>
    clear HT0
    obtain ⟨n, ao, co, hn, rfl, rfl, HB, HGT⟩ := hrel
    obtain ⟨wx, hwx⟩ : ∃ wx : World, wx = wr := ⟨_, rfl⟩
    subst hwx
    have hwx0 : w.heap.size ≤ wx.heap.size := HB.out.size
    by_cases hltm : n < m
    · obtain ⟨bf, of, cf', at', ct, e1, F1, F1L⟩ := H6.out.tab HF.out hltm
      obtain ⟨e2, _, e3⟩ := slice_some e1
      subst e2 e3
      obtain ⟨bf2, of2, cf2', at2, ct2, e1, G1, G1L⟩ := H7.out.tab HG.out hltm
      obtain ⟨e2, _, e3⟩ := slice_some e1
      subst e2 e3
      have F1H := Lib.hid F1L
      have G1H := Lib.hid G1L
      obtain ⟨r, hr⟩ : ∃ r, r = rs n := ⟨_, rfl⟩
      have HR := Lib.hid hr
      have hrb := HRS.out n hltm
      rw [← hr] at F1 G1 F1H G1H hrb
      obtain ⟨hr100, hc100⟩ := hrb
      have f1 := later HB.out (Nat.le_refl _) F1
      have HS0 := Lib.hid (Gs.new (base := wx.heap.size) wx (Nat.le_refl _))
      have F1c := Lib.hid F1
      have G1c := Lib.hid G1
      clear e1 F1L G1L F1 G1 hr
      go_wp2
      clear f1
      go_loopw [11, 12, 13, 14] (fun tv i _ _ wr => ∃ (j : Nat) (a2 : Option Addr) (c2 : Nat), j ≤ r ∧ tv = .slice a2 j c2 ∧ i = .int .i64 j ∧ Hid (Below wx.heap.size wx wr) ∧ Hid (Gs wx.heap.size wr tv (tableOf j (cs n) (afZ p k fs gs n)))) (fun _ i _ _ _ => r - (intOf i).toNat)
      case atStart => exact ⟨0, _, _, Nat.zero_le _, rfl, rfl, Lib.hid (below_alloc1 _ _), Lib.hid (by simpa [tableOf] using HS0.out)⟩
      case round =>
        clear HS0
        obtain ⟨i, a2, c2, hi, rfl, rfl, HBY, HGS⟩ := hrel
        obtain ⟨wy, hwy'⟩ : ∃ wy : World, wy = wr := ⟨_, rfl⟩
        subst hwy'
        have HBW : Hid (Below w.heap.size w wy) := Lib.hid (HB.out.trans (HBY.out.mono hwx0))
        have hwy : w.heap.size ≤ wy.heap.size := HBW.out.size
        have hxy : wx.heap.size ≤ wy.heap.size := HBY.out.size
        have f1 := later HBW.out (Nat.le_refl _) F1c.out
        by_cases hlti : i < r
        · obtain ⟨bt, ot, ct', ar, cr, e1, F2, F2L⟩ := H6.out.row hltm F1H.out (by rw [← HR.out]; exact hlti)
          rw [← HR.out] at e1
          obtain ⟨e2, _, e3⟩ := slice_some e1
          subst e2 e3
          obtain ⟨bt2, ot2, ct2', ar2, cr2, e1, G2, G2L⟩ := H7.out.row hltm G1H.out (by rw [← HR.out]; exact hlti)
          rw [← HR.out] at e1
          obtain ⟨e2, _, e3⟩ := slice_some e1
          subst e2 e3
          obtain ⟨c, hc⟩ : ∃ c, c = cs n := ⟨_, rfl⟩
          have HC := Lib.hid hc
          rw [← hc] at F2 G2 F2L G2L hc100
          have F2H := Lib.hid F2L
          have G2H := Lib.hid G2L
          have F2c := Lib.hid F2
          have G2c := Lib.hid G2
          have f2 := later HBW.out (Nat.le_refl _) F2
          have HB0 := Lib.hid (Gb.new (base := wy.heap.size) wy (Nat.le_refl _))
          clear e1 F2 G2 F2L G2L hc
          go_wp2
          clear f1 f2
          go_loopw [13, 14] (fun rv i2 wr => ∃ (q : Nat) (aq : Option Addr) (cq : Nat), q ≤ c ∧ rv = .slice aq q cq ∧ i2 = .int .i64 q ∧ Hid (Below wy.heap.size wy wr) ∧ Hid (Gb wy.heap.size wr rv ((List.range q).map (afZ p k fs gs n i)))) (fun _ i _ => c - (intOf i).toNat)
          case atStart => exact ⟨0, _, _, Nat.zero_le _, rfl, rfl, Lib.hid (below_alloc1 _ _), Lib.hid (by simpa using HB0.out)⟩
          case round =>
            clear HB0
            obtain ⟨q, aq, cq, hq, rfl, rfl, HBZ, HROW⟩ := hrel
            obtain ⟨wz, hwz⟩ : ∃ wz : World, wz = wr := ⟨_, rfl⟩
            subst hwz
            have HBWZ : Hid (Below w.heap.size w wz) := Lib.hid (HBW.out.trans (HBZ.out.mono hwy))
            have HQL : Hid (((List.range q).map (afZ p k fs gs n i)).length = q) := Lib.hid (by simp)
            have f1 := later HBWZ.out (Nat.le_refl _) F1c.out
            have f2 := later HBWZ.out (Nat.le_refl _) F2c.out
            by_cases hltq : q < c
            · obtain ⟨br, or, cr', e1, F3⟩ := H6.out.num hltm (by rw [← HR.out]; exact hlti) F2H.out (by rw [← HC.out]; exact hltq)
              rw [← HC.out] at e1
              obtain ⟨e2, _, e3⟩ := slice_some e1
              subst e2 e3
              obtain ⟨br2, or2, cr2', e1, G3⟩ := H7.out.num hltm (by rw [← HR.out]; exact hlti) G2H.out (by rw [← HC.out]; exact hltq)
              rw [← HC.out] at e1
              obtain ⟨e2, _, e3⟩ := slice_some e1
              subst e2 e3
              obtain ⟨x, hx⟩ : ∃ x, x = ((fs.getD n []).getD i []).getD q 0 := ⟨_, rfl⟩
              obtain ⟨y, hy⟩ : ∃ y, y = ((gs.getD n []).getD i []).getD q 0 := ⟨_, rfl⟩
              have hxb := H6.out.nums n hltm i (by rw [← HR.out]; exact hlti) q (by rw [← HC.out]; exact hltq)
              have hyb := H7.out.nums n hltm i (by rw [← HR.out]; exact hlti) q (by rw [← HC.out]; exact hltq)
              rw [← hx] at F3 hxb
              rw [← hy] at G3 hyb
              have HVAL : Hid ((x + k * y) % p = afZ p k fs gs n i q) := Lib.hid (by rw [hx, hy]; rfl)
              obtain ⟨hx0, hx1⟩ := hxb
              obtain ⟨hy0, hy1⟩ := hyb
              have m0 : -36 ≤ k * y := by have := Int.mul_le_mul_of_nonneg_right hk0 hy0; omega
              have m1 : k * y ≤ 36 := by have := Int.mul_le_mul_of_nonneg_right hk1 hy0; omega
              clear hx hy e1
              go_upto_region 13 with fail
              have S0 : Below w.heap.size w wz.drew := HBWZ.out.drew
              have f3 := F3
              have g3 := G3
              have f1 := F1c.out
              have f2 := F2c.out
              have g1 := G1c.out
              have g2 := G2c.out
              refine wp_region_held (S := fun W => Below w.heap.size w W) (by kernel_rfl) ?_
              refine held_take (i := 0) (v := .slice aq q cq) (some 45) rfl rfl (by kernel_rfl) (by kernel_rfl) (by kernel_rfl) (fun _ _ _ h => h) (yieldsIf_move (by kernel_rfl) rfl (by kernel_rfl)) S0 ?_
              refine held_take (i := 1) (v := .int .i64 p) (some 46) rfl rfl (by kernel_rfl) (by kernel_rfl) (by kernel_rfl) (fun _ _ _ h => h) (yieldsIf_move (by kernel_rfl) rfl (by kernel_rfl)) S0 ?_
              refine held_take (i := 2) (v := .slice (some ⟨bf, of, none⟩) m cf) (some 47) rfl rfl (by kernel_rfl) (by kernel_rfl) (by kernel_rfl) (fun _ _ _ h => h) (yieldsIf_move (by kernel_rfl) rfl (by kernel_rfl)) S0 ?_
              refine held_take (i := 3) (v := .int .i64 (n : Int)) (some 48) rfl rfl (by kernel_rfl) (by kernel_rfl) (by kernel_rfl) (fun _ _ _ h => h) (yieldsIf_move (by kernel_rfl) rfl (by kernel_rfl)) S0 ?_
              refine held_take (i := 4) (v := .pointer (some ⟨bf, of + n, none⟩)) (some 49) rfl rfl (by kernel_rfl) (by kernel_rfl) (by kernel_rfl) (fun _ _ _ h => h) (yieldsIf_index (by kernel_rfl) rfl (by kernel_rfl) (by kernel_rfl) (hidxU bf of cf hltm)) S0 ?_
              refine held_take (i := 5) (v := .slice (some ⟨bt, ot, none⟩) r ct) (some 50) rfl rfl (by kernel_rfl) (by kernel_rfl) (by kernel_rfl) (fun _ _ _ h => h) (yieldsIf_cell (by kernel_rfl) rfl (by kernel_rfl) (fun W h => hloadSS W (later h (Nat.le_refl _) f1))) S0 ?_
              refine held_take (i := 6) (v := .int .i64 (i : Int)) (some 51) rfl rfl (by kernel_rfl) (by kernel_rfl) (by kernel_rfl) (fun _ _ _ h => h) (yieldsIf_move (by kernel_rfl) rfl (by kernel_rfl)) S0 ?_
              refine held_take (i := 7) (v := .pointer (some ⟨bt, ot + i, none⟩)) (some 52) rfl rfl (by kernel_rfl) (by kernel_rfl) (by kernel_rfl) (fun _ _ _ h => h) (yieldsIf_index (by kernel_rfl) rfl (by kernel_rfl) (by kernel_rfl) (hidxS bt ot ct hlti)) S0 ?_
              refine held_take (i := 8) (v := .slice (some ⟨br, or, none⟩) c cr) (some 53) rfl rfl (by kernel_rfl) (by kernel_rfl) (by kernel_rfl) (fun _ _ _ h => h) (yieldsIf_cell (by kernel_rfl) rfl (by kernel_rfl) (fun W h => hloadS W (later h (Nat.le_refl _) f2))) S0 ?_
              refine held_take (i := 9) (v := .int .i64 (q : Int)) (some 54) rfl rfl (by kernel_rfl) (by kernel_rfl) (by kernel_rfl) (fun _ _ _ h => h) (yieldsIf_move (by kernel_rfl) rfl (by kernel_rfl)) S0 ?_
              refine held_take (i := 10) (v := .pointer (some ⟨br, or + q, none⟩)) (some 55) rfl rfl (by kernel_rfl) (by kernel_rfl) (by kernel_rfl) (fun _ _ _ h => h) (yieldsIf_index (by kernel_rfl) rfl (by kernel_rfl) (by kernel_rfl) (hidxI br or cr hltq)) S0 ?_
              refine held_take (i := 11) (v := .int .i64 x) (some 56) rfl rfl (by kernel_rfl) (by kernel_rfl) (by kernel_rfl) (fun _ _ _ h => h) (yieldsIf_cell (by kernel_rfl) rfl (by kernel_rfl) (fun W h => hload W (later h (Nat.le_refl _) f3))) S0 ?_
              refine held_take (i := 12) (v := .int .i64 k) (some 57) rfl rfl (by kernel_rfl) (by kernel_rfl) (by kernel_rfl) (fun _ _ _ h => h) (yieldsIf_move (by kernel_rfl) rfl (by kernel_rfl)) S0 ?_
              refine held_take (i := 13) (v := .slice (some ⟨bf2, of2, none⟩) m cg) (some 58) rfl rfl (by kernel_rfl) (by kernel_rfl) (by kernel_rfl) (fun _ _ _ h => h) (yieldsIf_move (by kernel_rfl) rfl (by kernel_rfl)) S0 ?_
              refine held_take (i := 14) (v := .int .i64 (n : Int)) (some 59) rfl rfl (by kernel_rfl) (by kernel_rfl) (by kernel_rfl) (fun _ _ _ h => h) (yieldsIf_move (by kernel_rfl) rfl (by kernel_rfl)) S0 ?_
              refine held_take (i := 15) (v := .pointer (some ⟨bf2, of2 + n, none⟩)) (some 60) rfl rfl (by kernel_rfl) (by kernel_rfl) (by kernel_rfl) (fun _ _ _ h => h) (yieldsIf_index (by kernel_rfl) rfl (by kernel_rfl) (by kernel_rfl) (hidxU bf2 of2 cg hltm)) S0 ?_
              refine held_take (i := 16) (v := .slice (some ⟨bt2, ot2, none⟩) r ct2) (some 61) rfl rfl (by kernel_rfl) (by kernel_rfl) (by kernel_rfl) (fun _ _ _ h => h) (yieldsIf_cell (by kernel_rfl) rfl (by kernel_rfl) (fun W h => hloadSS W (later h (Nat.le_refl _) g1))) S0 ?_
              refine held_take (i := 17) (v := .int .i64 (i : Int)) (some 62) rfl rfl (by kernel_rfl) (by kernel_rfl) (by kernel_rfl) (fun _ _ _ h => h) (yieldsIf_move (by kernel_rfl) rfl (by kernel_rfl)) S0 ?_
              refine held_take (i := 18) (v := .pointer (some ⟨bt2, ot2 + i, none⟩)) (some 63) rfl rfl (by kernel_rfl) (by kernel_rfl) (by kernel_rfl) (fun _ _ _ h => h) (yieldsIf_index (by kernel_rfl) rfl (by kernel_rfl) (by kernel_rfl) (hidxS bt2 ot2 ct2 hlti)) S0 ?_
              refine held_take (i := 19) (v := .slice (some ⟨br2, or2, none⟩) c cr2) (some 64) rfl rfl (by kernel_rfl) (by kernel_rfl) (by kernel_rfl) (fun _ _ _ h => h) (yieldsIf_cell (by kernel_rfl) rfl (by kernel_rfl) (fun W h => hloadS W (later h (Nat.le_refl _) g2))) S0 ?_
              refine held_take (i := 20) (v := .int .i64 (q : Int)) (some 65) rfl rfl (by kernel_rfl) (by kernel_rfl) (by kernel_rfl) (fun _ _ _ h => h) (yieldsIf_move (by kernel_rfl) rfl (by kernel_rfl)) S0 ?_
              refine held_take (i := 21) (v := .pointer (some ⟨br2, or2 + q, none⟩)) (some 66) rfl rfl (by kernel_rfl) (by kernel_rfl) (by kernel_rfl) (fun _ _ _ h => h) (yieldsIf_index (by kernel_rfl) rfl (by kernel_rfl) (by kernel_rfl) (hidxI br2 or2 cr2 hltq)) S0 ?_
              refine held_take (i := 22) (v := .int .i64 y) (some 67) rfl rfl (by kernel_rfl) (by kernel_rfl) (by kernel_rfl) (fun _ _ _ h => h) (yieldsIf_cell (by kernel_rfl) rfl (by kernel_rfl) (fun W h => hload W (later h (Nat.le_refl _) g3))) S0 ?_
              refine held_take (i := 23) (v := .int .i64 (k * y)) (some 68) rfl rfl (by kernel_rfl) (by kernel_rfl) (by kernel_rfl) (fun _ _ _ h => h) (yieldsIf_bin (by kernel_rfl) rfl (by kernel_rfl) (by kernel_rfl) (fun _ => rfl) (hmulA (IntWalk.i64_in _ (by omega)))) S0 ?_
              refine held_take (i := 24) (v := .int .i64 (x + k * y)) (some 69) rfl rfl (by kernel_rfl) (by kernel_rfl) (by kernel_rfl) (fun _ _ _ h => h) (yieldsIf_bin (by kernel_rfl) rfl (by kernel_rfl) (by kernel_rfl) (fun _ => rfl) (haddA (IntWalk.i64_in _ (by omega)))) S0 ?_
              refine held_enter (i := 25) (some 70) (f := 74) (args := #[.int .i64 p, .int .i64 (x + k * y)]) (by kernel_rfl) rfl rfl rfl (by kernel_rfl) (l01Mod_any p (x + k * y) _ HPR.out) ?_ (fun c w' h => by cases h.1) (fun w' h => by cases h.1)
              rintro e5 w5 ⟨he5, hw5⟩
              injection he5 with he5
              subst he5 hw5
              refine ⟨S0, ?_⟩
              obtain ⟨we, hwe⟩ : ∃ we, we = wz.drew.alloc (.cells #[.int .i64 ((x + k * y) % p)] 2) := ⟨_, rfl⟩
              have hbe : Below wz.drew.heap.size wz.drew we := by rw [hwe]; exact below_alloc1 _ _
              have hve : we.cell? ⟨wz.drew.heap.size, 0, none⟩ = some (.int .i64 ((x + k * y) % p)) := by rw [hwe]; exact cell_new1' _ _ _
              have S1 : Below w.heap.size w we := S0.trans (hbe.mono S0.size)
              refine held_mem (i := 26) (v := .slice (some ⟨wz.drew.heap.size, 0, none⟩) 1 1) (w' := we) (some 71) (by kernel_rfl) rfl rfl rfl (by rw [hwe]; go_simp) S1 ?_
              simp only [Act.put, List.setIfInBounds_toArray, List.set_cons_zero, List.set_cons_succ]
              have HRE := Lib.hid ((HROW.out.below (Below.refl wz.heap.size wz).drew).below hbe)
              have hsz2 : wy.heap.size ≤ we.heap.size := Nat.le_trans HBZ.out.size hbe.size
              refine held_call (i := 27) (by kernel_rfl) rfl rfl ?_
              refine wp_appendB1 (some 72) rfl (.tmp 45) (.tmp 71) rfl wy.heap.size (.slice aq q cq) ((List.range q).map (afZ p k fs gs n i)) (by kernel_rfl) HRE.out wz.drew.heap.size (by kernel_rfl) ((x + k * y) % p) hve (by rw [HQL.out]; omega) hsz2 ?_
              rw [HQL.out]
              intro g9 c9 w9 hn hgw
              have hbw := (Below.refl wy.heap.size we).grown hgw hsz2 (fun g hg => (HRE.out.lt g hg).1)
              have S2 : Below w.heap.size w w9 := S1.trans (hbw.mono hwy)
              refine ⟨S2, ?_⟩
              refine held_take (i := 28) (v := .slice (some ⟨g9, 0, none⟩) (q + 1) c9) (some 13) rfl rfl (by kernel_rfl) (by kernel_rfl) (by kernel_rfl) (fun _ _ _ h => h) (yieldsIf_assign (by kernel_rfl) rfl (by kernel_rfl)) S2 ?_
              refine wpAnyH_done (by kernel_rfl) ?_ _
              simp only [Act.put, List.setIfInBounds_toArray, List.set_cons_zero, List.set_cons_succ]
              have HR9 : Hid (Gb wy.heap.size w9 (.slice (some ⟨g9, 0, none⟩) (q + 1) c9) ((List.range (q + 1)).map (afZ p k fs gs n i))) := Lib.hid (by rw [List.range_succ, List.map_append, List.map_singleton, ← HVAL.out]; exact hn)
              have HB9 : Hid (Below wy.heap.size wy w9) := Lib.hid ((HBZ.out.trans ((Below.refl wz.heap.size wz).drew.mono HBZ.out.size)).trans ((hbe.mono HBZ.out.size).trans hbw))
              clear hn hgw hbw S0 S1 S2 hve hbe hwe f1 f2 f3 g1 g2 g3 hsz2
              go_wp2
              go_roundw
              case rel => first | exact ⟨q + 1, _, _, by omega, rfl, by go_num, HB9, HR9⟩ | ((repeat apply Exists.intro); exact ⟨⟨q + 1, _, _, by omega, rfl, by go_num, HB9, HR9⟩, rfl⟩)
              case measure => simp [intOf]; omega
            · have hqc : Hid (q = c) := Lib.hid (by omega)
              have HRZ : Hid (Gb wy.heap.size wz (.slice aq q cq) ((List.range c).map (afZ p k fs gs n i))) := Lib.hid (by have := HROW.out; rw [hqc.out] at this ⊢; exact this)
              have hba : Below wz.heap.size wz (wz.alloc (.cells #[.slice aq q cq] 22)) := below_alloc1 _ _
              have HSL := Lib.hid ((HGS.out.below HBZ.out).below hba)
              have HGU := Lib.hid (HRZ.out.g1.below hba)
              have HBV := Lib.hid ((HBY.out.trans (HBZ.out.mono hxy)).trans (hba.mono (Nat.le_trans hxy HBZ.out.size)))
              have hcell := cell_alloc1 wz (.slice aq q cq) 22
              have HGN : Hid ((tableOf i (cs n) (afZ p k fs gs n)).length = i) := Lib.hid (by simp [tableOf])
              have hszv : wx.heap.size ≤ (wz.alloc (.cells #[.slice aq q cq] 22)).heap.size := HBV.out.size
              clear hba
              go_wp2_with (at_builtin; refine wpList_appendG rfl (some 76) rfl (.tmp 73) (.tmp 75) rfl wx.heap.size _ (tableOf i (cs n) (afZ p k fs gs n)) rfl HSL.out wz.heap.size rfl aq q cq hcell _ HGU.out ?c1 ?c2 ?_)
              case c1 => rw [HGN.out]; omega
              case c2 => first | exact hszv | (simp; omega) | omega
              intro v7 W7 hg7 hgr7
              have HS7 : Hid (Gs wx.heap.size W7 v7 (tableOf (i + 1) (cs n) (afZ p k fs gs n))) := Lib.hid (by
                have e : tableOf (i + 1) (cs n) (afZ p k fs gs n) = tableOf i (cs n) (afZ p k fs gs n) ++ [(List.range c).map (afZ p k fs gs n i)] := by rw [HC.out]; simp [tableOf, List.range_succ]
                rw [e]
                exact hg7)
              have HB7 : Hid (Below wx.heap.size wx W7) := Lib.hid (HBV.out.grown hgr7 hszv (fun g hg => (HSL.out.lt g hg).1))
              obtain ⟨a7, c7, hs7⟩ := Sl.shape HS7.out.l2
              rw [show (tableOf (i + 1) (cs n) (afZ p k fs gs n)).length = i + 1 by simp [tableOf]] at hs7
              subst hs7
              clear hg7 hgr7 hcell f1 f2 hszv
              go_wp2
              go_roundw
              case rel => first | exact ⟨i + 1, _, _, by omega, rfl, by go_num, HB7, HS7⟩ | ((repeat apply Exists.intro); exact ⟨⟨i + 1, _, _, by omega, rfl, by go_num, HB7, HS7⟩, rfl⟩)
              case measure => simp [intOf]; omega
        · have hir : Hid (i = r) := Lib.hid (by omega)
          have HTB : Hid (Gs wx.heap.size wy (.slice a2 i c2) (tableOf (rs n) (cs n) (afZ p k fs gs n))) := Lib.hid (by have := HGS.out; rw [← HR.out]; rw [hir.out] at this ⊢; exact this)
          have hba : Below wy.heap.size wy (wy.alloc (.cells #[.slice a2 i c2] 48)) := below_alloc1 _ _
          have HGL := Lib.hid ((HGT.out.below HBY.out).below hba)
          have HGU : Hid (Gs 0 (wy.alloc (.cells #[.slice a2 i c2] 48)) (.slice a2 i c2) (tableOf (rs n) (cs n) (afZ p k fs gs n))) := Lib.hid ((HTB.out.below hba).mono (Nat.zero_le _))
          have HBZ := Lib.hid (HBW.out.trans (hba.mono HBW.out.size))
          have hcell := cell_alloc1 wy (.slice a2 i c2) 48
          have HGN : Hid ((famL n rs cs (afZ p k fs gs)).length = n) := Lib.hid (famL_length _ _ _ _)
          have hszv : w.heap.size ≤ (wy.alloc (.cells #[.slice a2 i c2] 48)).heap.size := HBZ.out.size
          clear hba HGS HTB
          go_wp2_with (at_builtin; refine wpList_appendT3 rfl (some 80) rfl (.tmp 77) (.tmp 79) rfl w.heap.size _ (famL n rs cs (afZ p k fs gs)) rfl HGL.out wy.heap.size rfl a2 i c2 hcell _ HGU.out ?c1 ?c2 ?_)
          case c1 => rw [HGN.out]; omega
          case c2 => first | exact hszv | (simp; omega) | omega
          intro v7 W7 hg7 hgr7
          have HG7 : Hid (Gt w.heap.size W7 v7 (famL (n + 1) rs cs (afZ p k fs gs))) := Lib.hid (by rw [famL_succ]; exact hg7)
          have HB7 : Hid (Below w.heap.size w W7) := Lib.hid (HBZ.out.grown hgr7 hszv (fun g hg => (HGL.out.lt g hg).1))
          obtain ⟨a7, c7, hs7⟩ := Sl.shape HG7.out.l3
          rw [famL_length] at hs7
          subst hs7
          clear hg7 hgr7 hcell f1 hszv
          go_wp2
          go_roundw
          case rel => first | exact ⟨n + 1, _, _, by omega, rfl, by go_num, HB7, HG7⟩ | ((repeat apply Exists.intro); exact ⟨⟨n + 1, _, _, by omega, rfl, by go_num, HB7, HG7⟩, rfl⟩)
          case measure => simp [intOf]; omega
    · have HKE : Hid (n = m) := Lib.hid (by omega)
      go_wp2
      go_ret
      refine ⟨_, rfl, ?_, HB.out⟩
      have := HGT.out
      rw [HKE.out] at this ⊢
      exact this
end Go.Proofs.YtpchbceohnabnabDoor


namespace Go.Proofs.YtpchbceohnabnabDoor
open Go.RowKit

open Classical in
/-- The code of two complexes and two families between them. -/
noncomputable def famCode2 (p p2 s : Int) (ds : List Int) (ms : List (List (List Int))) (ds2 : List Int) (ms2 : List (List (List Int))) (fs gs : List (List (List Int))) : Int :=
  if endCode p p2 ds ms ds2 ms2 = 0 then (if FamOk p ds ds2 s fs ∧ FamOk p ds ds2 s gs then 0 else 2) else endCode p p2 ds ms ds2 ms2
theorem famCode2_zero {p p2 s : Int} {ds : List Int} {ms : List (List (List Int))} {ds2 : List Int} {ms2 : List (List (List Int))} {fs gs : List (List (List Int))} (h : famCode2 p p2 s ds ms ds2 ms2 fs gs = 0) : EndOk p p2 ds ms ds2 ms2 ∧ FamOk p ds ds2 s fs ∧ FamOk p ds ds2 s gs := by
  unfold famCode2 at h
  by_cases h1 : endCode p p2 ds ms ds2 ms2 = 0
  · rw [if_pos h1] at h
    by_cases h2 : FamOk p ds ds2 s fs ∧ FamOk p ds ds2 s gs
    · exact ⟨endCode_zero h1, h2.1, h2.2⟩
    · rw [if_neg h2] at h
      cases h
  · rw [if_neg h1] at h
    exact absurd h h1

set_option maxHeartbeats 6400000 in
set_option maxRecDepth 100000 in
theorem checkFamilies2_any (p p2 s : Int) (b : Nat) (dv mv dv2 mv2 fv gv : Value) (ds : List Int) (ms : List (List (List Int))) (ds2 : List Int) (ms2 : List (List (List Int))) (fs gs : List (List (List Int))) (w : World) (h : Cx 0 w dv mv ds ms) (h2 : Cx 0 w dv2 mv2 ds2 ms2) (hf : L3 0 w fv fs) (hg : L3 0 w gv gs) (hr : w.cell? ⟨b, 0, none⟩ = some fv) (hrg : w.cell? ⟨b, 1, none⟩ = some gv) (hs : -1 ≤ s ∧ s ≤ 1) (hd : ds.length ≤ 1048576) (hm : Bd3 1048576 ms) (hd2 : ds2.length ≤ 1048576) (hm2 : Bd3 1048576 ms2) (hmf : Bd3 1048576 fs) (hmg : Bd3 1048576 gs) :
    Calls Tryd.prog 36 #[.agg #[.int .i64 p, dv, mv], .agg #[.int .i64 p2, dv2, mv2], .int .i64 s, .slice (some ⟨b, 0, none⟩) 2 2] w (BR (.int .i64 (famCode2 p p2 s ds ms ds2 ms2 fs gs)) w) := by
  obtain ⟨ad, cap, rfl⟩ := Sl.shape h.dims
  obtain ⟨am, capm, rfl⟩ := Sl.shape h.maps
  obtain ⟨ad2, cap2, rfl⟩ := Sl.shape h2.dims
  obtain ⟨am2, capm2, rfl⟩ := Sl.shape h2.maps
  obtain ⟨af, cf, rfl⟩ := Sl.shape hf
  obtain ⟨ag, cg, rfl⟩ := Sl.shape hg
  obtain ⟨k1, k2⟩ := bx_two (p := p) (p2 := p2) 30 h h2
  have HX0 := Lib.hid k1
  have HY0 := Lib.hid k2
  obtain ⟨w1, hw1⟩ : ∃ w1, w1 = ((w.alloc (.cells #[.int .i64 p, .slice ad ds.length cap, .slice am ms.length capm] 30)).alloc (.cells #[.int .i64 p2, .slice ad2 ds2.length cap2, .slice am2 ms2.length capm2] 30)) := ⟨_, rfl⟩
  rw [← hw1] at HX0 HY0
  have hb01 : Below w.heap.size w w1 := HX0.out.below
  have HF0 := Lib.hid (hf.below hb01)
  have HG0 := Lib.hid (hg.below hb01)
  have HMG := Lib.hid hmg
  have HR1g := Lib.hid (later hb01 (Nat.le_refl _) hrg)
  have HNX : Hid (∀ W, Below w1.heap.size w1 W → Bx w W w.heap.size p (.slice ad ds.length cap) (.slice am ms.length capm) ds ms) := Lib.hid (fun W h => HX0.out.next h)
  have HNY : Hid (∀ W, Below w1.heap.size w1 W → Bx w W (w.heap.size + 1) p2 (.slice ad2 ds2.length cap2) (.slice am2 ms2.length capm2) ds2 ms2) := Lib.hid (fun W h => HY0.out.next h)
  have HMF := Lib.hid hmf
  have HS := Lib.hid hs
  have HR1 := Lib.hid (later hb01 (Nat.le_refl _) hr)
  have c0 := HX0.out.c0
  have c1 := HX0.out.c1
  have c2 := HX0.out.c2
  have d0 := HY0.out.c0
  have d1 := HY0.out.c1
  have d2 := HY0.out.c2
  obtain ⟨w2, hw2⟩ : ∃ w2, w2 = w1.alloc (.cells #[.int .i64 p, .slice ad ds.length cap, .slice am ms.length capm, .int .i64 p2, .slice ad2 ds2.length cap2, .slice am2 ms2.length capm2] 30) := ⟨_, rfl⟩
  have hr2 : Row2 w2 w1.heap.size p p2 (.slice ad ds.length cap) (.slice am ms.length capm) (.slice ad2 ds2.length cap2) (.slice am2 ms2.length capm2) := by
    rw [hw2]
    exact ⟨by simp, by simp, by simp, by simp, by simp, by simp⟩
  have hb2 : Below w1.heap.size w1 w2 := by rw [hw2]; exact below_alloc1 _ _
  have HB2 := Lib.hid hb2
  have HCK := Lib.hid (checkEnds2_any p p2 w1.heap.size _ _ _ _ ds ms ds2 ms2 w2 hr2 (HNX.out _ hb2).cx (HNY.out _ hb2).cx hd hm hd2 hm2)
  obtain ⟨ec, hec⟩ : ∃ ec, ec = endCode p p2 ds ms ds2 ms2 := ⟨_, rfl⟩
  rw [← hec] at HCK
  have HEC := Lib.hid hec
  clear h h2 hf hg hm hm2 hmf hmg k1 k2 hr hrg hr2 hb2 hb01 hec hs
  go_enter Tryd.func36, Tryd.ntmps36
  go_upto_region 1 with fail
  rw [← hw1]
  clear hw1
  go_wp2_with fail
  rw [← hw2]
  clear hw2
  refine HCK.out.mono ?_
  rintro e w3 ⟨rfl, hb3⟩
  have HB3 := Lib.hid (HB2.out.trans (hb3.mono HB2.out.size))
  have HX3 := Lib.hid (HNX.out _ HB3.out)
  have HY3 := Lib.hid (HNY.out _ HB3.out)
  clear hb3 c0 c1 c2 d0 d1 d2 HX0 HY0 HCK HB2
  by_cases h0 : ec = 0
  · subst h0
    have hE := endCode_zero HEC.out.symm
    have hIF := isFamily_any p p2 s _ _ _ _ _ ds ms ds2 ms2 fs w3 HX3.out.cx HY3.out.cx (HF0.out.below HB3.out) hE.x hE.y HS.out HMF.out
    have HIF := Lib.hid hIF
    have c0 := HX3.out.c0
    have c1 := HX3.out.c1
    have c2 := HX3.out.c2
    have d0 := HY3.out.c0
    have d1 := HY3.out.c1
    have d2 := HY3.out.c2
    have hr3 := later HB3.out (Nat.le_refl _) HR1.out
    have HE := Lib.hid hE
    clear hE hIF
    go_wp2
    refine wp_loop_rounds 3 ?_
    rw [rounds_succ]
    go_wp2_with fail
    refine HIF.out.mono ?_
    rintro e w4 ⟨bb, rfl, hb4, hbb⟩
    have HX4 := Lib.hid (HX3.out.next hb4)
    have HY4 := Lib.hid (HY3.out.next hb4)
    have HB4 := Lib.hid (HB3.out.trans (hb4.mono HB3.out.size))
    clear hb4 c0 c1 c2 d0 d1 d2 hr3 HIF
    by_cases hT : FamOk p ds ds2 s fs
    · obtain rfl : bb = true := hbb.2 hT
      have HT := Lib.hid hT
      have c0 := HX4.out.c0
      have c1 := HX4.out.c1
      have c2 := HX4.out.c2
      have d0 := HY4.out.c0
      have d1 := HY4.out.c1
      have d2 := HY4.out.c2
      have hr4 := later HB4.out (Nat.le_refl _) HR1g.out
      have HIG := Lib.hid (isFamily_any p p2 s _ _ _ _ _ ds ms ds2 ms2 gs w4 HX4.out.cx HY4.out.cx (HG0.out.below HB4.out) HE.out.x HE.out.y HS.out HMG.out)
      clear hT hbb
      go_wp2
      rw [rounds_succ]
      go_wp2_with fail
      refine HIG.out.mono ?_
      rintro e w5 ⟨bb, rfl, hb5, hbb⟩
      have HB5 := Lib.hid (HX4.out.next hb5).below
      clear hb5 c0 c1 c2 d0 d1 d2 hr4 HIG
      by_cases hG : FamOk p ds ds2 s gs
      · obtain rfl : bb = true := hbb.2 hG
        have HG := Lib.hid hG
        clear hG hbb
        go_wp2
        rw [rounds_succ]
        go_wp2
        go_ret
        exact ⟨ret_int (by unfold famCode2; rw [if_pos HEC.out.symm, if_pos ⟨HT.out, HG.out⟩]), HB5.out⟩
      · obtain rfl : bb = false := bb_no hbb hG
        have HG := Lib.hid hG
        clear hG hbb
        go_wp2
        go_ret
        exact ⟨ret_int (by unfold famCode2; rw [if_pos HEC.out.symm, if_neg (fun h => HG.out h.2)]), HB5.out⟩
    · obtain rfl : bb = false := bb_no hbb hT
      have HT := Lib.hid hT
      clear hT hbb
      go_wp2
      go_ret
      exact ⟨ret_int (by unfold famCode2; rw [if_pos HEC.out.symm, if_neg (fun h => HT.out h.1)]), HX4.out.below⟩
  · have hne2 : (ec != 0) = true := by simp [h0]
    have hne3 : (ec == 0) = false := by simp [h0]
    have HNE := Lib.hid h0
    clear h0
    go_wp2
    go_ret
    exact ⟨ret_int (by unfold famCode2; rw [← HEC.out, if_neg HNE.out]), HX3.out.below⟩
end Go.Proofs.YtpchbceohnabnabDoor


namespace Go.Proofs.YtpchbceohnabnabDoor
open Go.RowKit

set_option maxHeartbeats 6400000 in
set_option maxRecDepth 100000 in
theorem l04Code2_any (p p2 : Int) (b : Nat) (dv mv dv2 mv2 fv gv : Value) (ds : List Int) (ms : List (List (List Int))) (ds2 : List Int) (ms2 : List (List (List Int))) (fs gs : List (List (List Int))) (w : World) (h : Cx 0 w dv mv ds ms) (h2 : Cx 0 w dv2 mv2 ds2 ms2) (hf : L3 0 w fv fs) (hg : L3 0 w gv gs) (hr : w.cell? ⟨b, 0, none⟩ = some fv) (hrg : w.cell? ⟨b, 1, none⟩ = some gv) (hd : ds.length ≤ 1048576) (hm : Bd3 1048576 ms) (hd2 : ds2.length ≤ 1048576) (hm2 : Bd3 1048576 ms2) (hmf : Bd3 1048576 fs) (hmg : Bd3 1048576 gs) :
    Calls Tryd.prog 32 #[.agg #[.int .i64 p, dv, mv], .agg #[.int .i64 p2, dv2, mv2], .slice (some ⟨b, 0, none⟩) 2 2] w (BR (.int .i64 (famCode2 p p2 0 ds ms ds2 ms2 fs gs)) w) := by
  obtain ⟨ad, cap, rfl⟩ := Sl.shape h.dims
  obtain ⟨am, capm, rfl⟩ := Sl.shape h.maps
  obtain ⟨ad2, cap2, rfl⟩ := Sl.shape h2.dims
  obtain ⟨am2, capm2, rfl⟩ := Sl.shape h2.maps
  obtain ⟨af, cf, rfl⟩ := Sl.shape hf
  obtain ⟨ag, cg, rfl⟩ := Sl.shape hg
  obtain ⟨k1, k2⟩ := bx_two (p := p) (p2 := p2) 30 h h2
  have HX0 := Lib.hid k1
  have HY0 := Lib.hid k2
  obtain ⟨w1, hw1⟩ : ∃ w1, w1 = ((w.alloc (.cells #[.int .i64 p, .slice ad ds.length cap, .slice am ms.length capm] 30)).alloc (.cells #[.int .i64 p2, .slice ad2 ds2.length cap2, .slice am2 ms2.length capm2] 30)) := ⟨_, rfl⟩
  rw [← hw1] at HX0 HY0
  have hb01 : Below w.heap.size w w1 := HX0.out.below
  have HF0 := Lib.hid (hf.below hb01)
  have HG0 := Lib.hid (hg.below hb01)
  have HMG := Lib.hid hmg
  have HR1g := Lib.hid (later hb01 (Nat.le_refl _) hrg)
  have HNX : Hid (∀ W, Below w1.heap.size w1 W → Bx w W w.heap.size p (.slice ad ds.length cap) (.slice am ms.length capm) ds ms) := Lib.hid (fun W h => HX0.out.next h)
  have HNY : Hid (∀ W, Below w1.heap.size w1 W → Bx w W (w.heap.size + 1) p2 (.slice ad2 ds2.length cap2) (.slice am2 ms2.length capm2) ds2 ms2) := Lib.hid (fun W h => HY0.out.next h)
  have HMF := Lib.hid hmf
  have HR1 := Lib.hid (later hb01 (Nat.le_refl _) hr)
  have c0 := HX0.out.c0
  have c1 := HX0.out.c1
  have c2 := HX0.out.c2
  have d0 := HY0.out.c0
  have d1 := HY0.out.c1
  have d2 := HY0.out.c2
  have HCK := Lib.hid (l04Two_any p p2 _ _ _ _ ds ms ds2 ms2 w1 HX0.out.cx HY0.out.cx hd hm hd2 hm2)
  obtain ⟨ec, hec⟩ : ∃ ec, ec = endCode p p2 ds ms ds2 ms2 := ⟨_, rfl⟩
  rw [← hec] at HCK
  have HEC := Lib.hid hec
  clear h h2 hf hg hm hm2 hmf hmg k1 k2 hr hrg hb01 hec
  go_enter Tryd.func32, Tryd.ntmps32
  go_upto_region 1 with fail
  rw [← hw1]
  clear hw1
  go_wp2_with fail
  refine HCK.out.mono ?_
  rintro e w3 ⟨rfl, hb3⟩
  have HB3 := Lib.hid hb3
  have HX3 := Lib.hid (HNX.out _ HB3.out)
  have HY3 := Lib.hid (HNY.out _ HB3.out)
  clear hb3 c0 c1 c2 d0 d1 d2 HX0 HY0 HCK
  by_cases h0 : ec = 0
  · subst h0
    have hE := endCode_zero HEC.out.symm
    have HE := Lib.hid hE
    have c0 := HX3.out.c0
    have c1 := HX3.out.c1
    have c2 := HX3.out.c2
    have d0 := HY3.out.c0
    have d1 := HY3.out.c1
    have d2 := HY3.out.c2
    have hr3 := later HB3.out (Nat.le_refl _) HR1.out
    have HSP : Hid (∀ W, Below w3.heap.size w3 W → W.cell? ⟨b, 0, none⟩ = some (.slice af fs.length cf) ∧ W.cell? ⟨w.heap.size, 0, none⟩ = some (.int .i64 p) ∧ W.cell? ⟨w.heap.size, 1, none⟩ = some (.slice ad ds.length cap) ∧ W.cell? ⟨w.heap.size, 2, none⟩ = some (.slice am ms.length capm) ∧ W.cell? ⟨w.heap.size + 1, 0, none⟩ = some (.int .i64 p2) ∧ W.cell? ⟨w.heap.size + 1, 1, none⟩ = some (.slice ad2 ds2.length cap2) ∧ W.cell? ⟨w.heap.size + 1, 2, none⟩ = some (.slice am2 ms2.length capm2)) := Lib.hid (fun W h => ⟨later h (Nat.le_refl _) hr3, later h (Nat.le_refl _) c0, later h (Nat.le_refl _) c1, later h (Nat.le_refl _) c2, later h (Nat.le_refl _) d0, later h (Nat.le_refl _) d1, later h (Nat.le_refl _) d2⟩)
    have HDD : Hid (Below w3.heap.size w3 w3.drew) := Lib.hid (Below.refl _ _).drew
    have HIF : Hid (∀ W, Below w3.heap.size w3 W → Calls Tryd.prog 56 #[.agg #[.int .i64 p, .slice ad ds.length cap, .slice am ms.length capm], .agg #[.int .i64 p2, .slice ad2 ds2.length cap2, .slice am2 ms2.length capm2], .slice af fs.length cf, .int .i64 0] W (BB (FamOk p ds ds2 0 fs) W)) := Lib.hid (fun W h => l04Family_any p p2 0 _ _ _ _ _ ds ms ds2 ms2 fs W (HX3.out.next h).cx (HY3.out.next h).cx (HF0.out.below (HB3.out.trans (h.mono HB3.out.size))) HE.out.x HE.out.y ⟨by omega, by omega⟩ HMF.out)
    have hr3g := later HB3.out (Nat.le_refl _) HR1g.out
    have HSPG : Hid (∀ W, Below w3.heap.size w3 W → W.cell? ⟨b, 1, none⟩ = some (.slice ag gs.length cg) ∧ W.cell? ⟨w.heap.size, 0, none⟩ = some (.int .i64 p) ∧ W.cell? ⟨w.heap.size, 1, none⟩ = some (.slice ad ds.length cap) ∧ W.cell? ⟨w.heap.size, 2, none⟩ = some (.slice am ms.length capm) ∧ W.cell? ⟨w.heap.size + 1, 0, none⟩ = some (.int .i64 p2) ∧ W.cell? ⟨w.heap.size + 1, 1, none⟩ = some (.slice ad2 ds2.length cap2) ∧ W.cell? ⟨w.heap.size + 1, 2, none⟩ = some (.slice am2 ms2.length capm2)) := Lib.hid (fun W h => ⟨later h (Nat.le_refl _) hr3g, later h (Nat.le_refl _) c0, later h (Nat.le_refl _) c1, later h (Nat.le_refl _) c2, later h (Nat.le_refl _) d0, later h (Nat.le_refl _) d1, later h (Nat.le_refl _) d2⟩)
    have HIG : Hid (∀ W, Below w3.heap.size w3 W → Calls Tryd.prog 56 #[.agg #[.int .i64 p, .slice ad ds.length cap, .slice am ms.length capm], .agg #[.int .i64 p2, .slice ad2 ds2.length cap2, .slice am2 ms2.length capm2], .slice ag gs.length cg, .int .i64 0] W (BB (FamOk p ds ds2 0 gs) W)) := Lib.hid (fun W h => l04Family_any p p2 0 _ _ _ _ _ ds ms ds2 ms2 gs W (HX3.out.next h).cx (HY3.out.next h).cx (HG0.out.below (HB3.out.trans (h.mono HB3.out.size))) HE.out.x HE.out.y ⟨by omega, by omega⟩ HMG.out)
    clear hE hr3g
    go_wp2
    refine wp_loop_rounds 3 ?_
    rw [rounds_succ]
    go_wp2
    go_region_held3 (fun W => W.cell? ⟨b, 0, none⟩ = some (.slice af fs.length cf) ∧ W.cell? ⟨w.heap.size, 0, none⟩ = some (.int .i64 p) ∧ W.cell? ⟨w.heap.size, 1, none⟩ = some (.slice ad ds.length cap) ∧ W.cell? ⟨w.heap.size, 2, none⟩ = some (.slice am ms.length capm) ∧ W.cell? ⟨w.heap.size + 1, 0, none⟩ = some (.int .i64 p2) ∧ W.cell? ⟨w.heap.size + 1, 1, none⟩ = some (.slice ad2 ds2.length cap2) ∧ W.cell? ⟨w.heap.size + 1, 2, none⟩ = some (.slice am2 ms2.length capm2))
      (first | exact HSP.out _ (Below.refl _ _) | exact HSP.out _ HDD.out | exact HSP.out _ HB4.out | go_keep)
      ((go_at_call 56; (with_reducible refine (HIF.out _ HDD.out).mono ?_); rintro e w4 ⟨bb, rfl, hb4, hbb⟩; have HB4 : Hid (Below w3.heap.size w3 w4) := Lib.hid (HDD.out.trans hb4); have HBB := Lib.hid hbb; clear hb4 hbb))
    have HBZ := Lib.hid (HX3.out.next HB4.out).below
    clear c0 c1 c2 d0 d1 d2 hr3 HIF HSP
    have hbb := HBB.out
    clear HBB
    by_cases hT : FamOk p ds ds2 0 fs
    · obtain rfl : bb = true := hbb.2 hT
      have HT := Lib.hid hT
      have HD4 : Hid (Below w3.heap.size w3 w4.drew) := Lib.hid HB4.out.drew
      have hs4 : w3.heap.size ≤ w4.heap.size := HB4.out.size
      obtain ⟨g0, c0, c1, c2, d0, d1, d2⟩ := HSPG.out _ HB4.out
      clear hT hbb
      go_wp2
      rw [rounds_succ]
      go_wp2
      go_region_held3 (fun W => W.cell? ⟨b, 1, none⟩ = some (.slice ag gs.length cg) ∧ W.cell? ⟨w.heap.size, 0, none⟩ = some (.int .i64 p) ∧ W.cell? ⟨w.heap.size, 1, none⟩ = some (.slice ad ds.length cap) ∧ W.cell? ⟨w.heap.size, 2, none⟩ = some (.slice am ms.length capm) ∧ W.cell? ⟨w.heap.size + 1, 0, none⟩ = some (.int .i64 p2) ∧ W.cell? ⟨w.heap.size + 1, 1, none⟩ = some (.slice ad2 ds2.length cap2) ∧ W.cell? ⟨w.heap.size + 1, 2, none⟩ = some (.slice am2 ms2.length capm2))
        (first | exact HSPG.out _ HB4.out | exact HSPG.out _ HD4.out | exact HSPG.out _ HB5.out | go_keep)
        ((go_at_call 56; (with_reducible refine (HIG.out _ HD4.out).mono ?_); rintro e w5 ⟨bb, rfl, hb5, hbb⟩; have HB5 : Hid (Below w3.heap.size w3 w5) := Lib.hid (HD4.out.trans (hb5.mono hs4)); have HBB := Lib.hid hbb; clear hb5 hbb))
      have HBY := Lib.hid (HX3.out.next HB5.out).below
      clear g0 c0 c1 c2 d0 d1 d2 HIG HSPG HB5 HB4
      have hbb := HBB.out
      by_cases hG : FamOk p ds ds2 0 gs
      · obtain rfl : bb = true := hbb.2 hG
        have HG := Lib.hid hG
        clear hG hbb
        go_wp2
        rw [rounds_succ]
        go_wp2
        go_ret
        exact ⟨ret_int (by unfold famCode2; rw [if_pos HEC.out.symm, if_pos ⟨HT.out, HG.out⟩]), HBY.out⟩
      · obtain rfl : bb = false := bb_no hbb hG
        have HG := Lib.hid hG
        clear hG hbb
        go_wp2
        go_ret
        exact ⟨ret_int (by unfold famCode2; rw [if_pos HEC.out.symm, if_neg (fun h => HG.out h.2)]), HBY.out⟩
    · obtain rfl : bb = false := bb_no hbb hT
      have HT := Lib.hid hT
      clear hT hbb
      go_wp2
      go_ret
      exact ⟨ret_int (by unfold famCode2; rw [if_pos HEC.out.symm, if_neg (fun h => HT.out h.1)]), HBZ.out⟩
  · have hne2 : (ec != 0) = true := by simp [h0]
    have hne3 : (ec == 0) = false := by simp [h0]
    have HNE := Lib.hid h0
    clear h0
    go_wp2
    go_ret
    exact ⟨ret_int (by unfold famCode2; rw [← HEC.out, if_neg HNE.out]), HX3.out.below⟩
end Go.Proofs.YtpchbceohnabnabDoor


namespace Go.Proofs.YtpchbceohnabnabDoor
open Go.RowKit

theorem fam_fs6 {p : Int} {ds : List Int} {ms : List (List (List Int))} {ds2 : List Int} {ms2 fs : List (List (List Int))} (hcx : IsCx p ds ms) (hcy : IsCx p ds2 ms2) (hF : FamOk p ds ds2 0 fs) : Fs6 ds.length (rsF ds) (csF ds2 0) fs := by
  have hr : ∀ n, n < ds.length → ∀ i, i < rsF ds n → n < fs.length ∧ TabOk p (rsF ds n : Int) (csF ds2 0 n : Int) (fs.getD n []) ∧ i < (fs.getD n []).length ∧ RowOk p (csF ds2 0 n : Int) ((fs.getD n []).getD i []) := fun n hn i hi => fam_row hF hn hi (hcx.1.dim n).1 (dimZ_8 hcy ((n : Int) + 0)).1
  refine ⟨hF.1, fun n hn => ?_, fun n hn i hi => ?_, fun n hn i hi q hq => ?_⟩
  · have hl : n < fs.length := by have := hF.1; omega
    have ht := (hF.2 n hl).1
    have := (hcx.1.dim n).1
    simp only [rsF]
    omega
  · have := (hr n hn i hi).2.2.2.1
    omega
  · obtain ⟨_, _, _, h4⟩ := hr n hn i hi
    have hl : q < ((fs.getD n []).getD i []).length := by have := h4.1; omega
    rw [getD_of_lt 0 hl]
    have := h4.2 _ (List.getElem_mem hl)
    have := hcx.1.prime.hi
    omega

end Go.Proofs.YtpchbceohnabnabDoor


namespace Go.Proofs.YtpchbceohnabnabDoor
open Go.RowKit

def two2 (fs gs : List (List (List Int))) (j : Nat) : List (List (List Int)) := if j = 0 then fs else gs
theorem famsAt_two {w : World} {b : Nat} {v u : Value} {fs gs : List (List (List Int))} (h : w.cell? ⟨b, 0, none⟩ = some v) (h2 : w.cell? ⟨b, 1, none⟩ = some u) (hl : L3 0 w v fs) (hl2 : L3 0 w u gs) : FamsAt w b 2 (two2 fs gs) := fun j hj => by
  match j, hj with
  | 0, _ => exact ⟨v, h, hl⟩
  | 1, _ => exact ⟨u, h2, hl2⟩
section
variable {p p2 : Int} {ds : List Int} {ms : List (List (List Int))} {ds2 : List Int} {ms2 fs gs : List (List (List Int))}
theorem two2_ok {s : Int} (h : FamOk p ds ds2 s fs) (h2 : FamOk p ds ds2 s gs) {j : Nat} : FamOk p ds ds2 s (two2 fs gs j) := by
  unfold two2
  by_cases e : j = 0
  · rw [if_pos e]; exact h
  · rw [if_neg e]; exact h2
/-- The difference of two families. -/
def difF (p : Int) (ds ds2 : List Int) (fs gs : List (List (List Int))) : List (List (List Int)) := famL ds.length (rsF ds) (csF ds2 0) (afZ p (p - 1) fs gs)
/-- The answers of AreHomotopic. -/
def AhS (p p2 : Int) (ds : List Int) (ms : List (List (List Int))) (ds2 : List Int) (ms2 fs gs : List (List (List Int))) (b : Bool) (c : Int) : Prop := c = mapCode (famCode2 p p2 0 ds ms ds2 ms2 fs gs) (AllCh p ds ms ds2 ms2 2 (two2 fs gs)) ∧ (b = true ↔ mapCode (famCode2 p p2 0 ds ms ds2 ms2 fs gs) (AllCh p ds ms ds2 ms2 2 (two2 fs gs)) = 0 ∧ ∀ n, n < ds.length → RkInd p ds ms ds2 ms2 (difF p ds ds2 fs gs) n 0)
theorem AhS.unique {b b2 : Bool} {c c2 : Int} (h : AhS p p2 ds ms ds2 ms2 fs gs b c) (k : AhS p p2 ds ms ds2 ms2 fs gs b2 c2) : b = b2 ∧ c = c2 := ⟨Bool.eq_iff_iff.2 (h.2.trans k.2.symm), h.1.trans k.1.symm⟩
end

end Go.Proofs.YtpchbceohnabnabDoor


namespace Go.Proofs.YtpchbceohnabnabDoor
open Go.RowKit

section
variable {p : Int} {ds ds2 : List Int} {ms ms2 fs gs hs : List (List (List Int))}
/-- The differential of what the homotopy makes of a basis vector. -/
def hoA (p : Int) (ds2 : List Int) (ms2 hs : List (List (List Int))) (n i : Nat) : List Int := apT p (csF ds2 0 n) ((hs.getD n []).getD i []) ((dfL ds2 ms2).getD (n + 1) [])
/-- What the homotopy makes of the differential of a basis vector. -/
def hoB (p : Int) (ds : List Int) (ms : List (List (List Int))) (ds2 : List Int) (hs : List (List (List Int))) (n i : Nat) : List Int := apT p (csF ds2 0 n) (((dfL ds ms).getD n []).getD i []) (prevT hs n)
def hoS (p : Int) (ds : List Int) (ms : List (List (List Int))) (ds2 : List Int) (ms2 hs : List (List (List Int))) (n i : Nat) : List Int := (List.range (csF ds2 0 n)).map fun q => ((hoA p ds2 ms2 hs n i).getD q 0 + (hoB p ds ms ds2 hs n i).getD q 0) % p
def HomOk (p : Int) (ds : List Int) (ms : List (List (List Int))) (ds2 : List Int) (ms2 fs gs hs : List (List (List Int))) : Prop := ∀ n, n < ds.length → ∀ i, i < rsF ds n → hoS p ds ms ds2 ms2 hs n i = (List.range (csF ds2 0 n)).map (afZ p (-1) fs gs n i)
def hoZ (p : Int) (ds : List Int) (ms : List (List (List Int))) (ds2 : List Int) (ms2 fs gs hs : List (List (List Int))) (n i q : Nat) : Int :=
  ((((0 + 1 * ((fs.getD n []).getD i []).getD q 0) % p + (p - 1) * ((gs.getD n []).getD i []).getD q 0) % p + (p - 1) * (hoA p ds2 ms2 hs n i).getD q 0) % p + (p - 1) * (hoB p ds ms ds2 hs n i).getD q 0) % p
theorem hoB_ok (hcx : PreOk p ds ms) (hcy : PreOk p ds2 ms2) (hH : FamOk p ds ds2 1 hs) {n i : Nat} (hn : n < ds.length) (hi : i < rsF ds n) : ApOk p (csF ds2 0 n) (((dfL ds ms).getD n []).getD i []) (prevT hs n) := by
  obtain ⟨h1, h3, h4, h5⟩ := fam_row (dfL_fam hcx) hn hi (hcx.dim n).1 (hcx.dsOk.dimZ ((n : Int) + (-1))).1
  have hz := hcy.dsOk.dimZ ((n : Int) + 0)
  by_cases h0 : n = 0
  · subst h0
    have e : csF ds (-1) 0 = 0 := by simp only [csF]; rw [dimZ_neg (by omega)]; rfl
    rw [e] at h5
    have e2 : ((dfL ds ms).getD 0 []).getD i [] = [] := List.eq_nil_of_length_eq_zero (by have := h5.1; omega)
    rw [e2]
    exact ⟨hcx.prime, by simp, by simp, by simp [prevT]⟩
  · have hn1 : n - 1 < ds.length := by omega
    have e1 : ((n - 1 : Nat) : Int) = (n : Int) + (-1) := by omega
    have hd : (csF ds (-1) n : Int) = ds.getD (n - 1) 0 := by
      have := hcx.dsOk.dimZ ((n : Int) + (-1))
      have e3 : dimZ ds ((n : Int) + (-1)) = ds.getD (n - 1) 0 := by
        rw [← e1, dimZ_in rfl hn1, ← getD_of_lt 0 hn1]
      simp only [csF]
      omega
    rw [hd] at h5
    have := (fam_ap (c2 := csF ds2 0 n) hcx.prime hH hn1 h5 (by rw [show ((n - 1 : Nat) : Int) + 1 = (n : Int) + 0 by omega]; simp only [csF]; omega)).1
    unfold prevT
    rw [if_neg h0]
    exact this
theorem hoA_row (hcx : PreOk p ds ms) (hcy : PreOk p ds2 ms2) (hH : FamOk p ds ds2 1 hs) {n i : Nat} (hn : n < ds.length) (hi : i < rsF ds n) : RowOk p (csF ds2 1 n : Int) ((hs.getD n []).getD i []) :=
  (fam_row hH hn hi (hcx.dim n).1 (hcy.dsOk.dimZ ((n : Int) + 1)).1).2.2.2
theorem hoA_nil (hcx : PreOk p ds ms) (hcy : PreOk p ds2 ms2) (hH : FamOk p ds ds2 1 hs) {n i : Nat} (hn : n < ds.length) (hi : i < rsF ds n) (hx : ¬ n + 1 < ds2.length) : (hs.getD n []).getD i [] = [] ∧ (dfL ds2 ms2).getD (n + 1) [] = [] := by
  have h4 := hoA_row hcx hcy hH hn hi
  have e : csF ds2 1 n = 0 := by simp only [csF]; rw [dimZ_out (by omega)]; rfl
  rw [e] at h4
  refine ⟨List.eq_nil_of_length_eq_zero (by have := h4.1; omega), ?_⟩
  have : ¬ n + 1 < (dfL ds2 ms2).length := by rw [dfL_len]; exact hx
  simp [List.getD, List.getElem?_eq_none (Nat.le_of_not_lt this)]
theorem hoA_ok (hcx : PreOk p ds ms) (hcy : PreOk p ds2 ms2) (hH : FamOk p ds ds2 1 hs) {n i : Nat} (hn : n < ds.length) (hi : i < rsF ds n) : ApOk p (csF ds2 0 n) ((hs.getD n []).getD i []) ((dfL ds2 ms2).getD (n + 1) []) := by
  have h4 := hoA_row hcx hcy hH hn hi
  have hy := hcy.dsOk.dimZ ((n : Int) + 1)
  have hz := hcy.dsOk.dimZ ((n : Int) + 0)
  by_cases hx : n + 1 < ds2.length
  · have e2 : (csF ds2 1 n : Int) = ds2.getD (n + 1) 0 := by
      have hd : dimZ ds2 ((n : Int) + 1) = ds2.getD (n + 1) 0 := by
        rw [dimZ_in (k := n + 1) (by omega) hx, ← getD_of_lt 0 hx]
      simp only [csF]
      omega
    rw [e2] at h4
    exact (fam_ap (c2 := csF ds2 0 n) hcy.prime (dfL_fam hcy) hx h4 (by rw [show ((n + 1 : Nat) : Int) + (-1) = (n : Int) + 0 by omega]; simp only [csF]; omega)).1
  · obtain ⟨e1, e2⟩ := hoA_nil (ms := ms) (ms2 := ms2) hcx hcy hH hn hi hx
    rw [e1, e2]
    exact ⟨hcy.prime, by simp, by simp, by simp⟩
theorem ho_zero {F G A B : Int} (hp : IsP p) : ((((0 + 1 * F) % p + (p - 1) * G) % p + (p - 1) * A) % p + (p - 1) * B) % p = 0 ↔ (A + B) % p = (F + -1 * G) % p := by
  simp only [Int.emod_add_emod]
  rcases hp with rfl | rfl | rfl | rfl <;> omega
theorem hom_iff (hcx : PreOk p ds ms) : (∀ n, n < ds.length → ∀ i, i < rsF ds n → ∀ q, q < csF ds2 0 n → hoZ p ds ms ds2 ms2 fs gs hs n i q = 0) ↔ HomOk p ds ms ds2 ms2 fs gs hs := by
  refine forall_congr' fun n => forall_congr' fun hn => forall_congr' fun i => forall_congr' fun hi => ?_
  constructor
  · intro h
    exact List.map_congr_left fun q hq => (ho_zero hcx.prime).1 (h q (List.mem_range.1 hq))
  · intro h q hq
    refine (ho_zero hcx.prime).2 ?_
    have := congrArg (fun l => l[q]?) h
    simpa [hoS, afZ, hq] using this
end

/-- The homotopy leads a basis vector. -/
theorem led_h {p : Int} {n i : Nat} {dv2 mv2 fv : Value} {ds : List Int} {ms : List (List (List Int))} {ds2 : List Int} {ms2 hs : List (List (List Int))} {w : World} (h2 : Cx 0 w dv2 mv2 ds2 ms2) (hf : L3 0 w fv hs) (hcx : PreOk p ds ms) (hcy : PreOk p ds2 ms2) (hH : FamOk p ds ds2 1 hs) (hn : n < ds.length) (hi : i < rsF ds n) :
    Led w (.agg #[.int .i64 p, dv2, mv2, .int .i64 1, fv]) (n : Int) (unitL (rsF ds n) i) ((n : Int) + 1) ((hs.getD n []).getD i []) := fun W vv hb hv => by
  have hz := hcy.dsOk.dimZ ((n : Int) + 1)
  obtain ⟨h1, h3, h4, h5⟩ := fam_row hH hn hi (hcx.dim n).1 hz.1
  have ok := unit_apOk (i := i) hcx.prime (cn := csF ds2 1 n) rfl h3
  have hd := hcx.dim n
  have hl6 := hcx.len1
  have hfl := hH.1
  have := leadD_any p 1 n (csF ds2 1 n) dv2 mv2 fv vv ds2 ms2 hs (unitL (rsF ds n) i) W (h2.below hb) (hf.below hb) hv hcy.dsOk h1 (by omega) (by omega) (by simp only [csF]; omega) ok (by omega) (by rw [unitL_length]; simp only [rsF]; omega)
  rwa [unit_apT ok hi] at this
/-- .. the differential of that, also from above the top. -/
theorem led_hy {p : Int} {n i : Nat} {dv2 mv2 uv : Value} {ds : List Int} {ms : List (List (List Int))} {ds2 : List Int} {ms2 hs : List (List (List Int))} {w : World} (h2 : Cx 0 w dv2 mv2 ds2 ms2) (hu : L3 0 w uv (dfL ds2 ms2)) (hcx : PreOk p ds ms) (hcy : PreOk p ds2 ms2) (hl : ds.length = ds2.length) (hH : FamOk p ds ds2 1 hs) (hn : n < ds.length) (hi : i < rsF ds n) :
    Led w (.agg #[.int .i64 p, dv2, mv2, .int .i64 (-1), uv]) ((n : Int) + 1) ((hs.getD n []).getD i []) (n : Int) (hoA p ds2 ms2 hs n i) := fun W vv hb hv => by
  have ok := hoA_ok hcx hcy hH hn hi
  have hz := hcy.dsOk.dimZ ((n : Int) + 0)
  have hy := hcy.dsOk.dimZ ((n : Int) + 1)
  have hl6 := hcx.len1
  have h4 := hoA_row hcx hcy hH hn hi
  have hfl : ((hs.getD n []).getD i []).length ≤ 1048576 := by have := h4.1; simp only [csF] at this; omega
  have e0 : (n : Int) + 1 + (-1) = (n : Int) := by omega
  by_cases hx : n + 1 < ds2.length
  · have e2 : ((n + 1 : Nat) : Int) = (n : Int) + 1 := by omega
    have := leadD_any p (-1) (n + 1) (csF ds2 0 n) dv2 mv2 uv vv ds2 ms2 (dfL ds2 ms2) ((hs.getD n []).getD i []) W (h2.below hb) (hu.below hb) hv hcy.dsOk (by rw [dfL_len]; exact hx) (by omega) (by omega) (by rw [e2, e0, ← Int.add_zero (n : Int)]; simp only [csF]; omega) ok (by rw [dfL_len]; omega) hfl
    rw [e2, e0] at this
    exact this
  · obtain ⟨_, e2⟩ := hoA_nil (ms := ms) (ms2 := ms2) hcx hcy hH hn hi hx
    unfold hoA
    rw [e2] at ok ⊢
    have := leadX_any p (-1) ((n : Int) + 1) (csF ds2 0 n) dv2 mv2 uv vv ds2 ms2 (dfL ds2 ms2) ((hs.getD n []).getD i []) W (h2.below hb) (hu.below hb) hv hcy.dsOk (by rw [dfL_len]; omega) (by omega) (by omega) (by rw [e0, ← Int.add_zero (n : Int)]; simp only [csF]; omega) ok (by rw [dfL_len]; omega) hfl
    rwa [e0] at this
/-- The homotopy leads the differential of a basis vector, also from below the degree 0. -/
theorem led_hp {p : Int} {n i : Nat} {dv2 mv2 fv : Value} {ds : List Int} {ms : List (List (List Int))} {ds2 : List Int} {ms2 hs : List (List (List Int))} {w : World} (h2 : Cx 0 w dv2 mv2 ds2 ms2) (hf : L3 0 w fv hs) (hcx : PreOk p ds ms) (hcy : PreOk p ds2 ms2) (hH : FamOk p ds ds2 1 hs) (hn : n < ds.length) (hi : i < rsF ds n) :
    Led w (.agg #[.int .i64 p, dv2, mv2, .int .i64 1, fv]) ((n : Int) + (-1)) (((dfL ds ms).getD n []).getD i []) (n : Int) (hoB p ds ms ds2 hs n i) := fun W vv hb hv => by
  have ok := hoB_ok hcx hcy hH hn hi
  have hz := hcy.dsOk.dimZ ((n : Int) + 0)
  have hl6 := hcx.len1
  have hfl := hH.1
  have hdf := df_vec hcx hn hi
  have hdl : (((dfL ds ms).getD n []).getD i []).length ≤ 1048576 := by rw [hdf.1]; have := hcx.dsOk.dimZ ((n : Int) + (-1)); simp only [csF]; omega
  have e0 : ((n : Int) + (-1)) + 1 = (n : Int) := by omega
  by_cases h0 : n = 0
  · subst h0
    have e1 : prevT hs 0 = [] := rfl
    rw [e1] at ok
    have := leadX_any p 1 (((0 : Nat) : Int) + (-1)) (csF ds2 0 0) dv2 mv2 fv vv ds2 ms2 hs (((dfL ds ms).getD 0 []).getD i []) W (h2.below hb) (hf.below hb) hv hcy.dsOk (by omega) (by omega) (by omega) (by rw [e0, ← Int.add_zero ((0 : Nat) : Int)]; simp only [csF]; omega) ok (by omega) hdl
    rw [e0] at this
    exact this
  · have e1 : prevT hs n = hs.getD (n - 1) [] := if_neg h0
    rw [e1] at ok
    have e2 : ((n - 1 : Nat) : Int) = (n : Int) + (-1) := by omega
    have := leadD_any p 1 (n - 1) (csF ds2 0 n) dv2 mv2 fv vv ds2 ms2 hs (((dfL ds ms).getD n []).getD i []) W (h2.below hb) (hf.below hb) hv hcy.dsOk (by omega) (by omega) (by omega) (by rw [e2, e0, ← Int.add_zero (n : Int)]; simp only [csF]; omega) ok (by omega) hdl
    rw [e2, e0] at this
    unfold hoB
    rw [e1]
    exact this
theorem hoSum_any (p : Int) (bp ba bb bc bd : Nat) (dv mv dv2 mv2 fv gv hv uv vv : Value) (ds : List Int) (ms : List (List (List Int))) (ds2 : List Int) (ms2 fs gs hs : List (List (List Int))) (w : World) (h : Cx 0 w dv mv ds ms) (h2 : Cx 0 w dv2 mv2 ds2 ms2) (hf : L3 0 w fv fs) (hg : L3 0 w gv gs) (hh : L3 0 w hv hs) (hu : L3 0 w uv (dfL ds ms)) (hvv : L3 0 w vv (dfL ds2 ms2)) (hcx : IsCx p ds ms) (hcy : IsCx p ds2 ms2) (hl : ds.length = ds2.length) (hF : FamOk p ds ds2 0 fs) (hG : FamOk p ds ds2 0 gs) (hH : FamOk p ds ds2 1 hs)
    (c0 : w.cell? ⟨bp, 0, none⟩ = some (.int .i64 1)) (c1 : w.cell? ⟨bp, 1, none⟩ = some (.slice (some ⟨ba, 0, none⟩) 1 1)) (c2 : w.cell? ⟨bp, 2, none⟩ = some (.int .i64 (p - 1))) (c3 : w.cell? ⟨bp, 3, none⟩ = some (.slice (some ⟨bb, 0, none⟩) 1 1))
    (c4 : w.cell? ⟨bp, 4, none⟩ = some (.int .i64 (p - 1))) (c5 : w.cell? ⟨bp, 5, none⟩ = some (.slice (some ⟨bc, 0, none⟩) 2 2)) (c6 : w.cell? ⟨bp, 6, none⟩ = some (.int .i64 (p - 1))) (c7 : w.cell? ⟨bp, 7, none⟩ = some (.slice (some ⟨bd, 0, none⟩) 2 2))
    (a0 : w.cell? ⟨ba, 0, none⟩ = some (.func (.func 66) #[.agg #[.int .i64 p, dv2, mv2, .int .i64 0, fv]] #[])) (b0 : w.cell? ⟨bb, 0, none⟩ = some (.func (.func 66) #[.agg #[.int .i64 p, dv2, mv2, .int .i64 0, gv]] #[]))
    (d0 : w.cell? ⟨bc, 0, none⟩ = some (.func (.func 66) #[.agg #[.int .i64 p, dv2, mv2, .int .i64 1, hv]] #[])) (d1 : w.cell? ⟨bc, 1, none⟩ = some (.func (.func 66) #[.agg #[.int .i64 p, dv2, mv2, .int .i64 (-1), vv]] #[]))
    (e0 : w.cell? ⟨bd, 0, none⟩ = some (.func (.func 66) #[.agg #[.int .i64 p, dv, mv, .int .i64 (-1), uv]] #[])) (e1 : w.cell? ⟨bd, 1, none⟩ = some (.func (.func 66) #[.agg #[.int .i64 p, dv2, mv2, .int .i64 1, hv]] #[])) :
    Calls Tryd.prog 64 #[.agg #[.int .i64 p, dv, mv], .agg #[.int .i64 p, dv2, mv2], .int .i64 0, .slice (some ⟨bp, 0, none⟩) 4 4] w (Fam3R (famL ds.length (rsF ds) (csF ds2 0) (hoZ p ds ms ds2 ms2 fs gs hs)) w) := by
  have hp7 := hcx.1.prime.hi
  have hp2 := hcx.1.prime.lo
  have := sumOfPaths_any p p 0 4 bp 4 (fun j => if j = 0 then 1 else p - 1) (fun j => if j = 0 then [.agg #[.int .i64 p, dv2, mv2, .int .i64 0, fv]] else if j = 1 then [.agg #[.int .i64 p, dv2, mv2, .int .i64 0, gv]] else if j = 2 then [.agg #[.int .i64 p, dv2, mv2, .int .i64 1, hv], .agg #[.int .i64 p, dv2, mv2, .int .i64 (-1), vv]] else [.agg #[.int .i64 p, dv, mv, .int .i64 (-1), uv], .agg #[.int .i64 p, dv2, mv2, .int .i64 1, hv]])
    (fun n i j => if j = 0 then (fs.getD n []).getD i [] else if j = 1 then (gs.getD n []).getD i [] else if j = 2 then hoA p ds2 ms2 hs n i else hoB p ds ms ds2 hs n i) dv mv dv2 mv2 ds ms ds2 ms2 w h h2 hcx hcy (by omega) ?_ ?_ (by omega) ?_ ?_
  · refine this.mono ?_
    rintro e w' ⟨u, rfl, hu, hb'⟩
    refine ⟨u, rfl, ?_, hb'⟩
    rwa [famL_congr (Z' := hoZ p ds ms ds2 ms2 fs gs hs)] at hu
    intro n hn i hi q _
    simp [pS, addMod, hoZ]
  · intro j hj
    match j, hj with
    | 0, _ =>
      refine ⟨_, c0, c1, ⟨ba, 0, 1, rfl, fun q hq => ?_⟩, by simp, by simp⟩
      match q, hq with
      | 0, _ => exact a0
    | 1, _ =>
      refine ⟨_, c2, c3, ⟨bb, 0, 1, rfl, fun q hq => ?_⟩, by simp, by simp⟩
      match q, hq with
      | 0, _ => exact b0
    | 2, _ =>
      refine ⟨_, c4, c5, ⟨bc, 0, 2, rfl, fun q hq => ?_⟩, by simp, by simp⟩
      match q, hq with
      | 0, _ => exact d0
      | 1, _ => exact d1
    | 3, _ =>
      refine ⟨_, c6, c7, ⟨bd, 0, 2, rfl, fun q hq => ?_⟩, by simp, by simp⟩
      match q, hq with
      | 0, _ => exact e0
      | 1, _ => exact e1
  · intro j _
    show 0 ≤ (if j = 0 then (1 : Int) else p - 1) ∧ (if j = 0 then (1 : Int) else p - 1) ≤ 6
    split <;> omega
  · intro n hn i hi j hj
    match j, hj with
    | 0, _ => exact ⟨_, Chain.cons (chain_of h2 hf hcx hcy hF hn hi) (Chain.nil _ _)⟩
    | 1, _ => exact ⟨_, Chain.cons (chain_of h2 hg hcx hcy hG hn hi) (Chain.nil _ _)⟩
    | 2, _ => exact ⟨_, Chain.cons (led_h h2 hh hcx.1 hcy.1 hH hn hi) (Chain.cons (led_hy h2 hvv hcx.1 hcy.1 hl hH hn hi) (Chain.nil _ _))⟩
    | 3, _ => exact ⟨_, Chain.cons (led_df h hu hcx.1 hn hi) (Chain.cons (led_hp h2 hh hcx.1 hcy.1 hH hn hi) (Chain.nil _ _))⟩
  · intro n hn i hi j hj
    match j, hj with
    | 0, _ => exact fam_vec hcx hcy hF hn hi
    | 1, _ => exact fam_vec hcx hcy hG hn hi
    | 2, _ => exact ap_vec (hoA_ok hcx.1 hcy.1 hH hn hi)
    | 3, _ => exact ap_vec (hoB_ok hcx.1 hcy.1 hH hn hi)
end Go.Proofs.YtpchbceohnabnabDoor


namespace Go.Proofs.YtpchbceohnabnabDoor
open Go.RowKit

section
variable {P : Program} {ops : Array Oper} {Q : Exit → Act → World → Prop} {md : Region.Mode} {S : World → Prop}
theorem held_alloc3 {i j l : Nat} {oi oj ol : Oper} {di dj dl : Tmp} {fuel : Nat} {listed : Array Bool} {a : Act} {w : World} (t : TypeId) (z : Array Value)
    (hi : ops[i]? = some oi) (hj : ops[j]? = some oj) (hl : ops[l]? = some ol) (gi : oi.guard = none) (gj : oj.guard = none) (gl : ol.guard = none) (ei : oi.dst = some di) (ej : oj.dst = some dj) (el : ol.dst = some dl)
    (nij : di ≠ dj) (nil' : di ≠ dl) (njl : dj ≠ dl)
    (ri : ∀ (a : Act) (w : World), (execOp a.eval oi).run P w = .ok (.value (.pointer (some ⟨w.heap.size, 0, none⟩))) (w.alloc (.cells z t)))
    (rj : ∀ (a : Act) (w : World), (execOp a.eval oj).run P w = .ok (.value (.pointer (some ⟨w.heap.size, 0, none⟩))) (w.alloc (.cells z t)))
    (rl : ∀ (a : Act) (w : World), (execOp a.eval ol).run P w = .ok (.value (.pointer (some ⟨w.heap.size, 0, none⟩))) (w.alloc (.cells z t)))
    (mij : i ≠ j) (mil : i ≠ l) (mjl : j ≠ l)
    (r0 : Region.ready md ops listed = [i, j, l]) (r1 : Region.ready md ops (listed.setIfInBounds i true) = [j, l]) (r2 : Region.ready md ops (listed.setIfInBounds j true) = [i, l]) (r3 : Region.ready md ops (listed.setIfInBounds l true) = [i, j])
    (r12 : Region.ready md ops ((listed.setIfInBounds i true).setIfInBounds j true) = [l]) (r13 : Region.ready md ops ((listed.setIfInBounds i true).setIfInBounds l true) = [j]) (r23 : Region.ready md ops ((listed.setIfInBounds j true).setIfInBounds l true) = [i])
    (hS : ∀ W, S W → S (W.alloc (.cells z t))) (h0 : S w)
    (h : ∀ (W : World) (ga gb gc : Nat), S W → Rz W ga t z → Rz W gb t z → Rz W gc t z → ga ≠ gb → ga ≠ gc → gb ≠ gc → w.heap.size ≤ ga → w.heap.size ≤ gb → w.heap.size ≤ gc →
      wpAnyH P md ops Q S fuel (((listed.setIfInBounds i true).setIfInBounds j true).setIfInBounds l true) (((a.put (some di) (.pointer (some ⟨ga, 0, none⟩))).put (some dj) (.pointer (some ⟨gb, 0, none⟩))).put (some dl) (.pointer (some ⟨gc, 0, none⟩))) W) :
    wpAnyH P md ops Q S (fuel + 3) listed a w := by
  obtain ⟨W1, hW1⟩ : ∃ W', W' = w.alloc (.cells z t) := ⟨_, rfl⟩
  obtain ⟨W2, hW2⟩ : ∃ W', W' = W1.alloc (.cells z t) := ⟨_, rfl⟩
  obtain ⟨W3, hW3⟩ : ∃ W', W' = W2.alloc (.cells z t) := ⟨_, rfl⟩
  have S1 : S W1 := by rw [hW1]; exact hS _ h0
  have S2 : S W2 := by rw [hW2]; exact hS _ S1
  have S3 : S W3 := by rw [hW3]; exact hS _ S2
  have e1 : W1.heap.size = w.heap.size + 1 := by rw [hW1]; simp
  have e2 : W2.heap.size = w.heap.size + 2 := by rw [hW2]; simp [e1]
  have b2 : Below W1.heap.size W1 W2 := by rw [hW2]; exact below_alloc1 _ _
  have b3 : Below W2.heap.size W2 W3 := by rw [hW3]; exact below_alloc1 _ _
  have R0 : Rz W3 w.heap.size t z := Rz.next (Rz.next (by rw [hW1]; exact Rz.new _ _ _) b2) b3
  have R1 : Rz W3 W1.heap.size t z := Rz.next (by rw [hW2]; exact Rz.new _ _ _) b3
  have R2 : Rz W3 W2.heap.size t z := by rw [hW3]; exact Rz.new _ _ _
  have cij : ∀ (a : Act) (v u : Value), (a.put (some dj) v).put (some di) u = (a.put (some di) u).put (some dj) v := fun a v u => Act.put_comm a v u (fun d hd => by injection hd with hd; subst hd; exact fun e => nij (by injection e))
  have cil : ∀ (a : Act) (v u : Value), (a.put (some dl) v).put (some di) u = (a.put (some di) u).put (some dl) v := fun a v u => Act.put_comm a v u (fun d hd => by injection hd with hd; subst hd; exact fun e => nil' (by injection e))
  have cjl : ∀ (a : Act) (v u : Value), (a.put (some dl) v).put (some dj) u = (a.put (some dj) u).put (some dl) v := fun a v u => Act.put_comm a v u (fun d hd => by injection hd with hd; subst hd; exact fun e => njl (by injection e))
  have sij : ∀ (L : Array Bool), (L.setIfInBounds j true).setIfInBounds i true = (L.setIfInBounds i true).setIfInBounds j true := fun L => Array.setIfInBounds_comm _ _ (Ne.symm mij)
  have sil : ∀ (L : Array Bool), (L.setIfInBounds l true).setIfInBounds i true = (L.setIfInBounds i true).setIfInBounds l true := fun L => Array.setIfInBounds_comm _ _ (Ne.symm mil)
  have sjl : ∀ (L : Array Bool), (L.setIfInBounds l true).setIfInBounds j true = (L.setIfInBounds j true).setIfInBounds l true := fun L => Array.setIfInBounds_comm _ _ (Ne.symm mjl)
  have q1 : ∀ a, (execOp (Act.eval a) oi).run P w = .ok (.value (.pointer (some ⟨w.heap.size, 0, none⟩))) W1 := fun a => by rw [hW1]; exact ri a w
  have q2 : ∀ a, (execOp (Act.eval a) oj).run P w = .ok (.value (.pointer (some ⟨w.heap.size, 0, none⟩))) W1 := fun a => by rw [hW1]; exact rj a w
  have q3 : ∀ a, (execOp (Act.eval a) ol).run P w = .ok (.value (.pointer (some ⟨w.heap.size, 0, none⟩))) W1 := fun a => by rw [hW1]; exact rl a w
  have u1 : ∀ a, (execOp (Act.eval a) oi).run P W1 = .ok (.value (.pointer (some ⟨W1.heap.size, 0, none⟩))) W2 := fun a => by rw [hW2]; exact ri a W1
  have u2 : ∀ a, (execOp (Act.eval a) oj).run P W1 = .ok (.value (.pointer (some ⟨W1.heap.size, 0, none⟩))) W2 := fun a => by rw [hW2]; exact rj a W1
  have u3 : ∀ a, (execOp (Act.eval a) ol).run P W1 = .ok (.value (.pointer (some ⟨W1.heap.size, 0, none⟩))) W2 := fun a => by rw [hW2]; exact rl a W1
  have v1 : ∀ a, (execOp (Act.eval a) oi).run P W2 = .ok (.value (.pointer (some ⟨W2.heap.size, 0, none⟩))) W3 := fun a => by rw [hW3]; exact ri a W2
  have v2 : ∀ a, (execOp (Act.eval a) oj).run P W2 = .ok (.value (.pointer (some ⟨W2.heap.size, 0, none⟩))) W3 := fun a => by rw [hW3]; exact rj a W2
  have v3 : ∀ a, (execOp (Act.eval a) ol).run P W2 = .ok (.value (.pointer (some ⟨W2.heap.size, 0, none⟩))) W3 := fun a => by rw [hW3]; exact rl a W2
  refine held_three r0 ?_ ?_ ?_
  · refine op_mem (some di) hi gi ei (q1 a) ⟨S1, ?_⟩
    refine held_two r1 ?_ ?_
    · refine op_mem (some dj) hj gj ej (u2 _) ⟨S2, ?_⟩
      refine held_one r12 ?_
      exact op_mem (some dl) hl gl el (v3 _) ⟨S3, h W3 _ _ _ S3 R0 R1 R2 (by omega) (by omega) (by omega) (by omega) (by omega) (by omega)⟩
    · refine op_mem (some dl) hl gl el (u3 _) ⟨S2, ?_⟩
      refine held_one r13 ?_
      refine op_mem (some dj) hj gj ej (v2 _) ⟨S3, ?_⟩
      rw [cjl, sjl]
      exact h W3 _ _ _ S3 R0 R2 R1 (by omega) (by omega) (by omega) (by omega) (by omega) (by omega)
  · refine op_mem (some dj) hj gj ej (q2 a) ⟨S1, ?_⟩
    refine held_two r2 ?_ ?_
    · refine op_mem (some di) hi gi ei (u1 _) ⟨S2, ?_⟩
      rw [cij, sij]
      refine held_one r12 ?_
      exact op_mem (some dl) hl gl el (v3 _) ⟨S3, h W3 _ _ _ S3 R1 R0 R2 (by omega) (by omega) (by omega) (by omega) (by omega) (by omega)⟩
    · refine op_mem (some dl) hl gl el (u3 _) ⟨S2, ?_⟩
      refine held_one r23 ?_
      refine op_mem (some di) hi gi ei (v1 _) ⟨S3, ?_⟩
      rw [cil, cij, sil, sij]
      exact h W3 _ _ _ S3 R2 R0 R1 (by omega) (by omega) (by omega) (by omega) (by omega) (by omega)
  · refine op_mem (some dl) hl gl el (q3 a) ⟨S1, ?_⟩
    refine held_two r3 ?_ ?_
    · refine op_mem (some di) hi gi ei (u1 _) ⟨S2, ?_⟩
      rw [cil, sil]
      refine held_one r13 ?_
      refine op_mem (some dj) hj gj ej (v2 _) ⟨S3, ?_⟩
      rw [cjl, sjl]
      exact h W3 _ _ _ S3 R1 R2 R0 (by omega) (by omega) (by omega) (by omega) (by omega) (by omega)
    · refine op_mem (some dj) hj gj ej (u2 _) ⟨S2, ?_⟩
      rw [cjl, sjl]
      refine held_one r23 ?_
      refine op_mem (some di) hi gi ei (v1 _) ⟨S3, ?_⟩
      rw [cil, cij, sil, sij]
      exact h W3 _ _ _ S3 R2 R1 R0 (by omega) (by omega) (by omega) (by omega) (by omega) (by omega)
end
end Go.Proofs.YtpchbceohnabnabDoor


namespace Go.Proofs.YtpchbceohnabnabDoor
open Go.RowKit

open Classical in
/-- The code of IsHomotopy. -/
noncomputable def hmCode (p p2 : Int) (ds : List Int) (ms : List (List (List Int))) (ds2 : List Int) (ms2 fs gs hs : List (List (List Int))) : Int :=
  if famCode2 p p2 0 ds ms ds2 ms2 fs gs = 0 then (if FamOk p ds ds2 1 hs then mapCode 0 (AllCh p ds ms ds2 ms2 2 (two2 fs gs)) else 2) else famCode2 p p2 0 ds ms ds2 ms2 fs gs
section
variable {p p2 : Int} {ds : List Int} {ms : List (List (List Int))} {ds2 : List Int} {ms2 fs gs hs : List (List (List Int))}
theorem hmCode_ne (h : famCode2 p p2 0 ds ms ds2 ms2 fs gs ≠ 0) : hmCode p p2 ds ms ds2 ms2 fs gs hs = famCode2 p p2 0 ds ms ds2 ms2 fs gs := by unfold hmCode; rw [if_neg h]
theorem hmCode_out (h : famCode2 p p2 0 ds ms ds2 ms2 fs gs = 0) (hr : ¬ FamOk p ds ds2 1 hs) : hmCode p p2 ds ms ds2 ms2 fs gs hs = 2 := by unfold hmCode; rw [if_pos h, if_neg hr]
theorem hmCode_in (h : famCode2 p p2 0 ds ms ds2 ms2 fs gs = 0) (hr : FamOk p ds ds2 1 hs) : hmCode p p2 ds ms ds2 ms2 fs gs hs = mapCode 0 (AllCh p ds ms ds2 ms2 2 (two2 fs gs)) := by unfold hmCode; rw [if_pos h, if_pos hr]
/-- The answers of IsHomotopy. -/
def HmS (p p2 : Int) (ds : List Int) (ms : List (List (List Int))) (ds2 : List Int) (ms2 fs gs hs : List (List (List Int))) (b : Bool) (c : Int) : Prop := c = hmCode p p2 ds ms ds2 ms2 fs gs hs ∧ (b = true ↔ hmCode p p2 ds ms ds2 ms2 fs gs hs = 0 ∧ HomOk p ds ms ds2 ms2 fs gs hs)
theorem HmS.unique {b b2 : Bool} {c c2 : Int} (h : HmS p p2 ds ms ds2 ms2 fs gs hs b c) (k : HmS p p2 ds ms ds2 ms2 fs gs hs b2 c2) : b = b2 ∧ c = c2 := ⟨Bool.eq_iff_iff.2 (h.2.trans k.2.symm), h.1.trans k.1.symm⟩
theorem hmS_bad {c : Int} (h : c = hmCode p p2 ds ms ds2 ms2 fs gs hs) (h0 : c ≠ 0) : HmS p p2 ds ms ds2 ms2 fs gs hs false c := ⟨h, (fun e => absurd e (by decide)), (fun hh => absurd (h.trans hh.1) h0)⟩
theorem hmS_of {b : Bool} (h : 0 = hmCode p p2 ds ms ds2 ms2 fs gs hs) (hb : b = true ↔ HomOk p ds ms ds2 ms2 fs gs hs) : HmS p p2 ds ms ds2 ms2 fs gs hs b 0 := ⟨h, hb.trans ⟨fun k => ⟨h.symm, k⟩, fun k => k.2⟩⟩
end

set_option maxHeartbeats 6400000 in
set_option maxRecDepth 100000 in
theorem isHomotopy_any {pv : Value} (p p2 : Int) (dv mv dv2 mv2 fv gv hv : Value) (ds : List Int) (ms : List (List (List Int))) (ds2 : List Int) (ms2 fs gs hs : List (List (List Int))) (w : World) (h : Cx 0 w dv mv ds ms) (h2 : Cx 0 w dv2 mv2 ds2 ms2) (hf : L3 0 w fv fs) (hg : L3 0 w gv gs) (hh : L3 0 w hv hs) (hd : ds.length ≤ 1048576) (hm : Bd3 1048576 ms) (hd2 : ds2.length ≤ 1048576) (hm2 : Bd3 1048576 ms2) (hmf : Bd3 1048576 fs) (hmg : Bd3 1048576 gs) (hmh : Bd3 1048576 hs) (hgl : w.cell? ⟨0, 0, none⟩ = some (.iface 135 pv)) :
    Calls Tryd.prog 27 #[.agg #[.int .i64 p, dv, mv], .agg #[.int .i64 p2, dv2, mv2], fv, gv, hv] w (VrBC (HmS p p2 ds ms ds2 ms2 fs gs hs) w) := by
  obtain ⟨ad, cap, rfl⟩ := Sl.shape h.dims
  obtain ⟨am, capm, rfl⟩ := Sl.shape h.maps
  obtain ⟨ad2, cap2, rfl⟩ := Sl.shape h2.dims
  obtain ⟨am2, capm2, rfl⟩ := Sl.shape h2.maps
  obtain ⟨af, cf, rfl⟩ := Sl.shape hf
  obtain ⟨ag, cg, rfl⟩ := Sl.shape hg
  obtain ⟨ah, ch, rfl⟩ := Sl.shape hh
  obtain ⟨k1, k2⟩ := bx_two (p := p) (p2 := p2) 30 h h2
  have HX0 := Lib.hid k1
  have HY0 := Lib.hid k2
  obtain ⟨w1, hw1⟩ : ∃ w1, w1 = ((w.alloc (.cells #[.int .i64 p, .slice ad ds.length cap, .slice am ms.length capm] 30)).alloc (.cells #[.int .i64 p2, .slice ad2 ds2.length cap2, .slice am2 ms2.length capm2] 30)) := ⟨_, rfl⟩
  rw [← hw1] at HX0 HY0
  have hb01 : Below w.heap.size w w1 := HX0.out.below
  have HF0 := Lib.hid (hf.below hb01)
  have HG0 := Lib.hid (hg.below hb01)
  have HH0 := Lib.hid (hh.below hb01)
  have HE0 := Lib.hid (later hb01 (Nat.le_refl _) hgl)
  have HNX : Hid (∀ W, Below w1.heap.size w1 W → Bx w W w.heap.size p (.slice ad ds.length cap) (.slice am ms.length capm) ds ms ∧ Bx w W (w.heap.size + 1) p2 (.slice ad2 ds2.length cap2) (.slice am2 ms2.length capm2) ds2 ms2 ∧ (L3 0 W (.slice af fs.length cf) fs ∧ L3 0 W (.slice ag gs.length cg) gs ∧ L3 0 W (.slice ah hs.length ch) hs) ∧ W.cell? ⟨0, 0, none⟩ = some (.iface 135 pv)) := Lib.hid (fun W h => ⟨HX0.out.next h, HY0.out.next h, ⟨HF0.out.below h, HG0.out.below h, HH0.out.below h⟩, later h (Nat.le_refl _) HE0.out⟩)
  have HMH := Lib.hid hmh
  have HBD := Lib.hid (show ds.length ≤ 1048576 ∧ Bd3 1048576 ms ∧ ds2.length ≤ 1048576 ∧ Bd3 1048576 ms2 ∧ Bd3 1048576 fs ∧ Bd3 1048576 gs from ⟨hd, hm, hd2, hm2, hmf, hmg⟩)
  have c0 := HX0.out.c0
  have c1 := HX0.out.c1
  have c2 := HX0.out.c2
  have d0 := HY0.out.c0
  have d1 := HY0.out.c1
  have d2 := HY0.out.c2
  obtain ⟨w2, hw2⟩ : ∃ w2, w2 = w1.alloc (.cells #[.slice af fs.length cf, .slice ag gs.length cg] 23) := ⟨_, rfl⟩
  have hr2 : w2.cell? ⟨w1.heap.size, 0, none⟩ = some (.slice af fs.length cf) := by rw [hw2]; exact cell_new2 _ _ _ _
  have hr3 : w2.cell? ⟨w1.heap.size, 1, none⟩ = some (.slice ag gs.length cg) := by rw [hw2]; exact cell_new2' _ _ _ _
  have hb2 : Below w1.heap.size w1 w2 := by rw [hw2]; exact below_alloc1 _ _
  have HB2 := Lib.hid hb2
  have hN2 := HNX.out _ hb2
  have HCK := Lib.hid (checkFamilies2_any p p2 0 w1.heap.size _ _ _ _ _ _ ds ms ds2 ms2 fs gs w2 hN2.1.cx hN2.2.1.cx hN2.2.2.1.1 hN2.2.2.1.2.1 hr2 hr3 ⟨by omega, by omega⟩ hd hm hd2 hm2 hmf hmg)
  obtain ⟨ec, hec⟩ : ∃ ec, ec = famCode2 p p2 0 ds ms ds2 ms2 fs gs := ⟨_, rfl⟩
  rw [← hec] at HCK
  have HEC := Lib.hid hec
  clear h h2 hf hg hh hm hm2 hmf hmg hmh k1 k2 hr2 hr3 hb2 hb01 hec hN2 hgl
  go_enter Tryd.func27, Tryd.ntmps27
  go_upto_region 1 with fail
  rw [← hw1]
  clear hw1
  go_wp2_with fail
  rw [← hw2]
  clear hw2
  refine HCK.out.mono ?_
  rintro e w3 ⟨rfl, hb3⟩
  have HB3 := Lib.hid (HB2.out.trans (hb3.mono HB2.out.size))
  have HN3 := Lib.hid (HNX.out _ HB3.out)
  clear hb3 c0 c1 c2 d0 d1 d2 HX0 HY0 HCK HB2
  by_cases h0 : ec = 0
  · subst h0
    have hfz := famCode2_zero HEC.out.symm
    have hpp := hfz.1.prime
    subst hpp
    have HE := Lib.hid hfz.1
    have HFO := Lib.hid hfz.2.1
    have HGO := Lib.hid hfz.2.2
    have hl6 := hfz.1.x.1.len1
    have hp27 : 2 ≤ p ∧ p ≤ 7 := ⟨hfz.1.x.1.prime.lo, hfz.1.x.1.prime.hi⟩
    clear hfz
    have c0 := HN3.out.1.c0
    have c1 := HN3.out.1.c1
    have c2 := HN3.out.1.c2
    have d0 := HN3.out.2.1.c0
    have d1 := HN3.out.2.1.c1
    have d2 := HN3.out.2.1.c2
    have HIF := Lib.hid (isFamily_any p p 1 _ _ _ _ _ ds ms ds2 ms2 hs w3 HN3.out.1.cx HN3.out.2.1.cx HN3.out.2.2.1.2.2 HE.out.x HE.out.y ⟨by omega, by omega⟩ HMH.out)
    go_wp2_with fail
    refine HIF.out.mono ?_
    rintro e w4 ⟨bb, rfl, hb4, hbb⟩
    have HB4 := Lib.hid (HB3.out.trans (hb4.mono HB3.out.size))
    have HN4 := Lib.hid (HNX.out _ HB4.out)
    clear c0 c1 c2 d0 d1 d2 hb4 HIF HN3
    by_cases hho : FamOk p ds ds2 1 hs
    · obtain rfl : bb = true := hbb.2 hho
      have HHO := Lib.hid hho
      clear hbb hho
      have c0 := HN4.out.1.c0
      have c1 := HN4.out.1.c1
      have c2 := HN4.out.1.c2
      have d0 := HN4.out.2.1.c0
      have d1 := HN4.out.2.1.c1
      have d2 := HN4.out.2.1.c2
      obtain ⟨w5, hw5⟩ : ∃ w5, w5 = w4.alloc (.cells #[.slice af fs.length cf, .slice ag gs.length cg] 23) := ⟨_, rfl⟩
      have hr5 : w5.cell? ⟨w4.heap.size, 0, none⟩ = some (.slice af fs.length cf) := by rw [hw5]; exact cell_new2 _ _ _ _
      have hr6 : w5.cell? ⟨w4.heap.size, 1, none⟩ = some (.slice ag gs.length cg) := by rw [hw5]; exact cell_new2' _ _ _ _
      have HB5 : Hid (Below w4.heap.size w4 w5) := Lib.hid (by rw [hw5]; exact below_alloc1 _ _)
      have HB15 := Lib.hid (HB4.out.trans (HB5.out.mono HB4.out.size))
      have hN5 := HNX.out _ HB15.out
      have HST := Lib.hid (checkState_any p 2 w4.heap.size (two2 fs gs) pv _ _ _ _ ds ms ds2 ms2 w5 hN5.1.cx hN5.2.1.cx (famsAt_two hr5 hr6 hN5.2.2.1.1 hN5.2.2.1.2.1) (by omega) HE.out.x HE.out.y HE.out.len (fun j _ => two2_ok HFO.out HGO.out) hN5.2.2.2)
      clear hr5 hr6 hN5
      go_wp2_with fail
      rw [← hw5]
      clear hw5
      refine HST.out.mono ?_
      rintro e w6 ⟨c, rfl, hb6, hc⟩
      have HB6 := Lib.hid (HB15.out.trans (hb6.mono HB15.out.size))
      have HN6 := Lib.hid (HNX.out _ HB6.out)
      clear c0 c1 c2 d0 d1 d2 hb6 HST HN4 HB5
      rcases hc with ⟨rfl, hall⟩ | ⟨rfl, hno⟩
      · have HCO : Hid (0 = hmCode p p ds ms ds2 ms2 fs gs hs) := Lib.hid (((hmCode_in HEC.out.symm HHO.out).trans (mapCode_ok rfl hall)).symm)
        clear hall
        go_upto_region 9 with fail
        refine wp_region_held (S := fun W => Below w6.heap.size w6 W) (by kernel_rfl) ?_
        have S0 : Below w6.heap.size w6 w6.drew := (Below.refl _ _).drew
        have hsz6 : w6.heap.size ≤ w6.drew.heap.size := S0.size
        change wpAnyH _ _ _ _ _ _ _ _ w6.drew
        obtain ⟨wd, hwd⟩ : ∃ wd, wd = w6.drew := ⟨_, rfl⟩
        rw [← hwd] at S0 hsz6 ⊢
        clear hwd
        have HN6x : Hid (∀ W, Below w6.heap.size w6 W → Below w1.heap.size w1 W) := Lib.hid (fun W h => HB6.out.trans (h.mono HB6.out.size))
        refine held_take (i := 0) (v := .agg #[.int .i64 p, .slice ad2 ds2.length cap2, .slice am2 ms2.length capm2]) (some 42) rfl rfl (by kernel_rfl) (by kernel_rfl) (by kernel_rfl) (fun _ _ _ h => h) (yieldsIf_cell (by kernel_rfl) rfl (by kernel_rfl) (fun W h => hload3x (HNX.out W (HN6x.out W h)).2.1)) S0 ?_
        refine held_take (i := 1) (v := .slice af fs.length cf) (some 43) rfl rfl (by kernel_rfl) (by kernel_rfl) (by kernel_rfl) (fun _ _ _ h => h) (yieldsIf_move (by kernel_rfl) rfl (by kernel_rfl)) S0 ?_
        refine held_take (i := 2) (v := .agg #[.int .i64 p, .slice ad2 ds2.length cap2, .slice am2 ms2.length capm2, .int .i64 0, .slice af fs.length cf]) (some 44) rfl rfl (by kernel_rfl) (by kernel_rfl) (by kernel_rfl) (fun _ _ _ h => h) (yieldsIf_run (by kernel_rfl) (fun W _ => by kernel_rfl)) S0 ?_
        refine held_take (i := 3) (v := .agg #[.int .i64 p, .slice ad2 ds2.length cap2, .slice am2 ms2.length capm2]) (some 45) rfl rfl (by kernel_rfl) (by kernel_rfl) (by kernel_rfl) (fun _ _ _ h => h) (yieldsIf_cell (by kernel_rfl) rfl (by kernel_rfl) (fun W h => hload3x (HNX.out W (HN6x.out W h)).2.1)) S0 ?_
        refine held_take (i := 4) (v := .slice ag gs.length cg) (some 46) rfl rfl (by kernel_rfl) (by kernel_rfl) (by kernel_rfl) (fun _ _ _ h => h) (yieldsIf_move (by kernel_rfl) rfl (by kernel_rfl)) S0 ?_
        refine held_take (i := 5) (v := .agg #[.int .i64 p, .slice ad2 ds2.length cap2, .slice am2 ms2.length capm2, .int .i64 0, .slice ag gs.length cg]) (some 47) rfl rfl (by kernel_rfl) (by kernel_rfl) (by kernel_rfl) (fun _ _ _ h => h) (yieldsIf_run (by kernel_rfl) (fun W _ => by kernel_rfl)) S0 ?_
        refine held_take (i := 6) (v := .agg #[.int .i64 p, .slice ad2 ds2.length cap2, .slice am2 ms2.length capm2]) (some 48) rfl rfl (by kernel_rfl) (by kernel_rfl) (by kernel_rfl) (fun _ _ _ h => h) (yieldsIf_cell (by kernel_rfl) rfl (by kernel_rfl) (fun W h => hload3x (HNX.out W (HN6x.out W h)).2.1)) S0 ?_
        refine held_take (i := 7) (v := .slice ah hs.length ch) (some 49) rfl rfl (by kernel_rfl) (by kernel_rfl) (by kernel_rfl) (fun _ _ _ h => h) (yieldsIf_move (by kernel_rfl) rfl (by kernel_rfl)) S0 ?_
        refine held_take (i := 8) (v := .agg #[.int .i64 p, .slice ad2 ds2.length cap2, .slice am2 ms2.length capm2, .int .i64 1, .slice ah hs.length ch]) (some 50) rfl rfl (by kernel_rfl) (by kernel_rfl) (by kernel_rfl) (fun _ _ _ h => h) (yieldsIf_run (by kernel_rfl) (fun W _ => by kernel_rfl)) S0 ?_
        refine held_alloc3 (i := 9) (j := 10) (l := 11) (di := 14) (dj := 15) (dl := 16) 69 #[.int .i64 0, .slice none 0 0, .slice none 0 0, .int .i64 0, .slice none 0 0] rfl rfl rfl rfl rfl rfl rfl rfl rfl (by decide) (by decide) (by decide) (fun a w => by go_simp) (fun a w => by go_simp) (fun a w => by go_simp) (by decide) (by decide) (by decide) (by kernel_rfl) (by kernel_rfl) (by kernel_rfl) (by kernel_rfl) (by kernel_rfl) (by kernel_rfl) (by kernel_rfl) (fun W h => h.trans ((below_alloc1 _ _).mono h.size)) S0 ?_
        intro V ga gb gc SV Ra Rb Rc nab nac nbc la lb lc
        have Ta : Below w6.heap.size w6 (V.setRow ga #[.int .i64 p, .slice ad2 ds2.length cap2, .slice am2 ms2.length capm2, .int .i64 0, .slice af fs.length cf]) := below_setRow SV (by omega) _
        refine held_one (i := 12) (by kernel_rfl) ?_
        refine op_row (i := 12) rfl rfl rfl 69 (.tmp 14) (.tmp 44) rfl ga #[.int .i64 p, .slice ad2 ds2.length cap2, .slice am2 ms2.length capm2, .int .i64 0, .slice af fs.length cf] (by kernel_rfl) (by kernel_rfl) 69 _ Ra (infoGr _ _ _ _ _) (by kernel_rfl) (by kernel_rfl) ?_
        refine ⟨Ta, ?_⟩
        have Rasa := Ra.set #[.int .i64 p, .slice ad2 ds2.length cap2, .slice am2 ms2.length capm2, .int .i64 0, .slice af fs.length cf]
        have Rbsa := Rb.off nab.symm #[.int .i64 p, .slice ad2 ds2.length cap2, .slice am2 ms2.length capm2, .int .i64 0, .slice af fs.length cf]
        have Rcsa := Rc.off nac.symm #[.int .i64 p, .slice ad2 ds2.length cap2, .slice am2 ms2.length capm2, .int .i64 0, .slice af fs.length cf]
        have Tb : Below w6.heap.size w6 ((V.setRow ga #[.int .i64 p, .slice ad2 ds2.length cap2, .slice am2 ms2.length capm2, .int .i64 0, .slice af fs.length cf]).setRow gb #[.int .i64 p, .slice ad2 ds2.length cap2, .slice am2 ms2.length capm2, .int .i64 0, .slice ag gs.length cg]) := below_setRow Ta (by omega) _
        refine held_one (i := 13) (by kernel_rfl) ?_
        refine op_row (i := 13) rfl rfl rfl 69 (.tmp 15) (.tmp 47) rfl gb #[.int .i64 p, .slice ad2 ds2.length cap2, .slice am2 ms2.length capm2, .int .i64 0, .slice ag gs.length cg] (by kernel_rfl) (by kernel_rfl) 69 _ Rbsa (infoGr _ _ _ _ _) (by kernel_rfl) (by kernel_rfl) ?_
        refine ⟨Tb, ?_⟩
        have Rasb := Rasa.off nab #[.int .i64 p, .slice ad2 ds2.length cap2, .slice am2 ms2.length capm2, .int .i64 0, .slice ag gs.length cg]
        have Rbsb := Rbsa.set #[.int .i64 p, .slice ad2 ds2.length cap2, .slice am2 ms2.length capm2, .int .i64 0, .slice ag gs.length cg]
        have Rcsb := Rcsa.off nbc.symm #[.int .i64 p, .slice ad2 ds2.length cap2, .slice am2 ms2.length capm2, .int .i64 0, .slice ag gs.length cg]
        have Tc : Below w6.heap.size w6 (((V.setRow ga #[.int .i64 p, .slice ad2 ds2.length cap2, .slice am2 ms2.length capm2, .int .i64 0, .slice af fs.length cf]).setRow gb #[.int .i64 p, .slice ad2 ds2.length cap2, .slice am2 ms2.length capm2, .int .i64 0, .slice ag gs.length cg]).setRow gc #[.int .i64 p, .slice ad2 ds2.length cap2, .slice am2 ms2.length capm2, .int .i64 1, .slice ah hs.length ch]) := below_setRow Tb (by omega) _
        refine held_one (i := 14) (by kernel_rfl) ?_
        refine op_row (i := 14) rfl rfl rfl 69 (.tmp 16) (.tmp 50) rfl gc #[.int .i64 p, .slice ad2 ds2.length cap2, .slice am2 ms2.length capm2, .int .i64 1, .slice ah hs.length ch] (by kernel_rfl) (by kernel_rfl) 69 _ Rcsb (infoGr _ _ _ _ _) (by kernel_rfl) (by kernel_rfl) ?_
        refine ⟨Tc, ?_⟩
        have Rasc := Rasb.off nac #[.int .i64 p, .slice ad2 ds2.length cap2, .slice am2 ms2.length capm2, .int .i64 1, .slice ah hs.length ch]
        have Rbsc := Rbsb.off nbc #[.int .i64 p, .slice ad2 ds2.length cap2, .slice am2 ms2.length capm2, .int .i64 1, .slice ah hs.length ch]
        have Rcsc := Rcsb.set #[.int .i64 p, .slice ad2 ds2.length cap2, .slice am2 ms2.length capm2, .int .i64 1, .slice ah hs.length ch]
        refine wpAnyH_done (by kernel_rfl) ?_ _
        simp only [Act.put, List.setIfInBounds_toArray, List.set_cons_zero, List.set_cons_succ]
        have HBW := Lib.hid Tc
        have HRA := Lib.hid Rasc
        have HRB := Lib.hid Rbsc
        have HRC := Lib.hid Rcsc
        obtain ⟨w7, hw7⟩ : ∃ w7, w7 = (((V.setRow ga #[.int .i64 p, .slice ad2 ds2.length cap2, .slice am2 ms2.length capm2, .int .i64 0, .slice af fs.length cf]).setRow gb #[.int .i64 p, .slice ad2 ds2.length cap2, .slice am2 ms2.length capm2, .int .i64 0, .slice ag gs.length cg]).setRow gc #[.int .i64 p, .slice ad2 ds2.length cap2, .slice am2 ms2.length capm2, .int .i64 1, .slice ah hs.length ch]) := ⟨_, rfl⟩
        rw [← hw7] at HBW HRA HRB HRC ⊢
        clear hw7 Ta Tb Tc SV S0 Ra Rb Rc nab nac nbc la lb lc Rasa Rasb Rasc Rbsa Rbsb Rbsc Rcsa Rcsb Rcsc hsz6
        have HB7 := Lib.hid (HN6x.out _ HBW.out)
        have HN7 := Lib.hid (HNX.out _ HB7.out)
        have c0 := HN7.out.1.c0
        have c1 := HN7.out.1.c1
        have c2 := HN7.out.1.c2
        have d0 := HN7.out.2.1.c0
        have d1 := HN7.out.2.1.c1
        have d2 := HN7.out.2.1.c2
        have hwp : IntKind.i64.wrap (p - 1) = p - 1 := IntWalk.i64_in _ (by omega)
        go_upto_region 11 with fail
        clear c0 c1 c2 d0 d1 d2
        obtain ⟨w4', hw4⟩ : ∃ W : World, W = w7 := ⟨_, rfl⟩
        clear hw4
        have HNX4 : Hid (∀ W, Below w7.heap.size w7 W → Bx w W w.heap.size p (.slice ad ds.length cap) (.slice am ms.length capm) ds ms ∧ Bx w W (w.heap.size + 1) p (.slice ad2 ds2.length cap2) (.slice am2 ms2.length capm2) ds2 ms2 ∧ Rz W ga 69 #[.int .i64 p, .slice ad2 ds2.length cap2, .slice am2 ms2.length capm2, .int .i64 0, .slice af fs.length cf] ∧ Rz W gb 69 #[.int .i64 p, .slice ad2 ds2.length cap2, .slice am2 ms2.length capm2, .int .i64 0, .slice ag gs.length cg] ∧ Rz W gc 69 #[.int .i64 p, .slice ad2 ds2.length cap2, .slice am2 ms2.length capm2, .int .i64 1, .slice ah hs.length ch] ∧ L3 0 W (.slice af fs.length cf) fs ∧ L3 0 W (.slice ag gs.length cg) gs ∧ L3 0 W (.slice ah hs.length ch) hs) := Lib.hid (fun W hb => by
          have h0 := HNX.out W (HB7.out.trans (hb.mono HB7.out.size))
          exact ⟨h0.1, h0.2.1, HRA.out.next hb, HRB.out.next hb, HRC.out.next hb, h0.2.2.1.1, h0.2.2.1.2.1, h0.2.2.1.2.2⟩)
        refine wp_region_held (S := fun W => Below w7.heap.size w7 W) (by kernel_rfl) ?_
        have S0 : Below w7.heap.size w7 w7.drew := (Below.refl _ _).drew
        change wpAnyH _ _ _ _ _ _ _ _ w7.drew
        obtain ⟨wd, hwd⟩ : ∃ wd, wd = w7.drew := ⟨_, rfl⟩
        rw [← hwd] at S0 ⊢
        clear hwd w4'
        refine held_take (i := 0) (v := .agg #[.int .i64 p, .slice ad ds.length cap, .slice am ms.length capm]) (some 54) rfl rfl (by kernel_rfl) (by kernel_rfl) (by kernel_rfl) (fun _ _ _ h => h) (yieldsIf_cell (by kernel_rfl) rfl (by kernel_rfl) (fun W h => hload3x (HNX4.out W h).1)) S0 ?_
        refine held_take (i := 1) (v := .agg #[.int .i64 p, .slice ad2 ds2.length cap2, .slice am2 ms2.length capm2]) (some 55) rfl rfl (by kernel_rfl) (by kernel_rfl) (by kernel_rfl) (fun _ _ _ h => h) (yieldsIf_cell (by kernel_rfl) rfl (by kernel_rfl) (fun W h => hload3x (HNX4.out W h).2.1)) S0 ?_
        refine held_take (i := 2) (v := .agg #[.int .i64 p, .slice ad2 ds2.length cap2, .slice am2 ms2.length capm2, .int .i64 0, .slice af fs.length cf]) (some 56) rfl rfl (by kernel_rfl) (by kernel_rfl) (by kernel_rfl) (fun _ _ _ h => h) (yieldsIf_cell (by kernel_rfl) rfl (by kernel_rfl) (fun W h => hloadGr W (HNX4.out W h).2.2.1)) S0 ?_
        refine held_take (i := 3) (v := .func (.func 66) #[.agg #[.int .i64 p, .slice ad2 ds2.length cap2, .slice am2 ms2.length capm2, .int .i64 0, .slice af fs.length cf]] #[]) (some 57) rfl rfl (by kernel_rfl) (by kernel_rfl) (by kernel_rfl) (fun _ _ _ h => h) (yieldsIf_run (by kernel_rfl) (fun W _ => by kernel_rfl)) S0 ?_
        refine held_take (i := 6) (v := .int .i64 (p - 1)) (some 60) rfl rfl (by kernel_rfl) (by kernel_rfl) (by kernel_rfl) (fun _ _ _ h => h) (yieldsIf_move (by kernel_rfl) rfl (by kernel_rfl)) S0 ?_
        refine held_take (i := 7) (v := .agg #[.int .i64 p, .slice ad2 ds2.length cap2, .slice am2 ms2.length capm2, .int .i64 0, .slice ag gs.length cg]) (some 61) rfl rfl (by kernel_rfl) (by kernel_rfl) (by kernel_rfl) (fun _ _ _ h => h) (yieldsIf_cell (by kernel_rfl) rfl (by kernel_rfl) (fun W h => hloadGr W (HNX4.out W h).2.2.2.1)) S0 ?_
        refine held_take (i := 8) (v := .func (.func 66) #[.agg #[.int .i64 p, .slice ad2 ds2.length cap2, .slice am2 ms2.length capm2, .int .i64 0, .slice ag gs.length cg]] #[]) (some 62) rfl rfl (by kernel_rfl) (by kernel_rfl) (by kernel_rfl) (fun _ _ _ h => h) (yieldsIf_run (by kernel_rfl) (fun W _ => by kernel_rfl)) S0 ?_
        refine held_take (i := 11) (v := .int .i64 (p - 1)) (some 65) rfl rfl (by kernel_rfl) (by kernel_rfl) (by kernel_rfl) (fun _ _ _ h => h) (yieldsIf_move (by kernel_rfl) rfl (by kernel_rfl)) S0 ?_
        refine held_take (i := 12) (v := .agg #[.int .i64 p, .slice ad2 ds2.length cap2, .slice am2 ms2.length capm2, .int .i64 1, .slice ah hs.length ch]) (some 66) rfl rfl (by kernel_rfl) (by kernel_rfl) (by kernel_rfl) (fun _ _ _ h => h) (yieldsIf_cell (by kernel_rfl) rfl (by kernel_rfl) (fun W h => hloadGr W (HNX4.out W h).2.2.2.2.1)) S0 ?_
        refine held_take (i := 13) (v := .func (.func 66) #[.agg #[.int .i64 p, .slice ad2 ds2.length cap2, .slice am2 ms2.length capm2, .int .i64 1, .slice ah hs.length ch]] #[]) (some 67) rfl rfl (by kernel_rfl) (by kernel_rfl) (by kernel_rfl) (fun _ _ _ h => h) (yieldsIf_run (by kernel_rfl) (fun W _ => by kernel_rfl)) S0 ?_
        refine held_take (i := 14) (v := .agg #[.int .i64 p, .slice ad2 ds2.length cap2, .slice am2 ms2.length capm2]) (some 68) rfl rfl (by kernel_rfl) (by kernel_rfl) (by kernel_rfl) (fun _ _ _ h => h) (yieldsIf_cell (by kernel_rfl) rfl (by kernel_rfl) (fun W h => hload3x (HNX4.out W h).2.1)) S0 ?_
        refine held_take (i := 19) (v := .int .i64 (p - 1)) (some 73) rfl rfl (by kernel_rfl) (by kernel_rfl) (by kernel_rfl) (fun _ _ _ h => h) (yieldsIf_move (by kernel_rfl) rfl (by kernel_rfl)) S0 ?_
        refine held_take (i := 20) (v := .agg #[.int .i64 p, .slice ad ds.length cap, .slice am ms.length capm]) (some 74) rfl rfl (by kernel_rfl) (by kernel_rfl) (by kernel_rfl) (fun _ _ _ h => h) (yieldsIf_cell (by kernel_rfl) rfl (by kernel_rfl) (fun W h => hload3x (HNX4.out W h).1)) S0 ?_
        refine held_take (i := 23) (v := .agg #[.int .i64 p, .slice ad2 ds2.length cap2, .slice am2 ms2.length capm2, .int .i64 1, .slice ah hs.length ch]) (some 77) rfl rfl (by kernel_rfl) (by kernel_rfl) (by kernel_rfl) (fun _ _ _ h => h) (yieldsIf_cell (by kernel_rfl) rfl (by kernel_rfl) (fun W h => hloadGr W (HNX4.out W h).2.2.2.2.1)) S0 ?_
        refine held_take (i := 24) (v := .func (.func 66) #[.agg #[.int .i64 p, .slice ad2 ds2.length cap2, .slice am2 ms2.length capm2, .int .i64 1, .slice ah hs.length ch]] #[]) (some 78) rfl rfl (by kernel_rfl) (by kernel_rfl) (by kernel_rfl) (fun _ _ _ h => h) (yieldsIf_run (by kernel_rfl) (fun W _ => by kernel_rfl)) S0 ?_
        refine held_two (i := 4) (j := 9) (by kernel_rfl) ?_ ?_
        · obtain ⟨V1, hV1⟩ : ∃ W', W' = wd.alloc (.cells #[.func (.func 66) #[.agg #[.int .i64 p, .slice ad2 ds2.length cap2, .slice am2 ms2.length capm2, .int .i64 0, .slice af fs.length cf]] #[]] 75) := ⟨_, rfl⟩
          have hb1 : Below wd.heap.size wd V1 := by rw [hV1]; exact below_alloc1 _ _
          have S1 : Below w7.heap.size w7 V1 := S0.trans (hb1.mono S0.size)
          have xa0_1 : V1.cell? ⟨wd.heap.size, 0, none⟩ = some (.func (.func 66) #[.agg #[.int .i64 p, .slice ad2 ds2.length cap2, .slice am2 ms2.length capm2, .int .i64 0, .slice af fs.length cf]] #[]) := by rw [hV1]; simp
          refine op_mem (i := 4) (v := .slice (some ⟨wd.heap.size, 0, none⟩) 1 1) (w' := V1) (some 58) rfl rfl rfl (by rw [hV1]; go_simp) ?_
          refine ⟨S1, ?_⟩
          refine held_two (i := 5) (j := 9) (by kernel_rfl) ?_ ?_
          · refine op_enter (i := 5) (some 59) (f := 65) (args := #[.int .i64 1, .slice (some ⟨wd.heap.size, 0, none⟩) 1 1]) rfl rfl rfl (by kernel_rfl) (along_any _ _ 1 1 V1) ?_ (fun c w' h => by cases h.1) (fun w' h => by cases h.1)
            rintro e2 V2 ⟨he2, hb2⟩
            injection he2 with he2
            subst he2
            have S2 : Below w7.heap.size w7 V2 := S1.trans (hb2.mono S1.size)
            have xa0_2 := later hb2 (Nat.le_refl _) xa0_1
            refine ⟨S2, ?_⟩
            obtain ⟨V3, hV3⟩ : ∃ W', W' = V2.alloc (.cells #[.func (.func 66) #[.agg #[.int .i64 p, .slice ad2 ds2.length cap2, .slice am2 ms2.length capm2, .int .i64 0, .slice ag gs.length cg]] #[]] 75) := ⟨_, rfl⟩
            have hb3 : Below V2.heap.size V2 V3 := by rw [hV3]; exact below_alloc1 _ _
            have S3 : Below w7.heap.size w7 V3 := S2.trans (hb3.mono S2.size)
            have xa0_3 := later hb3 (Nat.le_refl _) xa0_2
            have xb0_3 : V3.cell? ⟨V2.heap.size, 0, none⟩ = some (.func (.func 66) #[.agg #[.int .i64 p, .slice ad2 ds2.length cap2, .slice am2 ms2.length capm2, .int .i64 0, .slice ag gs.length cg]] #[]) := by rw [hV3]; simp
            refine held_one (i := 9) (by kernel_rfl) ?_
            refine op_mem (i := 9) (v := .slice (some ⟨V2.heap.size, 0, none⟩) 1 1) (w' := V3) (some 63) rfl rfl rfl (by rw [hV3]; go_simp) ?_
            refine ⟨S3, ?_⟩
            refine held_one (i := 10) (by kernel_rfl) ?_
            refine op_enter (i := 10) (some 64) (f := 65) (args := #[.int .i64 (p - 1), .slice (some ⟨V2.heap.size, 0, none⟩) 1 1]) rfl rfl rfl (by kernel_rfl) (along_any _ _ 1 1 V3) ?_ (fun c w' h => by cases h.1) (fun w' h => by cases h.1)
            rintro e4 V4 ⟨he4, hb4⟩
            injection he4 with he4
            subst he4
            have S4 : Below w7.heap.size w7 V4 := S3.trans (hb4.mono S3.size)
            have xa0_4 := later hb4 (Nat.le_refl _) xa0_3
            have xb0_4 := later hb4 (Nat.le_refl _) xb0_3
            refine ⟨S4, ?_⟩
            refine held_one (i := 15) (by kernel_rfl) ?_
            refine op_enter (i := 15) (some 69) (f := 67) (args := #[.agg #[.int .i64 p, .slice ad2 ds2.length cap2, .slice am2 ms2.length capm2]]) rfl rfl rfl (by kernel_rfl) (differentialMap_any p _ _ ds2 ms2 V4 (HNX4.out V4 S4).2.1.cx HE.out.y) ?_ (fun c w' h => by obtain ⟨_, h, _⟩ := h; cases h) (fun w' h => by obtain ⟨_, h, _⟩ := h; cases h)
            rintro e5 V5 ⟨uy5, he5, hB, hb5⟩
            injection he5 with he5
            subst he5
            obtain ⟨ub, cb, rfl⟩ := Sl.shape hB
            have S5 : Below w7.heap.size w7 V5 := S4.trans (hb5.mono S4.size)
            have xa0_5 := later hb5 (Nat.le_refl _) xa0_4
            have xb0_5 := later hb5 (Nat.le_refl _) xb0_4
            refine ⟨S5, ?_⟩
            refine held_take (i := 16) (v := .func (.func 66) #[.agg #[.int .i64 p, .slice ad2 ds2.length cap2, .slice am2 ms2.length capm2, .int .i64 (-1), .slice ub (dfL ds2 ms2).length cb]] #[]) (some 70) rfl rfl (by kernel_rfl) (by kernel_rfl) (by kernel_rfl) (fun _ _ _ h => h) (yieldsIf_run (by kernel_rfl) (fun W _ => by kernel_rfl)) S5 ?_
            obtain ⟨V6, hV6⟩ : ∃ W', W' = V5.alloc (.cells #[.func (.func 66) #[.agg #[.int .i64 p, .slice ad2 ds2.length cap2, .slice am2 ms2.length capm2, .int .i64 1, .slice ah hs.length ch]] #[], .func (.func 66) #[.agg #[.int .i64 p, .slice ad2 ds2.length cap2, .slice am2 ms2.length capm2, .int .i64 (-1), .slice ub (dfL ds2 ms2).length cb]] #[]] 75) := ⟨_, rfl⟩
            have hb6 : Below V5.heap.size V5 V6 := by rw [hV6]; exact below_alloc1 _ _
            have S6 : Below w7.heap.size w7 V6 := S5.trans (hb6.mono S5.size)
            have xa0_6 := later hb6 (Nat.le_refl _) xa0_5
            have xb0_6 := later hb6 (Nat.le_refl _) xb0_5
            have hB_6 := hB.below hb6
            have xc0_6 : V6.cell? ⟨V5.heap.size, 0, none⟩ = some (.func (.func 66) #[.agg #[.int .i64 p, .slice ad2 ds2.length cap2, .slice am2 ms2.length capm2, .int .i64 1, .slice ah hs.length ch]] #[]) := by rw [hV6]; simp
            have xc1_6 : V6.cell? ⟨V5.heap.size, 1, none⟩ = some (.func (.func 66) #[.agg #[.int .i64 p, .slice ad2 ds2.length cap2, .slice am2 ms2.length capm2, .int .i64 (-1), .slice ub (dfL ds2 ms2).length cb]] #[]) := by rw [hV6]; simp
            refine held_one (i := 17) (by kernel_rfl) ?_
            refine op_mem (i := 17) (v := .slice (some ⟨V5.heap.size, 0, none⟩) 2 2) (w' := V6) (some 71) rfl rfl rfl (by rw [hV6]; go_simp) ?_
            refine ⟨S6, ?_⟩
            refine held_one (i := 18) (by kernel_rfl) ?_
            refine op_enter (i := 18) (some 72) (f := 65) (args := #[.int .i64 (p - 1), .slice (some ⟨V5.heap.size, 0, none⟩) 2 2]) rfl rfl rfl (by kernel_rfl) (along_any _ _ 2 2 V6) ?_ (fun c w' h => by cases h.1) (fun w' h => by cases h.1)
            rintro e7 V7 ⟨he7, hb7⟩
            injection he7 with he7
            subst he7
            have S7 : Below w7.heap.size w7 V7 := S6.trans (hb7.mono S6.size)
            have xa0_7 := later hb7 (Nat.le_refl _) xa0_6
            have xb0_7 := later hb7 (Nat.le_refl _) xb0_6
            have hB_7 := hB_6.below hb7
            have xc0_7 := later hb7 (Nat.le_refl _) xc0_6
            have xc1_7 := later hb7 (Nat.le_refl _) xc1_6
            refine ⟨S7, ?_⟩
            refine held_one (i := 21) (by kernel_rfl) ?_
            refine op_enter (i := 21) (some 75) (f := 67) (args := #[.agg #[.int .i64 p, .slice ad ds.length cap, .slice am ms.length capm]]) rfl rfl rfl (by kernel_rfl) (differentialMap_any p _ _ ds ms V7 (HNX4.out V7 S7).1.cx HE.out.x) ?_ (fun c w' h => by obtain ⟨_, h, _⟩ := h; cases h) (fun w' h => by obtain ⟨_, h, _⟩ := h; cases h)
            rintro e8 V8 ⟨ux8, he8, hA, hb8⟩
            injection he8 with he8
            subst he8
            obtain ⟨ua, ca, rfl⟩ := Sl.shape hA
            have S8 : Below w7.heap.size w7 V8 := S7.trans (hb8.mono S7.size)
            have xa0_8 := later hb8 (Nat.le_refl _) xa0_7
            have xb0_8 := later hb8 (Nat.le_refl _) xb0_7
            have hB_8 := hB_7.below hb8
            have xc0_8 := later hb8 (Nat.le_refl _) xc0_7
            have xc1_8 := later hb8 (Nat.le_refl _) xc1_7
            refine ⟨S8, ?_⟩
            refine held_take (i := 22) (v := .func (.func 66) #[.agg #[.int .i64 p, .slice ad ds.length cap, .slice am ms.length capm, .int .i64 (-1), .slice ua (dfL ds ms).length ca]] #[]) (some 76) rfl rfl (by kernel_rfl) (by kernel_rfl) (by kernel_rfl) (fun _ _ _ h => h) (yieldsIf_run (by kernel_rfl) (fun W _ => by kernel_rfl)) S8 ?_
            obtain ⟨V9, hV9⟩ : ∃ W', W' = V8.alloc (.cells #[.func (.func 66) #[.agg #[.int .i64 p, .slice ad ds.length cap, .slice am ms.length capm, .int .i64 (-1), .slice ua (dfL ds ms).length ca]] #[], .func (.func 66) #[.agg #[.int .i64 p, .slice ad2 ds2.length cap2, .slice am2 ms2.length capm2, .int .i64 1, .slice ah hs.length ch]] #[]] 75) := ⟨_, rfl⟩
            have hb9 : Below V8.heap.size V8 V9 := by rw [hV9]; exact below_alloc1 _ _
            have S9 : Below w7.heap.size w7 V9 := S8.trans (hb9.mono S8.size)
            have xa0_9 := later hb9 (Nat.le_refl _) xa0_8
            have xb0_9 := later hb9 (Nat.le_refl _) xb0_8
            have hB_9 := hB_8.below hb9
            have xc0_9 := later hb9 (Nat.le_refl _) xc0_8
            have xc1_9 := later hb9 (Nat.le_refl _) xc1_8
            have hA_9 := hA.below hb9
            have xd0_9 : V9.cell? ⟨V8.heap.size, 0, none⟩ = some (.func (.func 66) #[.agg #[.int .i64 p, .slice ad ds.length cap, .slice am ms.length capm, .int .i64 (-1), .slice ua (dfL ds ms).length ca]] #[]) := by rw [hV9]; simp
            have xd1_9 : V9.cell? ⟨V8.heap.size, 1, none⟩ = some (.func (.func 66) #[.agg #[.int .i64 p, .slice ad2 ds2.length cap2, .slice am2 ms2.length capm2, .int .i64 1, .slice ah hs.length ch]] #[]) := by rw [hV9]; simp
            refine held_one (i := 25) (by kernel_rfl) ?_
            refine op_mem (i := 25) (v := .slice (some ⟨V8.heap.size, 0, none⟩) 2 2) (w' := V9) (some 79) rfl rfl rfl (by rw [hV9]; go_simp) ?_
            refine ⟨S9, ?_⟩
            refine held_one (i := 26) (by kernel_rfl) ?_
            refine op_enter (i := 26) (some 80) (f := 65) (args := #[.int .i64 (p - 1), .slice (some ⟨V8.heap.size, 0, none⟩) 2 2]) rfl rfl rfl (by kernel_rfl) (along_any _ _ 2 2 V9) ?_ (fun c w' h => by cases h.1) (fun w' h => by cases h.1)
            rintro e10 V10 ⟨he10, hb10⟩
            injection he10 with he10
            subst he10
            have S10 : Below w7.heap.size w7 V10 := S9.trans (hb10.mono S9.size)
            have xa0_10 := later hb10 (Nat.le_refl _) xa0_9
            have xb0_10 := later hb10 (Nat.le_refl _) xb0_9
            have hB_10 := hB_9.below hb10
            have xc0_10 := later hb10 (Nat.le_refl _) xc0_9
            have xc1_10 := later hb10 (Nat.le_refl _) xc1_9
            have hA_10 := hA_9.below hb10
            have xd0_10 := later hb10 (Nat.le_refl _) xd0_9
            have xd1_10 := later hb10 (Nat.le_refl _) xd1_9
            refine ⟨S10, ?_⟩
            obtain ⟨V11, hV11⟩ : ∃ W', W' = V10.alloc (.cells #[.int .i64 1, .slice (some ⟨wd.heap.size, 0, none⟩) 1 1, .int .i64 (p - 1), .slice (some ⟨V2.heap.size, 0, none⟩) 1 1, .int .i64 (p - 1), .slice (some ⟨V5.heap.size, 0, none⟩) 2 2, .int .i64 (p - 1), .slice (some ⟨V8.heap.size, 0, none⟩) 2 2] 73) := ⟨_, rfl⟩
            have hb11 : Below V10.heap.size V10 V11 := by rw [hV11]; exact below_alloc1 _ _
            have S11 : Below w7.heap.size w7 V11 := S10.trans (hb11.mono S10.size)
            have xa0_11 := later hb11 (Nat.le_refl _) xa0_10
            have xb0_11 := later hb11 (Nat.le_refl _) xb0_10
            have hB_11 := hB_10.below hb11
            have xc0_11 := later hb11 (Nat.le_refl _) xc0_10
            have xc1_11 := later hb11 (Nat.le_refl _) xc1_10
            have hA_11 := hA_10.below hb11
            have xd0_11 := later hb11 (Nat.le_refl _) xd0_10
            have xd1_11 := later hb11 (Nat.le_refl _) xd1_10
            have xp0_11 : V11.cell? ⟨V10.heap.size, 0, none⟩ = some (.int .i64 1) := by rw [hV11]; simp
            have xp1_11 : V11.cell? ⟨V10.heap.size, 1, none⟩ = some (.slice (some ⟨wd.heap.size, 0, none⟩) 1 1) := by rw [hV11]; simp
            have xp2_11 : V11.cell? ⟨V10.heap.size, 2, none⟩ = some (.int .i64 (p - 1)) := by rw [hV11]; simp
            have xp3_11 : V11.cell? ⟨V10.heap.size, 3, none⟩ = some (.slice (some ⟨V2.heap.size, 0, none⟩) 1 1) := by rw [hV11]; simp
            have xp4_11 : V11.cell? ⟨V10.heap.size, 4, none⟩ = some (.int .i64 (p - 1)) := by rw [hV11]; simp
            have xp5_11 : V11.cell? ⟨V10.heap.size, 5, none⟩ = some (.slice (some ⟨V5.heap.size, 0, none⟩) 2 2) := by rw [hV11]; simp
            have xp6_11 : V11.cell? ⟨V10.heap.size, 6, none⟩ = some (.int .i64 (p - 1)) := by rw [hV11]; simp
            have xp7_11 : V11.cell? ⟨V10.heap.size, 7, none⟩ = some (.slice (some ⟨V8.heap.size, 0, none⟩) 2 2) := by rw [hV11]; simp
            refine held_one (i := 27) (by kernel_rfl) ?_
            refine op_mem (i := 27) (v := .slice (some ⟨V10.heap.size, 0, none⟩) 4 4) (w' := V11) (some 81) rfl rfl rfl (by rw [hV11]; go_simp) ?_
            refine ⟨S11, ?_⟩
            have hN := HNX4.out V11 S11
            have hcon := hoSum_any p (V10.heap.size) (wd.heap.size) (V2.heap.size) (V5.heap.size) (V8.heap.size) _ _ _ _ _ _ _ _ _ ds ms ds2 ms2 fs gs hs V11 hN.1.cx hN.2.1.cx hN.2.2.2.2.2.1 hN.2.2.2.2.2.2.1 hN.2.2.2.2.2.2.2 hA_11 hB_11 HE.out.x HE.out.y HE.out.len HFO.out HGO.out HHO.out xp0_11 xp1_11 xp2_11 xp3_11 xp4_11 xp5_11 xp6_11 xp7_11 xa0_11 xb0_11 xc0_11 xc1_11 xd0_11 xd1_11
            refine held_one (i := 28) (by kernel_rfl) ?_
            refine op_enter (i := 28) (some 82) (f := 64) (args := #[.agg #[.int .i64 p, .slice ad ds.length cap, .slice am ms.length capm], .agg #[.int .i64 p, .slice ad2 ds2.length cap2, .slice am2 ms2.length capm2], .int .i64 0, .slice (some ⟨V10.heap.size, 0, none⟩) 4 4]) rfl rfl rfl (by kernel_rfl) (hcon) ?_ (fun c w' h => by obtain ⟨_, h, _⟩ := h; cases h) (fun w' h => by obtain ⟨_, h, _⟩ := h; cases h)
            rintro e12 V12 ⟨uF, he12, hrF, hb12⟩
            injection he12 with he12
            subst he12
            obtain ⟨auF, cuF, hsF⟩ := hrF.shape
            obtain ⟨nF, hnF⟩ : ∃ n, n = (famL ds.length (rsF ds) (csF ds2 0) (hoZ p ds ms ds2 ms2 fs gs hs)).length := ⟨_, rfl⟩
            rw [← hnF] at hsF
            subst hsF
            have S12 : Below w7.heap.size w7 V12 := S11.trans (hb12.mono S11.size)
            refine ⟨S12, ?_⟩
            refine held_take (i := 29) (v := .slice auF nF cuF) (some 18) rfl rfl (by kernel_rfl) (by kernel_rfl) (by kernel_rfl) (fun _ _ _ h => h) (yieldsIf_assign (by kernel_rfl) rfl (by kernel_rfl)) S12 ?_
            refine wpAnyH_done (by kernel_rfl) ?_ _
            simp only [Act.put, List.setIfInBounds_toArray, List.set_cons_zero, List.set_cons_succ]
            have HRF := Lib.hid hrF.l
            have HSF := Lib.hid S12
            obtain ⟨wz, hwz⟩ : ∃ wz : World, wz = V12 := ⟨_, rfl⟩
            rw [← hwz] at HRF HSF ⊢
            clear hwz
            clear hcon hN hrF hnF
            have HH := Lib.hid (HNX4.out wz HSF.out)
            have HZC := Lib.hid (isZeroFamily_any (.slice auF nF cuF) _ wz HRF.out (by rw [famL_length]; omega) (fun n hn => by rw [famL_length] at hn; rw [famL_get hn, tableOf_len]; have := HE.out.x.1.dim n; simp only [rsF]; omega) (fun n hn i hi => by rw [famL_length] at hn; rw [famL_get hn, tableOf_len] at hi; rw [famL_get hn, tableOf_get hi, List.length_map, List.length_range]; have := dimZ_8 HE.out.y ((n : Int) + 0); simp only [csF]; omega))
            have HIF : Hid (ZeroF (famL ds.length (rsF ds) (csF ds2 0) (hoZ p ds ms ds2 ms2 fs gs hs)) ↔ HomOk p ds ms ds2 ms2 fs gs hs) := Lib.hid (zeroF_famL.trans (hom_iff HE.out.x.1))
            go_wp2_with fail
            refine HZC.out.mono ?_
            rintro ee w9 ⟨bb, rfl, hb9, hbb⟩
            have HB9 := Lib.hid (HH.out.1.below.trans (hb9.mono HH.out.1.below.size))
            have HBB := Lib.hid (hbb.trans HIF.out)
            clear HZC hb9 hbb
            go_wp2
            go_ret2
            exact ⟨bb, 0, rfl, HB9.out, hmS_of HCO.out HBB.out⟩
          · obtain ⟨V13, hV13⟩ : ∃ W', W' = V1.alloc (.cells #[.func (.func 66) #[.agg #[.int .i64 p, .slice ad2 ds2.length cap2, .slice am2 ms2.length capm2, .int .i64 0, .slice ag gs.length cg]] #[]] 75) := ⟨_, rfl⟩
            have hb13 : Below V1.heap.size V1 V13 := by rw [hV13]; exact below_alloc1 _ _
            have S13 : Below w7.heap.size w7 V13 := S1.trans (hb13.mono S1.size)
            have xa0_13 := later hb13 (Nat.le_refl _) xa0_1
            have xb0_13 : V13.cell? ⟨V1.heap.size, 0, none⟩ = some (.func (.func 66) #[.agg #[.int .i64 p, .slice ad2 ds2.length cap2, .slice am2 ms2.length capm2, .int .i64 0, .slice ag gs.length cg]] #[]) := by rw [hV13]; simp
            refine op_mem (i := 9) (v := .slice (some ⟨V1.heap.size, 0, none⟩) 1 1) (w' := V13) (some 63) rfl rfl rfl (by rw [hV13]; go_simp) ?_
            refine ⟨S13, ?_⟩
            refine held_one (i := 5) (by kernel_rfl) ?_
            refine op_enter (i := 5) (some 59) (f := 65) (args := #[.int .i64 1, .slice (some ⟨wd.heap.size, 0, none⟩) 1 1]) rfl rfl rfl (by kernel_rfl) (along_any _ _ 1 1 V13) ?_ (fun c w' h => by cases h.1) (fun w' h => by cases h.1)
            rintro e14 V14 ⟨he14, hb14⟩
            injection he14 with he14
            subst he14
            have S14 : Below w7.heap.size w7 V14 := S13.trans (hb14.mono S13.size)
            have xa0_14 := later hb14 (Nat.le_refl _) xa0_13
            have xb0_14 := later hb14 (Nat.le_refl _) xb0_13
            refine ⟨S14, ?_⟩
            refine held_one (i := 10) (by kernel_rfl) ?_
            refine op_enter (i := 10) (some 64) (f := 65) (args := #[.int .i64 (p - 1), .slice (some ⟨V1.heap.size, 0, none⟩) 1 1]) rfl rfl rfl (by kernel_rfl) (along_any _ _ 1 1 V14) ?_ (fun c w' h => by cases h.1) (fun w' h => by cases h.1)
            rintro e15 V15 ⟨he15, hb15⟩
            injection he15 with he15
            subst he15
            have S15 : Below w7.heap.size w7 V15 := S14.trans (hb15.mono S14.size)
            have xa0_15 := later hb15 (Nat.le_refl _) xa0_14
            have xb0_15 := later hb15 (Nat.le_refl _) xb0_14
            refine ⟨S15, ?_⟩
            refine held_one (i := 15) (by kernel_rfl) ?_
            refine op_enter (i := 15) (some 69) (f := 67) (args := #[.agg #[.int .i64 p, .slice ad2 ds2.length cap2, .slice am2 ms2.length capm2]]) rfl rfl rfl (by kernel_rfl) (differentialMap_any p _ _ ds2 ms2 V15 (HNX4.out V15 S15).2.1.cx HE.out.y) ?_ (fun c w' h => by obtain ⟨_, h, _⟩ := h; cases h) (fun w' h => by obtain ⟨_, h, _⟩ := h; cases h)
            rintro e16 V16 ⟨uy16, he16, hB, hb16⟩
            injection he16 with he16
            subst he16
            obtain ⟨ub, cb, rfl⟩ := Sl.shape hB
            have S16 : Below w7.heap.size w7 V16 := S15.trans (hb16.mono S15.size)
            have xa0_16 := later hb16 (Nat.le_refl _) xa0_15
            have xb0_16 := later hb16 (Nat.le_refl _) xb0_15
            refine ⟨S16, ?_⟩
            refine held_take (i := 16) (v := .func (.func 66) #[.agg #[.int .i64 p, .slice ad2 ds2.length cap2, .slice am2 ms2.length capm2, .int .i64 (-1), .slice ub (dfL ds2 ms2).length cb]] #[]) (some 70) rfl rfl (by kernel_rfl) (by kernel_rfl) (by kernel_rfl) (fun _ _ _ h => h) (yieldsIf_run (by kernel_rfl) (fun W _ => by kernel_rfl)) S16 ?_
            obtain ⟨V17, hV17⟩ : ∃ W', W' = V16.alloc (.cells #[.func (.func 66) #[.agg #[.int .i64 p, .slice ad2 ds2.length cap2, .slice am2 ms2.length capm2, .int .i64 1, .slice ah hs.length ch]] #[], .func (.func 66) #[.agg #[.int .i64 p, .slice ad2 ds2.length cap2, .slice am2 ms2.length capm2, .int .i64 (-1), .slice ub (dfL ds2 ms2).length cb]] #[]] 75) := ⟨_, rfl⟩
            have hb17 : Below V16.heap.size V16 V17 := by rw [hV17]; exact below_alloc1 _ _
            have S17 : Below w7.heap.size w7 V17 := S16.trans (hb17.mono S16.size)
            have xa0_17 := later hb17 (Nat.le_refl _) xa0_16
            have xb0_17 := later hb17 (Nat.le_refl _) xb0_16
            have hB_17 := hB.below hb17
            have xc0_17 : V17.cell? ⟨V16.heap.size, 0, none⟩ = some (.func (.func 66) #[.agg #[.int .i64 p, .slice ad2 ds2.length cap2, .slice am2 ms2.length capm2, .int .i64 1, .slice ah hs.length ch]] #[]) := by rw [hV17]; simp
            have xc1_17 : V17.cell? ⟨V16.heap.size, 1, none⟩ = some (.func (.func 66) #[.agg #[.int .i64 p, .slice ad2 ds2.length cap2, .slice am2 ms2.length capm2, .int .i64 (-1), .slice ub (dfL ds2 ms2).length cb]] #[]) := by rw [hV17]; simp
            refine held_one (i := 17) (by kernel_rfl) ?_
            refine op_mem (i := 17) (v := .slice (some ⟨V16.heap.size, 0, none⟩) 2 2) (w' := V17) (some 71) rfl rfl rfl (by rw [hV17]; go_simp) ?_
            refine ⟨S17, ?_⟩
            refine held_one (i := 18) (by kernel_rfl) ?_
            refine op_enter (i := 18) (some 72) (f := 65) (args := #[.int .i64 (p - 1), .slice (some ⟨V16.heap.size, 0, none⟩) 2 2]) rfl rfl rfl (by kernel_rfl) (along_any _ _ 2 2 V17) ?_ (fun c w' h => by cases h.1) (fun w' h => by cases h.1)
            rintro e18 V18 ⟨he18, hb18⟩
            injection he18 with he18
            subst he18
            have S18 : Below w7.heap.size w7 V18 := S17.trans (hb18.mono S17.size)
            have xa0_18 := later hb18 (Nat.le_refl _) xa0_17
            have xb0_18 := later hb18 (Nat.le_refl _) xb0_17
            have hB_18 := hB_17.below hb18
            have xc0_18 := later hb18 (Nat.le_refl _) xc0_17
            have xc1_18 := later hb18 (Nat.le_refl _) xc1_17
            refine ⟨S18, ?_⟩
            refine held_one (i := 21) (by kernel_rfl) ?_
            refine op_enter (i := 21) (some 75) (f := 67) (args := #[.agg #[.int .i64 p, .slice ad ds.length cap, .slice am ms.length capm]]) rfl rfl rfl (by kernel_rfl) (differentialMap_any p _ _ ds ms V18 (HNX4.out V18 S18).1.cx HE.out.x) ?_ (fun c w' h => by obtain ⟨_, h, _⟩ := h; cases h) (fun w' h => by obtain ⟨_, h, _⟩ := h; cases h)
            rintro e19 V19 ⟨ux19, he19, hA, hb19⟩
            injection he19 with he19
            subst he19
            obtain ⟨ua, ca, rfl⟩ := Sl.shape hA
            have S19 : Below w7.heap.size w7 V19 := S18.trans (hb19.mono S18.size)
            have xa0_19 := later hb19 (Nat.le_refl _) xa0_18
            have xb0_19 := later hb19 (Nat.le_refl _) xb0_18
            have hB_19 := hB_18.below hb19
            have xc0_19 := later hb19 (Nat.le_refl _) xc0_18
            have xc1_19 := later hb19 (Nat.le_refl _) xc1_18
            refine ⟨S19, ?_⟩
            refine held_take (i := 22) (v := .func (.func 66) #[.agg #[.int .i64 p, .slice ad ds.length cap, .slice am ms.length capm, .int .i64 (-1), .slice ua (dfL ds ms).length ca]] #[]) (some 76) rfl rfl (by kernel_rfl) (by kernel_rfl) (by kernel_rfl) (fun _ _ _ h => h) (yieldsIf_run (by kernel_rfl) (fun W _ => by kernel_rfl)) S19 ?_
            obtain ⟨V20, hV20⟩ : ∃ W', W' = V19.alloc (.cells #[.func (.func 66) #[.agg #[.int .i64 p, .slice ad ds.length cap, .slice am ms.length capm, .int .i64 (-1), .slice ua (dfL ds ms).length ca]] #[], .func (.func 66) #[.agg #[.int .i64 p, .slice ad2 ds2.length cap2, .slice am2 ms2.length capm2, .int .i64 1, .slice ah hs.length ch]] #[]] 75) := ⟨_, rfl⟩
            have hb20 : Below V19.heap.size V19 V20 := by rw [hV20]; exact below_alloc1 _ _
            have S20 : Below w7.heap.size w7 V20 := S19.trans (hb20.mono S19.size)
            have xa0_20 := later hb20 (Nat.le_refl _) xa0_19
            have xb0_20 := later hb20 (Nat.le_refl _) xb0_19
            have hB_20 := hB_19.below hb20
            have xc0_20 := later hb20 (Nat.le_refl _) xc0_19
            have xc1_20 := later hb20 (Nat.le_refl _) xc1_19
            have hA_20 := hA.below hb20
            have xd0_20 : V20.cell? ⟨V19.heap.size, 0, none⟩ = some (.func (.func 66) #[.agg #[.int .i64 p, .slice ad ds.length cap, .slice am ms.length capm, .int .i64 (-1), .slice ua (dfL ds ms).length ca]] #[]) := by rw [hV20]; simp
            have xd1_20 : V20.cell? ⟨V19.heap.size, 1, none⟩ = some (.func (.func 66) #[.agg #[.int .i64 p, .slice ad2 ds2.length cap2, .slice am2 ms2.length capm2, .int .i64 1, .slice ah hs.length ch]] #[]) := by rw [hV20]; simp
            refine held_one (i := 25) (by kernel_rfl) ?_
            refine op_mem (i := 25) (v := .slice (some ⟨V19.heap.size, 0, none⟩) 2 2) (w' := V20) (some 79) rfl rfl rfl (by rw [hV20]; go_simp) ?_
            refine ⟨S20, ?_⟩
            refine held_one (i := 26) (by kernel_rfl) ?_
            refine op_enter (i := 26) (some 80) (f := 65) (args := #[.int .i64 (p - 1), .slice (some ⟨V19.heap.size, 0, none⟩) 2 2]) rfl rfl rfl (by kernel_rfl) (along_any _ _ 2 2 V20) ?_ (fun c w' h => by cases h.1) (fun w' h => by cases h.1)
            rintro e21 V21 ⟨he21, hb21⟩
            injection he21 with he21
            subst he21
            have S21 : Below w7.heap.size w7 V21 := S20.trans (hb21.mono S20.size)
            have xa0_21 := later hb21 (Nat.le_refl _) xa0_20
            have xb0_21 := later hb21 (Nat.le_refl _) xb0_20
            have hB_21 := hB_20.below hb21
            have xc0_21 := later hb21 (Nat.le_refl _) xc0_20
            have xc1_21 := later hb21 (Nat.le_refl _) xc1_20
            have hA_21 := hA_20.below hb21
            have xd0_21 := later hb21 (Nat.le_refl _) xd0_20
            have xd1_21 := later hb21 (Nat.le_refl _) xd1_20
            refine ⟨S21, ?_⟩
            obtain ⟨V22, hV22⟩ : ∃ W', W' = V21.alloc (.cells #[.int .i64 1, .slice (some ⟨wd.heap.size, 0, none⟩) 1 1, .int .i64 (p - 1), .slice (some ⟨V1.heap.size, 0, none⟩) 1 1, .int .i64 (p - 1), .slice (some ⟨V16.heap.size, 0, none⟩) 2 2, .int .i64 (p - 1), .slice (some ⟨V19.heap.size, 0, none⟩) 2 2] 73) := ⟨_, rfl⟩
            have hb22 : Below V21.heap.size V21 V22 := by rw [hV22]; exact below_alloc1 _ _
            have S22 : Below w7.heap.size w7 V22 := S21.trans (hb22.mono S21.size)
            have xa0_22 := later hb22 (Nat.le_refl _) xa0_21
            have xb0_22 := later hb22 (Nat.le_refl _) xb0_21
            have hB_22 := hB_21.below hb22
            have xc0_22 := later hb22 (Nat.le_refl _) xc0_21
            have xc1_22 := later hb22 (Nat.le_refl _) xc1_21
            have hA_22 := hA_21.below hb22
            have xd0_22 := later hb22 (Nat.le_refl _) xd0_21
            have xd1_22 := later hb22 (Nat.le_refl _) xd1_21
            have xp0_22 : V22.cell? ⟨V21.heap.size, 0, none⟩ = some (.int .i64 1) := by rw [hV22]; simp
            have xp1_22 : V22.cell? ⟨V21.heap.size, 1, none⟩ = some (.slice (some ⟨wd.heap.size, 0, none⟩) 1 1) := by rw [hV22]; simp
            have xp2_22 : V22.cell? ⟨V21.heap.size, 2, none⟩ = some (.int .i64 (p - 1)) := by rw [hV22]; simp
            have xp3_22 : V22.cell? ⟨V21.heap.size, 3, none⟩ = some (.slice (some ⟨V1.heap.size, 0, none⟩) 1 1) := by rw [hV22]; simp
            have xp4_22 : V22.cell? ⟨V21.heap.size, 4, none⟩ = some (.int .i64 (p - 1)) := by rw [hV22]; simp
            have xp5_22 : V22.cell? ⟨V21.heap.size, 5, none⟩ = some (.slice (some ⟨V16.heap.size, 0, none⟩) 2 2) := by rw [hV22]; simp
            have xp6_22 : V22.cell? ⟨V21.heap.size, 6, none⟩ = some (.int .i64 (p - 1)) := by rw [hV22]; simp
            have xp7_22 : V22.cell? ⟨V21.heap.size, 7, none⟩ = some (.slice (some ⟨V19.heap.size, 0, none⟩) 2 2) := by rw [hV22]; simp
            refine held_one (i := 27) (by kernel_rfl) ?_
            refine op_mem (i := 27) (v := .slice (some ⟨V21.heap.size, 0, none⟩) 4 4) (w' := V22) (some 81) rfl rfl rfl (by rw [hV22]; go_simp) ?_
            refine ⟨S22, ?_⟩
            have hN := HNX4.out V22 S22
            have hcon := hoSum_any p (V21.heap.size) (wd.heap.size) (V1.heap.size) (V16.heap.size) (V19.heap.size) _ _ _ _ _ _ _ _ _ ds ms ds2 ms2 fs gs hs V22 hN.1.cx hN.2.1.cx hN.2.2.2.2.2.1 hN.2.2.2.2.2.2.1 hN.2.2.2.2.2.2.2 hA_22 hB_22 HE.out.x HE.out.y HE.out.len HFO.out HGO.out HHO.out xp0_22 xp1_22 xp2_22 xp3_22 xp4_22 xp5_22 xp6_22 xp7_22 xa0_22 xb0_22 xc0_22 xc1_22 xd0_22 xd1_22
            refine held_one (i := 28) (by kernel_rfl) ?_
            refine op_enter (i := 28) (some 82) (f := 64) (args := #[.agg #[.int .i64 p, .slice ad ds.length cap, .slice am ms.length capm], .agg #[.int .i64 p, .slice ad2 ds2.length cap2, .slice am2 ms2.length capm2], .int .i64 0, .slice (some ⟨V21.heap.size, 0, none⟩) 4 4]) rfl rfl rfl (by kernel_rfl) (hcon) ?_ (fun c w' h => by obtain ⟨_, h, _⟩ := h; cases h) (fun w' h => by obtain ⟨_, h, _⟩ := h; cases h)
            rintro e23 V23 ⟨uF, he23, hrF, hb23⟩
            injection he23 with he23
            subst he23
            obtain ⟨auF, cuF, hsF⟩ := hrF.shape
            obtain ⟨nF, hnF⟩ : ∃ n, n = (famL ds.length (rsF ds) (csF ds2 0) (hoZ p ds ms ds2 ms2 fs gs hs)).length := ⟨_, rfl⟩
            rw [← hnF] at hsF
            subst hsF
            have S23 : Below w7.heap.size w7 V23 := S22.trans (hb23.mono S22.size)
            refine ⟨S23, ?_⟩
            refine held_take (i := 29) (v := .slice auF nF cuF) (some 18) rfl rfl (by kernel_rfl) (by kernel_rfl) (by kernel_rfl) (fun _ _ _ h => h) (yieldsIf_assign (by kernel_rfl) rfl (by kernel_rfl)) S23 ?_
            refine wpAnyH_done (by kernel_rfl) ?_ _
            simp only [Act.put, List.setIfInBounds_toArray, List.set_cons_zero, List.set_cons_succ]
            have HRF := Lib.hid hrF.l
            have HSF := Lib.hid S23
            obtain ⟨wz, hwz⟩ : ∃ wz : World, wz = V23 := ⟨_, rfl⟩
            rw [← hwz] at HRF HSF ⊢
            clear hwz
            clear hcon hN hrF hnF
            have HH := Lib.hid (HNX4.out wz HSF.out)
            have HZC := Lib.hid (isZeroFamily_any (.slice auF nF cuF) _ wz HRF.out (by rw [famL_length]; omega) (fun n hn => by rw [famL_length] at hn; rw [famL_get hn, tableOf_len]; have := HE.out.x.1.dim n; simp only [rsF]; omega) (fun n hn i hi => by rw [famL_length] at hn; rw [famL_get hn, tableOf_len] at hi; rw [famL_get hn, tableOf_get hi, List.length_map, List.length_range]; have := dimZ_8 HE.out.y ((n : Int) + 0); simp only [csF]; omega))
            have HIF : Hid (ZeroF (famL ds.length (rsF ds) (csF ds2 0) (hoZ p ds ms ds2 ms2 fs gs hs)) ↔ HomOk p ds ms ds2 ms2 fs gs hs) := Lib.hid (zeroF_famL.trans (hom_iff HE.out.x.1))
            go_wp2_with fail
            refine HZC.out.mono ?_
            rintro ee w9 ⟨bb, rfl, hb9, hbb⟩
            have HB9 := Lib.hid (HH.out.1.below.trans (hb9.mono HH.out.1.below.size))
            have HBB := Lib.hid (hbb.trans HIF.out)
            clear HZC hb9 hbb
            go_wp2
            go_ret2
            exact ⟨bb, 0, rfl, HB9.out, hmS_of HCO.out HBB.out⟩
        · obtain ⟨V24, hV24⟩ : ∃ W', W' = wd.alloc (.cells #[.func (.func 66) #[.agg #[.int .i64 p, .slice ad2 ds2.length cap2, .slice am2 ms2.length capm2, .int .i64 0, .slice ag gs.length cg]] #[]] 75) := ⟨_, rfl⟩
          have hb24 : Below wd.heap.size wd V24 := by rw [hV24]; exact below_alloc1 _ _
          have S24 : Below w7.heap.size w7 V24 := S0.trans (hb24.mono S0.size)
          have xb0_24 : V24.cell? ⟨wd.heap.size, 0, none⟩ = some (.func (.func 66) #[.agg #[.int .i64 p, .slice ad2 ds2.length cap2, .slice am2 ms2.length capm2, .int .i64 0, .slice ag gs.length cg]] #[]) := by rw [hV24]; simp
          refine op_mem (i := 9) (v := .slice (some ⟨wd.heap.size, 0, none⟩) 1 1) (w' := V24) (some 63) rfl rfl rfl (by rw [hV24]; go_simp) ?_
          refine ⟨S24, ?_⟩
          obtain ⟨V25, hV25⟩ : ∃ W', W' = V24.alloc (.cells #[.func (.func 66) #[.agg #[.int .i64 p, .slice ad2 ds2.length cap2, .slice am2 ms2.length capm2, .int .i64 0, .slice af fs.length cf]] #[]] 75) := ⟨_, rfl⟩
          have hb25 : Below V24.heap.size V24 V25 := by rw [hV25]; exact below_alloc1 _ _
          have S25 : Below w7.heap.size w7 V25 := S24.trans (hb25.mono S24.size)
          have xb0_25 := later hb25 (Nat.le_refl _) xb0_24
          have xa0_25 : V25.cell? ⟨V24.heap.size, 0, none⟩ = some (.func (.func 66) #[.agg #[.int .i64 p, .slice ad2 ds2.length cap2, .slice am2 ms2.length capm2, .int .i64 0, .slice af fs.length cf]] #[]) := by rw [hV25]; simp
          refine held_one (i := 4) (by kernel_rfl) ?_
          refine op_mem (i := 4) (v := .slice (some ⟨V24.heap.size, 0, none⟩) 1 1) (w' := V25) (some 58) rfl rfl rfl (by rw [hV25]; go_simp) ?_
          refine ⟨S25, ?_⟩
          refine held_one (i := 5) (by kernel_rfl) ?_
          refine op_enter (i := 5) (some 59) (f := 65) (args := #[.int .i64 1, .slice (some ⟨V24.heap.size, 0, none⟩) 1 1]) rfl rfl rfl (by kernel_rfl) (along_any _ _ 1 1 V25) ?_ (fun c w' h => by cases h.1) (fun w' h => by cases h.1)
          rintro e26 V26 ⟨he26, hb26⟩
          injection he26 with he26
          subst he26
          have S26 : Below w7.heap.size w7 V26 := S25.trans (hb26.mono S25.size)
          have xb0_26 := later hb26 (Nat.le_refl _) xb0_25
          have xa0_26 := later hb26 (Nat.le_refl _) xa0_25
          refine ⟨S26, ?_⟩
          refine held_one (i := 10) (by kernel_rfl) ?_
          refine op_enter (i := 10) (some 64) (f := 65) (args := #[.int .i64 (p - 1), .slice (some ⟨wd.heap.size, 0, none⟩) 1 1]) rfl rfl rfl (by kernel_rfl) (along_any _ _ 1 1 V26) ?_ (fun c w' h => by cases h.1) (fun w' h => by cases h.1)
          rintro e27 V27 ⟨he27, hb27⟩
          injection he27 with he27
          subst he27
          have S27 : Below w7.heap.size w7 V27 := S26.trans (hb27.mono S26.size)
          have xb0_27 := later hb27 (Nat.le_refl _) xb0_26
          have xa0_27 := later hb27 (Nat.le_refl _) xa0_26
          refine ⟨S27, ?_⟩
          refine held_one (i := 15) (by kernel_rfl) ?_
          refine op_enter (i := 15) (some 69) (f := 67) (args := #[.agg #[.int .i64 p, .slice ad2 ds2.length cap2, .slice am2 ms2.length capm2]]) rfl rfl rfl (by kernel_rfl) (differentialMap_any p _ _ ds2 ms2 V27 (HNX4.out V27 S27).2.1.cx HE.out.y) ?_ (fun c w' h => by obtain ⟨_, h, _⟩ := h; cases h) (fun w' h => by obtain ⟨_, h, _⟩ := h; cases h)
          rintro e28 V28 ⟨uy28, he28, hB, hb28⟩
          injection he28 with he28
          subst he28
          obtain ⟨ub, cb, rfl⟩ := Sl.shape hB
          have S28 : Below w7.heap.size w7 V28 := S27.trans (hb28.mono S27.size)
          have xb0_28 := later hb28 (Nat.le_refl _) xb0_27
          have xa0_28 := later hb28 (Nat.le_refl _) xa0_27
          refine ⟨S28, ?_⟩
          refine held_take (i := 16) (v := .func (.func 66) #[.agg #[.int .i64 p, .slice ad2 ds2.length cap2, .slice am2 ms2.length capm2, .int .i64 (-1), .slice ub (dfL ds2 ms2).length cb]] #[]) (some 70) rfl rfl (by kernel_rfl) (by kernel_rfl) (by kernel_rfl) (fun _ _ _ h => h) (yieldsIf_run (by kernel_rfl) (fun W _ => by kernel_rfl)) S28 ?_
          obtain ⟨V29, hV29⟩ : ∃ W', W' = V28.alloc (.cells #[.func (.func 66) #[.agg #[.int .i64 p, .slice ad2 ds2.length cap2, .slice am2 ms2.length capm2, .int .i64 1, .slice ah hs.length ch]] #[], .func (.func 66) #[.agg #[.int .i64 p, .slice ad2 ds2.length cap2, .slice am2 ms2.length capm2, .int .i64 (-1), .slice ub (dfL ds2 ms2).length cb]] #[]] 75) := ⟨_, rfl⟩
          have hb29 : Below V28.heap.size V28 V29 := by rw [hV29]; exact below_alloc1 _ _
          have S29 : Below w7.heap.size w7 V29 := S28.trans (hb29.mono S28.size)
          have xb0_29 := later hb29 (Nat.le_refl _) xb0_28
          have xa0_29 := later hb29 (Nat.le_refl _) xa0_28
          have hB_29 := hB.below hb29
          have xc0_29 : V29.cell? ⟨V28.heap.size, 0, none⟩ = some (.func (.func 66) #[.agg #[.int .i64 p, .slice ad2 ds2.length cap2, .slice am2 ms2.length capm2, .int .i64 1, .slice ah hs.length ch]] #[]) := by rw [hV29]; simp
          have xc1_29 : V29.cell? ⟨V28.heap.size, 1, none⟩ = some (.func (.func 66) #[.agg #[.int .i64 p, .slice ad2 ds2.length cap2, .slice am2 ms2.length capm2, .int .i64 (-1), .slice ub (dfL ds2 ms2).length cb]] #[]) := by rw [hV29]; simp
          refine held_one (i := 17) (by kernel_rfl) ?_
          refine op_mem (i := 17) (v := .slice (some ⟨V28.heap.size, 0, none⟩) 2 2) (w' := V29) (some 71) rfl rfl rfl (by rw [hV29]; go_simp) ?_
          refine ⟨S29, ?_⟩
          refine held_one (i := 18) (by kernel_rfl) ?_
          refine op_enter (i := 18) (some 72) (f := 65) (args := #[.int .i64 (p - 1), .slice (some ⟨V28.heap.size, 0, none⟩) 2 2]) rfl rfl rfl (by kernel_rfl) (along_any _ _ 2 2 V29) ?_ (fun c w' h => by cases h.1) (fun w' h => by cases h.1)
          rintro e30 V30 ⟨he30, hb30⟩
          injection he30 with he30
          subst he30
          have S30 : Below w7.heap.size w7 V30 := S29.trans (hb30.mono S29.size)
          have xb0_30 := later hb30 (Nat.le_refl _) xb0_29
          have xa0_30 := later hb30 (Nat.le_refl _) xa0_29
          have hB_30 := hB_29.below hb30
          have xc0_30 := later hb30 (Nat.le_refl _) xc0_29
          have xc1_30 := later hb30 (Nat.le_refl _) xc1_29
          refine ⟨S30, ?_⟩
          refine held_one (i := 21) (by kernel_rfl) ?_
          refine op_enter (i := 21) (some 75) (f := 67) (args := #[.agg #[.int .i64 p, .slice ad ds.length cap, .slice am ms.length capm]]) rfl rfl rfl (by kernel_rfl) (differentialMap_any p _ _ ds ms V30 (HNX4.out V30 S30).1.cx HE.out.x) ?_ (fun c w' h => by obtain ⟨_, h, _⟩ := h; cases h) (fun w' h => by obtain ⟨_, h, _⟩ := h; cases h)
          rintro e31 V31 ⟨ux31, he31, hA, hb31⟩
          injection he31 with he31
          subst he31
          obtain ⟨ua, ca, rfl⟩ := Sl.shape hA
          have S31 : Below w7.heap.size w7 V31 := S30.trans (hb31.mono S30.size)
          have xb0_31 := later hb31 (Nat.le_refl _) xb0_30
          have xa0_31 := later hb31 (Nat.le_refl _) xa0_30
          have hB_31 := hB_30.below hb31
          have xc0_31 := later hb31 (Nat.le_refl _) xc0_30
          have xc1_31 := later hb31 (Nat.le_refl _) xc1_30
          refine ⟨S31, ?_⟩
          refine held_take (i := 22) (v := .func (.func 66) #[.agg #[.int .i64 p, .slice ad ds.length cap, .slice am ms.length capm, .int .i64 (-1), .slice ua (dfL ds ms).length ca]] #[]) (some 76) rfl rfl (by kernel_rfl) (by kernel_rfl) (by kernel_rfl) (fun _ _ _ h => h) (yieldsIf_run (by kernel_rfl) (fun W _ => by kernel_rfl)) S31 ?_
          obtain ⟨V32, hV32⟩ : ∃ W', W' = V31.alloc (.cells #[.func (.func 66) #[.agg #[.int .i64 p, .slice ad ds.length cap, .slice am ms.length capm, .int .i64 (-1), .slice ua (dfL ds ms).length ca]] #[], .func (.func 66) #[.agg #[.int .i64 p, .slice ad2 ds2.length cap2, .slice am2 ms2.length capm2, .int .i64 1, .slice ah hs.length ch]] #[]] 75) := ⟨_, rfl⟩
          have hb32 : Below V31.heap.size V31 V32 := by rw [hV32]; exact below_alloc1 _ _
          have S32 : Below w7.heap.size w7 V32 := S31.trans (hb32.mono S31.size)
          have xb0_32 := later hb32 (Nat.le_refl _) xb0_31
          have xa0_32 := later hb32 (Nat.le_refl _) xa0_31
          have hB_32 := hB_31.below hb32
          have xc0_32 := later hb32 (Nat.le_refl _) xc0_31
          have xc1_32 := later hb32 (Nat.le_refl _) xc1_31
          have hA_32 := hA.below hb32
          have xd0_32 : V32.cell? ⟨V31.heap.size, 0, none⟩ = some (.func (.func 66) #[.agg #[.int .i64 p, .slice ad ds.length cap, .slice am ms.length capm, .int .i64 (-1), .slice ua (dfL ds ms).length ca]] #[]) := by rw [hV32]; simp
          have xd1_32 : V32.cell? ⟨V31.heap.size, 1, none⟩ = some (.func (.func 66) #[.agg #[.int .i64 p, .slice ad2 ds2.length cap2, .slice am2 ms2.length capm2, .int .i64 1, .slice ah hs.length ch]] #[]) := by rw [hV32]; simp
          refine held_one (i := 25) (by kernel_rfl) ?_
          refine op_mem (i := 25) (v := .slice (some ⟨V31.heap.size, 0, none⟩) 2 2) (w' := V32) (some 79) rfl rfl rfl (by rw [hV32]; go_simp) ?_
          refine ⟨S32, ?_⟩
          refine held_one (i := 26) (by kernel_rfl) ?_
          refine op_enter (i := 26) (some 80) (f := 65) (args := #[.int .i64 (p - 1), .slice (some ⟨V31.heap.size, 0, none⟩) 2 2]) rfl rfl rfl (by kernel_rfl) (along_any _ _ 2 2 V32) ?_ (fun c w' h => by cases h.1) (fun w' h => by cases h.1)
          rintro e33 V33 ⟨he33, hb33⟩
          injection he33 with he33
          subst he33
          have S33 : Below w7.heap.size w7 V33 := S32.trans (hb33.mono S32.size)
          have xb0_33 := later hb33 (Nat.le_refl _) xb0_32
          have xa0_33 := later hb33 (Nat.le_refl _) xa0_32
          have hB_33 := hB_32.below hb33
          have xc0_33 := later hb33 (Nat.le_refl _) xc0_32
          have xc1_33 := later hb33 (Nat.le_refl _) xc1_32
          have hA_33 := hA_32.below hb33
          have xd0_33 := later hb33 (Nat.le_refl _) xd0_32
          have xd1_33 := later hb33 (Nat.le_refl _) xd1_32
          refine ⟨S33, ?_⟩
          obtain ⟨V34, hV34⟩ : ∃ W', W' = V33.alloc (.cells #[.int .i64 1, .slice (some ⟨V24.heap.size, 0, none⟩) 1 1, .int .i64 (p - 1), .slice (some ⟨wd.heap.size, 0, none⟩) 1 1, .int .i64 (p - 1), .slice (some ⟨V28.heap.size, 0, none⟩) 2 2, .int .i64 (p - 1), .slice (some ⟨V31.heap.size, 0, none⟩) 2 2] 73) := ⟨_, rfl⟩
          have hb34 : Below V33.heap.size V33 V34 := by rw [hV34]; exact below_alloc1 _ _
          have S34 : Below w7.heap.size w7 V34 := S33.trans (hb34.mono S33.size)
          have xb0_34 := later hb34 (Nat.le_refl _) xb0_33
          have xa0_34 := later hb34 (Nat.le_refl _) xa0_33
          have hB_34 := hB_33.below hb34
          have xc0_34 := later hb34 (Nat.le_refl _) xc0_33
          have xc1_34 := later hb34 (Nat.le_refl _) xc1_33
          have hA_34 := hA_33.below hb34
          have xd0_34 := later hb34 (Nat.le_refl _) xd0_33
          have xd1_34 := later hb34 (Nat.le_refl _) xd1_33
          have xp0_34 : V34.cell? ⟨V33.heap.size, 0, none⟩ = some (.int .i64 1) := by rw [hV34]; simp
          have xp1_34 : V34.cell? ⟨V33.heap.size, 1, none⟩ = some (.slice (some ⟨V24.heap.size, 0, none⟩) 1 1) := by rw [hV34]; simp
          have xp2_34 : V34.cell? ⟨V33.heap.size, 2, none⟩ = some (.int .i64 (p - 1)) := by rw [hV34]; simp
          have xp3_34 : V34.cell? ⟨V33.heap.size, 3, none⟩ = some (.slice (some ⟨wd.heap.size, 0, none⟩) 1 1) := by rw [hV34]; simp
          have xp4_34 : V34.cell? ⟨V33.heap.size, 4, none⟩ = some (.int .i64 (p - 1)) := by rw [hV34]; simp
          have xp5_34 : V34.cell? ⟨V33.heap.size, 5, none⟩ = some (.slice (some ⟨V28.heap.size, 0, none⟩) 2 2) := by rw [hV34]; simp
          have xp6_34 : V34.cell? ⟨V33.heap.size, 6, none⟩ = some (.int .i64 (p - 1)) := by rw [hV34]; simp
          have xp7_34 : V34.cell? ⟨V33.heap.size, 7, none⟩ = some (.slice (some ⟨V31.heap.size, 0, none⟩) 2 2) := by rw [hV34]; simp
          refine held_one (i := 27) (by kernel_rfl) ?_
          refine op_mem (i := 27) (v := .slice (some ⟨V33.heap.size, 0, none⟩) 4 4) (w' := V34) (some 81) rfl rfl rfl (by rw [hV34]; go_simp) ?_
          refine ⟨S34, ?_⟩
          have hN := HNX4.out V34 S34
          have hcon := hoSum_any p (V33.heap.size) (V24.heap.size) (wd.heap.size) (V28.heap.size) (V31.heap.size) _ _ _ _ _ _ _ _ _ ds ms ds2 ms2 fs gs hs V34 hN.1.cx hN.2.1.cx hN.2.2.2.2.2.1 hN.2.2.2.2.2.2.1 hN.2.2.2.2.2.2.2 hA_34 hB_34 HE.out.x HE.out.y HE.out.len HFO.out HGO.out HHO.out xp0_34 xp1_34 xp2_34 xp3_34 xp4_34 xp5_34 xp6_34 xp7_34 xa0_34 xb0_34 xc0_34 xc1_34 xd0_34 xd1_34
          refine held_one (i := 28) (by kernel_rfl) ?_
          refine op_enter (i := 28) (some 82) (f := 64) (args := #[.agg #[.int .i64 p, .slice ad ds.length cap, .slice am ms.length capm], .agg #[.int .i64 p, .slice ad2 ds2.length cap2, .slice am2 ms2.length capm2], .int .i64 0, .slice (some ⟨V33.heap.size, 0, none⟩) 4 4]) rfl rfl rfl (by kernel_rfl) (hcon) ?_ (fun c w' h => by obtain ⟨_, h, _⟩ := h; cases h) (fun w' h => by obtain ⟨_, h, _⟩ := h; cases h)
          rintro e35 V35 ⟨uF, he35, hrF, hb35⟩
          injection he35 with he35
          subst he35
          obtain ⟨auF, cuF, hsF⟩ := hrF.shape
          obtain ⟨nF, hnF⟩ : ∃ n, n = (famL ds.length (rsF ds) (csF ds2 0) (hoZ p ds ms ds2 ms2 fs gs hs)).length := ⟨_, rfl⟩
          rw [← hnF] at hsF
          subst hsF
          have S35 : Below w7.heap.size w7 V35 := S34.trans (hb35.mono S34.size)
          refine ⟨S35, ?_⟩
          refine held_take (i := 29) (v := .slice auF nF cuF) (some 18) rfl rfl (by kernel_rfl) (by kernel_rfl) (by kernel_rfl) (fun _ _ _ h => h) (yieldsIf_assign (by kernel_rfl) rfl (by kernel_rfl)) S35 ?_
          refine wpAnyH_done (by kernel_rfl) ?_ _
          simp only [Act.put, List.setIfInBounds_toArray, List.set_cons_zero, List.set_cons_succ]
          have HRF := Lib.hid hrF.l
          have HSF := Lib.hid S35
          obtain ⟨wz, hwz⟩ : ∃ wz : World, wz = V35 := ⟨_, rfl⟩
          rw [← hwz] at HRF HSF ⊢
          clear hwz
          clear hcon hN hrF hnF
          have HH := Lib.hid (HNX4.out wz HSF.out)
          have HZC := Lib.hid (isZeroFamily_any (.slice auF nF cuF) _ wz HRF.out (by rw [famL_length]; omega) (fun n hn => by rw [famL_length] at hn; rw [famL_get hn, tableOf_len]; have := HE.out.x.1.dim n; simp only [rsF]; omega) (fun n hn i hi => by rw [famL_length] at hn; rw [famL_get hn, tableOf_len] at hi; rw [famL_get hn, tableOf_get hi, List.length_map, List.length_range]; have := dimZ_8 HE.out.y ((n : Int) + 0); simp only [csF]; omega))
          have HIF : Hid (ZeroF (famL ds.length (rsF ds) (csF ds2 0) (hoZ p ds ms ds2 ms2 fs gs hs)) ↔ HomOk p ds ms ds2 ms2 fs gs hs) := Lib.hid (zeroF_famL.trans (hom_iff HE.out.x.1))
          go_wp2_with fail
          refine HZC.out.mono ?_
          rintro ee w9 ⟨bb, rfl, hb9, hbb⟩
          have HB9 := Lib.hid (HH.out.1.below.trans (hb9.mono HH.out.1.below.size))
          have HBB := Lib.hid (hbb.trans HIF.out)
          clear HZC hb9 hbb
          go_wp2
          go_ret2
          exact ⟨bb, 0, rfl, HB9.out, hmS_of HCO.out HBB.out⟩
      · have HCO : Hid (HmS p p ds ms ds2 ms2 fs gs hs false 5) := Lib.hid (hmS_bad ((hmCode_in HEC.out.symm HHO.out).trans (mapCode_no rfl hno)).symm (by decide))
        clear hno
        go_wp2
        go_ret2
        exact ⟨false, 5, rfl, HN6.out.1.below, HCO.out⟩
    · obtain rfl : bb = false := by
        cases bb with
        | false => rfl
        | true => exact absurd (hbb.1 rfl) hho
      have HCO : Hid (HmS p p ds ms ds2 ms2 fs gs hs false 2) := Lib.hid (hmS_bad (by rw [hmCode_out HEC.out.symm hho]) (by decide))
      clear hbb hho
      go_wp2
      go_ret2
      exact ⟨false, 2, rfl, HN4.out.1.below, HCO.out⟩
  · have HNE : Hid (HmS p p2 ds ms ds2 ms2 fs gs hs false ec) := Lib.hid (hmS_bad (HEC.out.trans (hmCode_ne (by rw [← HEC.out]; exact h0)).symm) h0)
    have hne2 : (ec != 0) = true := by simp [h0]
    have hne3 : (ec == 0) = false := by simp [h0]
    clear h0
    go_wp2
    go_ret2
    exact ⟨false, ec, rfl, HN3.out.1.below, HNE.out⟩
end Go.Proofs.YtpchbceohnabnabDoor


namespace Go.Proofs.YtpchbceohnabnabDoor
open Go.RowKit

set_option maxHeartbeats 1600000 in
set_option maxRecDepth 100000 in
theorem l04ImageB_any (p p2 s : Int) (n c2 : Nat) (dv mv dv2 mv2 fv vv : Value) (ds : List Int) (ms : List (List (List Int))) (ds2 : List Int) (ms2 : List (List (List Int))) (fs : List (List (List Int))) (vs : List Int) (w : World) (h : Cx 0 w dv mv ds ms) (h2 : Cx 0 w dv2 mv2 ds2 ms2) (hf : L3 0 w fv fs) (hv : L1 0 w vv vs) (hcy : IsCx p2 ds2 ms2) (hn : n < fs.length) (hnb : n ≤ 100) (hs : -1 ≤ s ∧ s ≤ 1) (hc2 : dimZ ds2 ((n : Int) + s) = (c2 : Int)) (ok : ApOk p c2 vs (fs.getD n [])) (hmv : vs.length ≤ 1048576) :
    Calls Tryd.prog 60 #[.agg #[.int .i64 p, dv, mv], .agg #[.int .i64 p2, dv2, mv2], fv, .int .i64 (n : Int), .int .i64 s, vv] w (ApB p c2 vs (fs.getD n []) w) := by
  obtain ⟨ad, cap, rfl⟩ := Sl.shape h.dims
  obtain ⟨am, capm, rfl⟩ := Sl.shape h.maps
  obtain ⟨ad2, cap2, rfl⟩ := Sl.shape h2.dims
  obtain ⟨am2, capm2, rfl⟩ := Sl.shape h2.maps
  obtain ⟨af, cf, rfl⟩ := Sl.shape hf
  obtain ⟨av, cv, rfl⟩ := Sl.shape hv
  obtain ⟨k1, k2⟩ := bx_two (p := p) (p2 := p2) 30 h h2
  have HX0 := Lib.hid k1
  have HY0 := Lib.hid k2
  obtain ⟨w1, hw1⟩ : ∃ w1, w1 = ((w.alloc (.cells #[.int .i64 p, .slice ad ds.length cap, .slice am ms.length capm] 30)).alloc (.cells #[.int .i64 p2, .slice ad2 ds2.length cap2, .slice am2 ms2.length capm2] 30)) := ⟨_, rfl⟩
  rw [← hw1] at HX0 HY0
  have hb01 : Below w.heap.size w w1 := HX0.out.below
  have HB01 := Lib.hid hb01
  have HF0 := Lib.hid (hf.below hb01)
  have HNX : Hid (∀ W, Below w1.heap.size w1 W → Bx w W w.heap.size p (.slice ad ds.length cap) (.slice am ms.length capm) ds ms) := Lib.hid (fun W h => HX0.out.next h)
  have HNY : Hid (∀ W, Below w1.heap.size w1 W → Bx w W (w.heap.size + 1) p2 (.slice ad2 ds2.length cap2) (.slice am2 ms2.length capm2) ds2 ms2) := Lib.hid (fun W h => HY0.out.next h)
  have HV0 := Lib.hid (hv.below hb01)
  have HCY := Lib.hid hcy
  have HOK := Lib.hid ok
  have hl7 := hcy.1.len1
  have hc28 : c2 ≤ 8 := by have := dimZ_b hcy ((n : Int) + s); omega
  obtain ⟨hs0, hs1⟩ := hs
  refine Sl.cases HF0.out (fun _ _ hx _ => absurd hn (by simp [hx])) (fun bf of cf2 hvf _ _ hcf => ?_)
  injection hvf with e1 e2 e3
  clear e2
  subst e1 e3
  obtain ⟨ut, hut, hrt⟩ := hcf n hn
  rw [← getD_of_lt [] hn] at hrt
  have HRT := Lib.hid hrt
  have HDA : Hid (∀ W, Below w1.heap.size w1 W → Calls Tryd.prog 58 #[.agg #[.int .i64 p2, .slice ad2 ds2.length cap2, .slice am2 ms2.length capm2], .int .i64 ((n : Int) + s)] W (BR (.int .i64 (c2 : Int)) W)) := Lib.hid (fun W h => by
    have := l01Dim_any p2 ((n : Int) + s) _ _ ds2 ms2 W (HNY.out W h).cx (by omega)
    rwa [hc2] at this)
  have c0 := HX0.out.c0
  have d0 := HY0.out.c0
  have d1 := HY0.out.c1
  have d2 := HY0.out.c2
  have HSP : Hid (∀ W, Below w1.heap.size w1 W → W.cell? ⟨bf, of + n, none⟩ = some ut ∧ W.cell? ⟨w.heap.size, 0, none⟩ = some (.int .i64 p) ∧ W.cell? ⟨w.heap.size + 1, 0, none⟩ = some (.int .i64 p2) ∧ W.cell? ⟨w.heap.size + 1, 1, none⟩ = some (.slice ad2 ds2.length cap2) ∧ W.cell? ⟨w.heap.size + 1, 2, none⟩ = some (.slice am2 ms2.length capm2) ∧ Hid (Below w1.heap.size w1 W)) := Lib.hid (fun W h => ⟨later h (Nat.le_refl _) hut, later h (Nat.le_refl _) c0, later h (Nat.le_refl _) d0, later h (Nat.le_refl _) d1, later h (Nat.le_refl _) d2, Lib.hid h⟩)
  have HDD : Hid (Below w1.heap.size w1 w1.drew) := Lib.hid (Below.refl _ _).drew
  have HAP : Hid (∀ W, Below w1.heap.size w1 W → Calls Tryd.prog 87 #[.int .i64 p, ut, .slice av vs.length cv, .int .i64 (c2 : Int)] W (ApB p c2 vs (fs.getD n []) W)) := Lib.hid (fun W h => l01ApplyB_any p c2 _ _ vs _ W HOK.out (HV0.out.below h) (HRT.out.below h) hmv (by omega))
  have hwk : IntKind.i64.wrap ((n : Int) + s) = (n : Int) + s := IntWalk.i64_in _ (by omega)
  have hi0 : (0 : Int) ≤ (n : Int) := by omega
  have hi1 : (n : Int) < (fs.length : Int) := by omega
  clear h h2 hf hv hcy hc2 ok hcf hrt k1 k2 hb01 HX0 HY0
  go_enter Tryd.func60, Tryd.ntmps60
  go_upto_region 1 with fail
  rw [← hw1]
  clear hw1
  go_region_held3 (fun W => W.cell? ⟨bf, of + n, none⟩ = some ut ∧ W.cell? ⟨w.heap.size, 0, none⟩ = some (.int .i64 p) ∧ W.cell? ⟨w.heap.size + 1, 0, none⟩ = some (.int .i64 p2) ∧ W.cell? ⟨w.heap.size + 1, 1, none⟩ = some (.slice ad2 ds2.length cap2) ∧ W.cell? ⟨w.heap.size + 1, 2, none⟩ = some (.slice am2 ms2.length capm2) ∧ Hid (Below w1.heap.size w1 W))
    (first | exact HSP.out _ (Below.refl _ _) | exact HSP.out _ HDD.out | exact HSP.out _ HB4.out | exact HSP.out _ HB5.out | go_keep)
    (first
      | (go_at_call 58; (with_reducible refine (HDA.out _ HDD.out).mono ?_); rintro e w4 ⟨rfl, hb4⟩; have HB4 : Hid (Below w1.heap.size w1 w4) := Lib.hid (HDD.out.trans hb4); clear hb4)
      | (go_at_call 87; (with_reducible refine (HAP.out _ HB4.out).mono ?_); rintro e w5 ⟨u5, rfl, hg5, hb5⟩; have HB5 : Hid (Below w1.heap.size w1 w5) := Lib.hid (HB4.out.trans (hb5.mono HB4.out.size)); have HG5 := Lib.hid (hg5.mono (HB01.out.trans (HB4.out.mono HB01.out.size)).size); clear hg5 hb5))
  have HBZ := Lib.hid (HNX.out _ HB5.out).below
  clear hwk hi0 hi1 c0 d0 d1 d2 HSP HDA HAP
  go_wp2
  go_ret
  exact ⟨u5, rfl, HG5.out, HBZ.out⟩
end Go.Proofs.YtpchbceohnabnabDoor


namespace Go.Proofs.YtpchbceohnabnabDoor
open Go.RowKit

theorem gb_butH {base g : Nat} {w W : World} {u : Value} {xs : List Int} (h : Gb base w u xs) (hg : g < base) (hb : But g w W) : Gb base W u xs := by
  refine ⟨h.1, ?_⟩
  rcases h.2 with h2 | ⟨g2, cap, cur, hu, hbb, hh, r⟩
  · exact Or.inl h2
  · exact Or.inr ⟨g2, cap, cur, hu, hbb, (hb.block g2 (Array.getElem?_eq_some_iff.1 hh).1 (by omega)).trans hh, r⟩
theorem gb_atH {base g n cap : Nat} {w : World} {xs : List Int} (h : Gb base w (.slice (some ⟨g, 0, none⟩) n cap) xs) {k : Nat} (hk : k < xs.length) : w.cell? ⟨g, k, none⟩ = some (.int .i64 xs[k]) := by
  refine Sl.cases h.l1 (fun _ _ hx _ => absurd hk (by simp [hx])) (fun b o c hv _ _ hc => ?_)
  injection hv with e1
  injection e1 with e1
  injection e1 with e1 e2
  subst e1 e2
  obtain ⟨u, hu, hr⟩ := hc k hk
  rw [hr] at hu
  simpa using hu
/-- The first k numbers are sums. -/
def mixH (p : Int) (c : Nat) (A B : List Int) (k : Nat) : List Int := (List.range c).map fun q => if q < k then (A.getD q 0 + B.getD q 0) % p else A.getD q 0
theorem mixH_len (p : Int) (c : Nat) (A B : List Int) (k : Nat) : (mixH p c A B k).length = c := by simp [mixH]
theorem mixH_zero (p : Int) {c : Nat} {A : List Int} (B : List Int) (h : A.length = c) : mixH p c A B 0 = A := by
  refine List.ext_getElem (by simp [mixH, h]) fun q h1 h2 => ?_
  simp [mixH, List.getD, h2]
theorem mixH_at {p : Int} {c : Nat} {A B : List Int} {k : Nat} (hk : k < (mixH p c A B k).length) : (mixH p c A B k)[k] = A.getD k 0 := by simp [mixH]
theorem mixH_set {p : Int} {c : Nat} (A B : List Int) {k : Nat} : (mixH p c A B k).set k ((A.getD k 0 + B.getD k 0) % p) = mixH p c A B (k + 1) := by
  refine List.ext_getElem (by simp [mixH]) fun q h1 h2 => ?_
  rw [List.getElem_set]
  by_cases e : k = q
  · subst e
    simp [mixH]
  · rw [if_neg e]
    have e2 : q < k ↔ q < k + 1 := by omega
    simp [mixH, e2]
theorem mixH_done (p : Int) (c : Nat) (A B : List Int) : mixH p c A B c = (List.range c).map fun q => (A.getD q 0 + B.getD q 0) % p :=
  List.map_congr_left fun q hq => by rw [if_pos (List.mem_range.1 hq)]
theorem hoS_zero {p : Int} {ds : List Int} {ms : List (List (List Int))} {ds2 : List Int} {ms2 hs : List (List (List Int))} (hcx : PreOk p ds ms) (hcy : PreOk p ds2 ms2) (hH : FamOk p ds ds2 1 hs) {i : Nat} (hi : i < rsF ds 0) : hoS p ds ms ds2 ms2 hs 0 i = hoA p ds2 ms2 hs 0 i := by
  have h0 := hcx.len0
  have oA := hoA_ok (ms := ms) (ms2 := ms2) hcx hcy hH (show 0 < ds.length by omega) hi
  have oB := hoB_ok hcx hcy hH (show 0 < ds.length by omega) hi
  have hl : (hoA p ds2 ms2 hs 0 i).length = csF ds2 0 0 := apT_length' oA
  have e : csF ds (-1) 0 = 0 := by simp only [csF]; rw [dimZ_neg (by omega)]; rfl
  have hd := (df_vec hcx (show 0 < ds.length by omega) hi).1
  rw [e] at hd
  have hn : ((dfL ds ms).getD 0 []).getD i [] = [] := List.eq_nil_of_length_eq_zero hd
  have hB : ∀ q, q < csF ds2 0 0 → (hoB p ds ms ds2 hs 0 i).getD q 0 = 0 := fun q hq => by
    unfold hoB
    rw [hn]
    simp [apT, apTo, List.getD, hq]
  refine List.ext_getElem (by simp [hoS, hl]) fun q h1 h2 => ?_
  have hq : q < csF ds2 0 0 := by rw [← hl]; exact h2
  have hp := apT_num oA q
  have e2 : (hoS p ds ms ds2 ms2 hs 0 i)[q] = ((hoA p ds2 ms2 hs 0 i).getD q 0 + (hoB p ds ms ds2 hs 0 i).getD q 0) % p := by simp [hoS]
  rw [e2, hB q hq, Int.add_zero, ← getD_of_lt 0 h2]
  exact Int.emod_eq_of_lt hp.1 (by have := hp.2; show (apT p _ _ _).getD q 0 < p; omega)

/-- The rows of both sides agree. -/
def RowEq (p : Int) (ds : List Int) (ms : List (List (List Int))) (ds2 : List Int) (ms2 fs gs hs : List (List (List Int))) (n i : Nat) : Prop := hoS p ds ms ds2 ms2 hs n i = (List.range (csF ds2 0 n)).map (afZ p (-1) fs gs n i)
set_option maxHeartbeats 12800000 in
set_option maxRecDepth 100000 in
theorem spIsHomotopy_any (p p2 : Int) (dv mv dv2 mv2 fv gv hv : Value) (ds : List Int) (ms : List (List (List Int))) (ds2 : List Int) (ms2 fs gs hs : List (List (List Int))) (w : World) (h : Cx 0 w dv mv ds ms) (h2 : Cx 0 w dv2 mv2 ds2 ms2) (hf : L3 0 w fv fs) (hg : L3 0 w gv gs) (hh : L3 0 w hv hs) (hd : ds.length ≤ 1048576) (hm : Bd3 1048576 ms) (hd2 : ds2.length ≤ 1048576) (hm2 : Bd3 1048576 ms2) (hmf : Bd3 1048576 fs) (hmg : Bd3 1048576 gs) (hmh : Bd3 1048576 hs) :
    Calls Tryd.prog 26 #[.agg #[.int .i64 p, dv, mv], .agg #[.int .i64 p2, dv2, mv2], fv, gv, hv] w (VrBC (HmS p p2 ds ms ds2 ms2 fs gs hs) w) := by
  obtain ⟨ad, cap, rfl⟩ := Sl.shape h.dims
  obtain ⟨am, capm, rfl⟩ := Sl.shape h.maps
  obtain ⟨ad2, cap2, rfl⟩ := Sl.shape h2.dims
  obtain ⟨am2, capm2, rfl⟩ := Sl.shape h2.maps
  obtain ⟨af, cf, rfl⟩ := Sl.shape hf
  obtain ⟨ag, cg, rfl⟩ := Sl.shape hg
  obtain ⟨ah, ch, rfl⟩ := Sl.shape hh
  obtain ⟨k1, k2⟩ := bx_two (p := p) (p2 := p2) 30 h h2
  have HX0 := Lib.hid k1
  have HY0 := Lib.hid k2
  obtain ⟨w1, hw1⟩ : ∃ w1, w1 = ((w.alloc (.cells #[.int .i64 p, .slice ad ds.length cap, .slice am ms.length capm] 30)).alloc (.cells #[.int .i64 p2, .slice ad2 ds2.length cap2, .slice am2 ms2.length capm2] 30)) := ⟨_, rfl⟩
  rw [← hw1] at HX0 HY0
  have hb01 : Below w.heap.size w w1 := HX0.out.below
  have HF0 := Lib.hid (hf.below hb01)
  have HG0 := Lib.hid (hg.below hb01)
  have HH0 := Lib.hid (hh.below hb01)
  have HNX : Hid (∀ W, Below w1.heap.size w1 W → Bx w W w.heap.size p (.slice ad ds.length cap) (.slice am ms.length capm) ds ms ∧ Bx w W (w.heap.size + 1) p2 (.slice ad2 ds2.length cap2) (.slice am2 ms2.length capm2) ds2 ms2 ∧ (L3 0 W (.slice af fs.length cf) fs ∧ L3 0 W (.slice ag gs.length cg) gs ∧ L3 0 W (.slice ah hs.length ch) hs)) := Lib.hid (fun W h => ⟨HX0.out.next h, HY0.out.next h, ⟨HF0.out.below h, HG0.out.below h, HH0.out.below h⟩⟩)
  have HMH := Lib.hid hmh
  have HBD := Lib.hid (show ds.length ≤ 1048576 ∧ Bd3 1048576 ms ∧ ds2.length ≤ 1048576 ∧ Bd3 1048576 ms2 ∧ Bd3 1048576 fs ∧ Bd3 1048576 gs from ⟨hd, hm, hd2, hm2, hmf, hmg⟩)
  have c0 := HX0.out.c0
  have c1 := HX0.out.c1
  have c2 := HX0.out.c2
  have d0 := HY0.out.c0
  have d1 := HY0.out.c1
  have d2 := HY0.out.c2
  obtain ⟨w2, hw2⟩ : ∃ w2, w2 = w1.alloc (.cells #[.slice af fs.length cf, .slice ag gs.length cg] 23) := ⟨_, rfl⟩
  have hr2 : w2.cell? ⟨w1.heap.size, 0, none⟩ = some (.slice af fs.length cf) := by rw [hw2]; exact cell_new2 _ _ _ _
  have hr3 : w2.cell? ⟨w1.heap.size, 1, none⟩ = some (.slice ag gs.length cg) := by rw [hw2]; exact cell_new2' _ _ _ _
  have hb2 : Below w1.heap.size w1 w2 := by rw [hw2]; exact below_alloc1 _ _
  have HB2 := Lib.hid hb2
  have hN2 := HNX.out _ hb2
  have HCK := Lib.hid (l04Code2_any p p2 w1.heap.size _ _ _ _ _ _ ds ms ds2 ms2 fs gs w2 hN2.1.cx hN2.2.1.cx hN2.2.2.1 hN2.2.2.2.1 hr2 hr3 hd hm hd2 hm2 hmf hmg)
  obtain ⟨ec, hec⟩ : ∃ ec, ec = famCode2 p p2 0 ds ms ds2 ms2 fs gs := ⟨_, rfl⟩
  rw [← hec] at HCK
  have HEC := Lib.hid hec
  clear h h2 hf hg hh hm hm2 hmf hmg hmh k1 k2 hr2 hr3 hb2 hb01 hec hN2
  go_enter Tryd.func26, Tryd.ntmps26
  go_upto_region 1 with fail
  rw [← hw1]
  clear hw1
  go_wp2_with fail
  rw [← hw2]
  clear hw2
  refine HCK.out.mono ?_
  rintro e w3 ⟨rfl, hb3⟩
  have HB3 := Lib.hid (HB2.out.trans (hb3.mono HB2.out.size))
  have HN3 := Lib.hid (HNX.out _ HB3.out)
  clear hb3 c0 c1 c2 d0 d1 d2 HX0 HY0 HCK HB2
  by_cases h0 : ec = 0
  · subst h0
    have hfz := famCode2_zero HEC.out.symm
    have hpp := hfz.1.prime
    subst hpp
    have HE := Lib.hid hfz.1
    have HFO := Lib.hid hfz.2.1
    have HGO := Lib.hid hfz.2.2
    have hl6 := hfz.1.x.1.len1
    have hp27 : 2 ≤ p ∧ p ≤ 7 := ⟨hfz.1.x.1.prime.lo, hfz.1.x.1.prime.hi⟩
    clear hfz
    have hdl1 : 0 < ds.length := HE.out.x.1.len0
    refine Sl.cases (HNX.out w1 (Below.refl _ _)).1.cx.dims (fun _ _ hx _ => absurd hdl1 (by simp [hx])) (fun bd od capd hvd _ _ hcl => ?_)
    injection hvd with e1 e2 e3
    clear e2
    subst e1 e3
    have HDC : Hid (∀ W, Below w1.heap.size w1 W → ∀ n, n < ds.length → W.cell? ⟨bd, od + n, none⟩ = some (.int .i64 (rsF ds n : Int))) := Lib.hid (fun W hb n hn => by
      obtain ⟨u, hu, hr⟩ := hcl n hn
      have h0 := HE.out.x.1.dim n
      rw [hr] at hu
      have e : (rsF ds n : Int) = ds[n] := by rw [← getD_of_lt 0 hn]; simp only [rsF]; omega
      rw [e]
      exact later hb (Nat.le_refl _) hu)
    clear hcl hdl1
    have c0 := HN3.out.1.c0
    have c1 := HN3.out.1.c1
    have c2 := HN3.out.1.c2
    have d0 := HN3.out.2.1.c0
    have d1 := HN3.out.2.1.c1
    have d2 := HN3.out.2.1.c2
    have HIF := Lib.hid (l04Family_any p p 1 _ _ _ _ _ ds ms ds2 ms2 hs w3 HN3.out.1.cx HN3.out.2.1.cx HN3.out.2.2.2.2 HE.out.x HE.out.y ⟨by omega, by omega⟩ HMH.out)
    go_wp2_with fail
    refine HIF.out.mono ?_
    rintro e w4 ⟨bb, rfl, hb4, hbb⟩
    have HB4 := Lib.hid (HB3.out.trans (hb4.mono HB3.out.size))
    have HN4 := Lib.hid (HNX.out _ HB4.out)
    clear c0 c1 c2 d0 d1 d2 hb4 HIF HN3
    by_cases hho : FamOk p ds ds2 1 hs
    · obtain rfl : bb = true := hbb.2 hho
      have HHO := Lib.hid hho
      clear hbb hho
      have c0 := HN4.out.1.c0
      have c1 := HN4.out.1.c1
      have c2 := HN4.out.1.c2
      have d0 := HN4.out.2.1.c0
      have d1 := HN4.out.2.1.c1
      have d2 := HN4.out.2.1.c2
      obtain ⟨w5, hw5⟩ : ∃ w5, w5 = w4.alloc (.cells #[.slice af fs.length cf, .slice ag gs.length cg] 23) := ⟨_, rfl⟩
      have hr5 : w5.cell? ⟨w4.heap.size, 0, none⟩ = some (.slice af fs.length cf) := by rw [hw5]; exact cell_new2 _ _ _ _
      have hr6 : w5.cell? ⟨w4.heap.size, 1, none⟩ = some (.slice ag gs.length cg) := by rw [hw5]; exact cell_new2' _ _ _ _
      have HB5 : Hid (Below w4.heap.size w4 w5) := Lib.hid (by rw [hw5]; exact below_alloc1 _ _)
      have HB15 := Lib.hid (HB4.out.trans (HB5.out.mono HB4.out.size))
      have hN5 := HNX.out _ HB15.out
      have HST := Lib.hid (l04Maps_any p p 0 2 w4.heap.size (two2 fs gs) _ _ _ _ ds ms ds2 ms2 w5 hN5.1.cx hN5.2.1.cx (famsAt_two hr5 hr6 hN5.2.2.1 hN5.2.2.2.1) (by omega) (fun W hb => by
        have hN := HNX.out _ (HB15.out.trans (hb.mono HB15.out.size))
        have hx := l04Code2_any p p w4.heap.size _ _ _ _ _ _ ds ms ds2 ms2 fs gs W hN.1.cx hN.2.1.cx hN.2.2.1 hN.2.2.2.1 (later hb (Nat.le_refl _) hr5) (later hb (Nat.le_refl _) hr6) HBD.out.1 HBD.out.2.1 HBD.out.2.2.1 HBD.out.2.2.2.1 HBD.out.2.2.2.2.1 HBD.out.2.2.2.2.2
        rwa [← HEC.out] at hx) (fun _ => ⟨HE.out, fun j _ => two2_ok HFO.out HGO.out⟩))
      clear hr5 hr6 hN5
      go_wp2_with fail
      rw [← hw5]
      clear hw5
      refine HST.out.mono ?_
      rintro e w6 ⟨rfl, hb6⟩
      have HB6 := Lib.hid (HB15.out.trans (hb6.mono HB15.out.size))
      have HN6 := Lib.hid (HNX.out _ HB6.out)
      clear c0 c1 c2 d0 d1 d2 hb6 HST HN4 HB5
      by_cases hall : AllCh p ds ms ds2 ms2 2 (two2 fs gs)
      · have HCO : Hid (0 = hmCode p p ds ms ds2 ms2 fs gs hs) := Lib.hid ((hmCode_in HEC.out.symm HHO.out).trans (mapCode_ok rfl hall)).symm
        rw [mapCode_ok rfl hall]
        clear hall
        have c0 := HN6.out.1.c0
        have c1 := HN6.out.1.c1
        have c2 := HN6.out.1.c2
        have d0 := HN6.out.2.1.c0
        have d1 := HN6.out.2.1.c1
        have d2 := HN6.out.2.1.c2
        obtain ⟨D, hD⟩ : ∃ D, D = famL ds.length (rsF ds) (csF ds2 0) (afZ p (-1) fs gs) := ⟨_, rfl⟩
        have HDD := Lib.hid hD
        have HSU := Lib.hid (l04Sum_any p (-1) ds.length (rsF ds) (csF ds2 0) _ _ fs gs w6 HN6.out.2.2.1 HN6.out.2.2.2.1 (fam_fs6 HE.out.x HE.out.y HFO.out) (fam_fs6 HE.out.x HE.out.y HGO.out) HE.out.x.1.prime (by omega) (by omega) (fun n _ => ⟨by simp only [rsF]; have := HE.out.x.1.dim n; omega, by simp only [csF]; have := dimZ_8 HE.out.y ((n : Int) + 0); omega⟩))
        clear hD
        go_wp2_with fail
        refine HSU.out.mono ?_
        rintro e w7 ⟨u, rfl, hrw, hb7⟩
        have HLD0 : Hid (L3 0 w7 u D) := Lib.hid (by rw [HDD.out]; exact hrw.l3)
        obtain ⟨aD, cD, rfl⟩ := Sl.shape HLD0.out
        have HB7 := Lib.hid (HB6.out.trans (hb7.mono HB6.out.size))
        have HFL : Hid (fs.length = ds.length) := Lib.hid HFO.out.1
        clear c0 c1 c2 d0 d1 d2 hrw hb7 HSU HN6 HB15 HB6 HB4 HB3
        obtain ⟨wL, hwL⟩ : ∃ wL : World, wL = w7 := ⟨_, rfl⟩
        rw [← hwL] at HLD0 HB7 ⊢
        clear hwL
        go_wp2
        go_loopw [14] (fun j wr => ∃ (n : Nat), n ≤ fs.length ∧ j = .int .i64 n ∧ Hid (Below wL.heap.size wL wr) ∧ Hid (∀ n2, n2 < n → ∀ i, i < rsF ds n2 → RowEq p ds ms ds2 ms2 fs gs hs n2 i)) (fun j _ => fs.length - (intOf j).toNat)
        case atStart => exact ⟨0, Nat.zero_le _, rfl, Lib.hid (Below.refl _ _), Lib.hid (fun _ h => absurd h (Nat.not_lt_zero _))⟩
        case round =>
          obtain ⟨n, hn, rfl, HB, HQ⟩ := hrel
          obtain ⟨wx, hwx⟩ : ∃ wx : World, wx = wr := ⟨_, rfl⟩
          subst hwx
          by_cases hlt : n < fs.length
          · have HNL : Hid (n < ds.length) := Lib.hid (by have := HFL.out; omega)
            obtain ⟨r, hr⟩ : ∃ r, r = rsF ds n := ⟨_, rfl⟩
            have HR := Lib.hid hr
            have hr8 : r ≤ 8 := by have := HE.out.x.1.dim n; rw [hr]; simp only [rsF]; omega
            clear hr
            have hn6 : n < 6 := by have := HNL.out; omega
            go_wp2
            go_loopw [15] (fun j wr => ∃ (i : Nat), i ≤ r ∧ j = .int .i64 i ∧ Hid (Below wL.heap.size wL wr) ∧ Hid (∀ i2, i2 < i → RowEq p ds ms ds2 ms2 fs gs hs n i2)) (fun j _ => r - (intOf j).toNat)
            case atStart => exact ⟨0, Nat.zero_le _, rfl, HB, Lib.hid (fun _ h => absurd h (Nat.not_lt_zero _))⟩
            case round =>
              clear HB
              obtain ⟨i, hi, rfl, HB2, HI⟩ := hrel
              obtain ⟨wy, hwy⟩ : ∃ wy : World, wy = wr := ⟨_, rfl⟩
              subst hwy
              have HN2 := Lib.hid (HNX.out wy (HB7.out.trans (HB2.out.mono HB7.out.size)))
              have c1 := HN2.out.1.c1
              have hu : wy.cell? ⟨bd, od + n, none⟩ = some (.int .i64 (r : Int)) := by rw [HR.out]; exact HDC.out wy (HB7.out.trans (HB2.out.mono HB7.out.size)) n HNL.out
              have hnd : n < ds.length := HNL.out
              by_cases hlt2 : i < r
              · have HIR : Hid (i < rsF ds n) := Lib.hid (by rw [← HR.out]; exact hlt2)
                obtain ⟨c, hc⟩ : ∃ c, c = csF ds2 0 n := ⟨_, rfl⟩
                have HC := Lib.hid hc
                have hzy := HE.out.y.1.dsOk.dimZ ((n : Int) + 0)
                have hc8 : c ≤ 8 := by rw [hc]; simp only [csF]; omega
                have hcz : dimZ ds2 (n : Int) = (c : Int) := by rw [hc]; simp only [csF]; rw [Int.add_zero] at hzy ⊢; omega
                have hl26 := HE.out.y.1.len1
                have HLD : Hid (Calls Tryd.prog 58 #[.agg #[.int .i64 p, .slice ad2 ds2.length cap2, .slice am2 ms2.length capm2], .int .i64 (n : Int)] wy (BR (.int .i64 (c : Int)) wy)) := Lib.hid (by have := l01Dim_any p (n : Int) _ _ ds2 ms2 wy HN2.out.2.1.cx (by omega); rwa [hcz] at this)
                obtain ⟨A, hA⟩ : ∃ A, A = hoA p ds2 ms2 hs n i := ⟨_, rfl⟩
                have HA := Lib.hid hA
                have oA := hoA_ok (ms := ms) (ms2 := ms2) HE.out.x.1 HE.out.y.1 HHO.out HNL.out HIR.out
                have HAL : Hid (A.length = c) := Lib.hid (by rw [hA, hc]; exact apT_length' oA)
                have HAB : Hid (∀ q, 0 ≤ A.getD q 0 ∧ A.getD q 0 ≤ p - 1) := Lib.hid (fun q => by rw [hA]; exact apT_num oA q)
                have hlh : n < hs.length := by have := HHO.out.1; omega
                have hih : i < (hs.getD n []).length := (fam_row HHO.out HNL.out HIR.out (HE.out.x.1.dim n).1 (HE.out.y.1.dsOk.dimZ ((n : Int) + 1)).1).2.2.1
                have hnD : n < D.length := by rw [HDD.out, famL_length]; exact hnd
                have hiD : i < (D.getD n []).length := by rw [HDD.out, famL_get hnd, tableOf_len]; exact HIR.out
                have HRD0 : Hid ((D.getD n []).getD i [] = (List.range c).map (afZ p (-1) fs gs n i)) := Lib.hid (by rw [HDD.out, famL_get hnd, tableOf_get HIR.out, hc])
                clear hc hzy hcz hA hnd
                refine Sl.cases HH0.out (fun _ _ hx _ => absurd hlh (by simp [hx])) (fun bH oH kH hvH _ _ hcH => ?_)
                injection hvH with e1 e2 e3
                clear e2
                subst e1 e3
                obtain ⟨uH, huH, hrH⟩ := hcH n hlh
                rw [← getD_of_lt [] hlh] at hrH
                obtain ⟨tH, htH⟩ : ∃ t, t = hs.getD n [] := ⟨_, rfl⟩
                rw [← htH] at hrH
                have HTH := Lib.hid htH
                obtain ⟨a1H, c1H, hwH⟩ := Sl.shape hrH
                subst hwH
                have l1H : i < tH.length := by rw [htH]; exact hih
                refine Sl.cases hrH (fun _ _ hx _ => absurd l1H (by simp [hx])) (fun b2H o2H k2H hvH _ _ hdH => ?_)
                injection hvH with e1 e2 e3
                clear e2
                subst e1 e3
                obtain ⟨vH, hxH, hyH⟩ := hdH i l1H
                rw [← getD_of_lt [] l1H] at hyH
                obtain ⟨rowH, hrowH⟩ : ∃ row, row = tH.getD i [] := ⟨_, rfl⟩
                rw [← hrowH] at hyH
                have HROWH : Hid (rowH = (hs.getD n []).getD i []) := Lib.hid (by rw [hrowH, htH])
                obtain ⟨a2H, c2H, hwH⟩ := Sl.shape hyH
                subst hwH
                have HLRH := Lib.hid hyH
                have HXH := Lib.hid hxH
                have HUH := Lib.hid huH
                clear hcH hrH hdH hyH hxH huH hrowH htH
                refine Sl.cases HLD0.out (fun _ _ hx _ => absurd hnD (by simp [hx])) (fun bD oD kD hvD _ _ hcD => ?_)
                injection hvD with e1 e2 e3
                clear e2
                subst e1 e3
                obtain ⟨uD, huD, hrD⟩ := hcD n hnD
                rw [← getD_of_lt [] hnD] at hrD
                obtain ⟨tD, htD⟩ : ∃ t, t = D.getD n [] := ⟨_, rfl⟩
                rw [← htD] at hrD
                have HTD := Lib.hid htD
                obtain ⟨a1D, c1D, hwD⟩ := Sl.shape hrD
                subst hwD
                have l1D : i < tD.length := by rw [htD]; exact hiD
                refine Sl.cases hrD (fun _ _ hx _ => absurd l1D (by simp [hx])) (fun b2D o2D k2D hvD _ _ hdD => ?_)
                injection hvD with e1 e2 e3
                clear e2
                subst e1 e3
                obtain ⟨vD, hxD, hyD⟩ := hdD i l1D
                rw [← getD_of_lt [] l1D] at hyD
                obtain ⟨rowD, hrowD⟩ : ∃ row, row = tD.getD i [] := ⟨_, rfl⟩
                rw [← hrowD] at hyD
                have HROWD : Hid (rowD = (D.getD n []).getD i []) := Lib.hid (by rw [hrowD, htD])
                obtain ⟨a2D, c2D, hwD⟩ := Sl.shape hyD
                subst hwD
                have HLRD := Lib.hid hyD
                have HXD := Lib.hid hxD
                have HUD := Lib.hid huD
                clear hcD hrD hdD hyD hxD huD hrowD htD
                have HRD : Hid (rowD = (List.range (csF ds2 0 n)).map (afZ p (-1) fs gs n i)) := Lib.hid (by rw [HROWD.out, HRD0.out, HC.out])
                have HRL : Hid (rowD.length = c) := Lib.hid (by rw [HRD.out, HC.out]; simp)
                have d0 := HN2.out.2.1.c0
                have d1 := HN2.out.2.1.c1
                have d2 := HN2.out.2.1.c2
                go_wp2_with fail
                refine HLD.out.mono ?_
                rintro e w8 ⟨rfl, hb8⟩
                have HB8 := Lib.hid (HB2.out.trans (hb8.mono HB2.out.size))
                clear hb8 c1 hu d0 d1 d2 HLD HN2
                have hmk := run_make_row' (P := Tryd.prog) 22 2 (.int .i64 0) 8 Tryd.underlying22 Tryd.infoI rfl .i64 .i64 c (by omega) (by omega)
                obtain ⟨w9, hw9⟩ : ∃ w9, w9 = w8.alloc (.cells (madeCells #[.int .i64 0] c) 2) := ⟨_, rfl⟩
                have hb9 : Below w8.heap.size w8 w9 := by rw [hw9]; exact below_alloc1 _ _
                have HRW9 : Hid (w9.rowIs w8.heap.size 2 c (fun _ => .int .i64 0)) := Lib.hid (by rw [hw9]; exact World.rowIs_made w8 (.int .i64 0) c 2)
                have HB9 := Lib.hid (HB8.out.trans (hb9.mono HB8.out.size))
                have hs8 : wL.heap.size ≤ w8.heap.size := HB8.out.size
                go_upto_region 16 with fail
                rw [← hw9]
                clear hw9 hb9 hmk
                have hwn : IntKind.i64.wrap ((n : Int) + 1) = (n : Int) + 1 := IntWalk.i64_in _ (by omega)
                by_cases hx1 : n + 1 < fs.length
                · have hq1 : (n : Int) + 1 < (fs.length : Int) := by omega
                  have hy2 : n + 1 < ds2.length := by have := HFL.out; have := HE.out.len; omega
                  have HW9 : Hid (∀ W, Below w9.heap.size w9 W → Below wL.heap.size wL W) := Lib.hid (fun W h => HB9.out.trans (h.mono HB9.out.size))
                  have HD2 : Hid (∀ W, Below w9.heap.size w9 W → Calls Tryd.prog 59 #[.agg #[.int .i64 p, .slice ad2 ds2.length cap2, .slice am2 ms2.length capm2], .int .i64 ((n : Int) + 1), .slice a2H rowH.length c2H] W (GbR A W)) := Lib.hid (fun W h => by
                    have h0 := HNX.out W (HB7.out.trans ((HW9.out W h).mono HB7.out.size))
                    have ec : ((n + 1 : Nat) : Int) = (n : Int) + 1 := by omega
                    have hz0 := HE.out.y.1.dsOk.dimZ ((n : Int) + 0)
                    have o2 := oA
                    rw [dfL_get hy2, ← HROWH.out] at o2
                    have hrl : rowH.length ≤ 1048576 := by rw [HROWH.out]; have h1 := (hoA_row HE.out.x.1 HE.out.y.1 HHO.out HNL.out HIR.out).1; have h2 := HE.out.y.1.dsOk.dimZ ((n : Int) + 1); simp only [csF] at h1; omega
                    have := l04D_any p (n + 1) (csF ds2 0 n) _ _ _ ds2 ms2 rowH W h0.2.1.cx HE.out.y hy2 (by rw [ec, show (n : Int) + 1 + (-1) = (n : Int) + 0 by omega]; simp only [csF]; omega) (HLRH.out.below (HB7.out.trans ((HW9.out W h).mono HB7.out.size))) o2 hrl
                    rw [ec] at this
                    rw [HA.out]
                    unfold hoA
                    rw [dfL_get hy2, ← HROWH.out]
                    exact this)
                  go_upto_region 17 with fail
                  refine wp_region_held (S := fun W => Below w9.heap.size w9 W) (by kernel_rfl) ?_
                  have S0 : Below w9.heap.size w9 w9.drew := (Below.refl _ _).drew
                  change wpAnyH _ _ _ _ _ _ _ _ w9.drew
                  obtain ⟨wd, hwd⟩ : ∃ wd, wd = w9.drew := ⟨_, rfl⟩
                  rw [← hwd] at S0 ⊢
                  clear hwd
                  refine held_take (i := 0) (v := .agg #[.int .i64 p, .slice ad2 ds2.length cap2, .slice am2 ms2.length capm2]) (some 74) rfl rfl (by kernel_rfl) (by kernel_rfl) (by kernel_rfl) (fun _ _ _ h => h) (yieldsIf_cell (by kernel_rfl) rfl (by kernel_rfl) (fun W h => hload3x (HNX.out W (HB7.out.trans ((HW9.out W h).mono HB7.out.size))).2.1)) S0 ?_
                  refine held_take (i := 1) (v := .int .i64 (n : Int)) (some 75) rfl rfl (by kernel_rfl) (by kernel_rfl) (by kernel_rfl) (fun _ _ _ h => h) (yieldsIf_move (by kernel_rfl) rfl (by kernel_rfl)) S0 ?_
                  refine held_take (i := 2) (v := .int .i64 ((n : Int) + 1)) (some 76) rfl rfl (by kernel_rfl) (by kernel_rfl) (by kernel_rfl) (fun _ _ _ h => h) (yieldsIf_bin (by kernel_rfl) rfl (by kernel_rfl) (by kernel_rfl) (fun _ => rfl) (haddA hwn)) S0 ?_
                  refine held_take (i := 3) (v := .slice (some ⟨bH, oH, none⟩) hs.length ch) (some 77) rfl rfl (by kernel_rfl) (by kernel_rfl) (by kernel_rfl) (fun _ _ _ h => h) (yieldsIf_move (by kernel_rfl) rfl (by kernel_rfl)) S0 ?_
                  refine held_take (i := 4) (v := .int .i64 (n : Int)) (some 78) rfl rfl (by kernel_rfl) (by kernel_rfl) (by kernel_rfl) (fun _ _ _ h => h) (yieldsIf_move (by kernel_rfl) rfl (by kernel_rfl)) S0 ?_
                  refine held_take (i := 5) (v := .pointer (some ⟨bH, oH + n, none⟩)) (some 79) rfl rfl (by kernel_rfl) (by kernel_rfl) (by kernel_rfl) (fun _ _ _ h => h) (yieldsIf_index (by kernel_rfl) rfl (by kernel_rfl) (by kernel_rfl) (hidxU bH oH ch hlh)) S0 ?_
                  refine held_take (i := 6) (v := .slice (some ⟨b2H, o2H, none⟩) tH.length c1H) (some 80) rfl rfl (by kernel_rfl) (by kernel_rfl) (by kernel_rfl) (fun _ _ _ h => h) (yieldsIf_cell (by kernel_rfl) rfl (by kernel_rfl) (fun W h => hloadSS W (later (HB7.out.trans ((HW9.out W h).mono HB7.out.size)) (Nat.le_refl _) HUH.out))) S0 ?_
                  refine held_take (i := 7) (v := .int .i64 (i : Int)) (some 81) rfl rfl (by kernel_rfl) (by kernel_rfl) (by kernel_rfl) (fun _ _ _ h => h) (yieldsIf_move (by kernel_rfl) rfl (by kernel_rfl)) S0 ?_
                  refine held_take (i := 8) (v := .pointer (some ⟨b2H, o2H + i, none⟩)) (some 82) rfl rfl (by kernel_rfl) (by kernel_rfl) (by kernel_rfl) (fun _ _ _ h => h) (yieldsIf_index (by kernel_rfl) rfl (by kernel_rfl) (by kernel_rfl) (hidxS b2H o2H c1H l1H)) S0 ?_
                  refine held_take (i := 9) (v := .slice a2H rowH.length c2H) (some 83) rfl rfl (by kernel_rfl) (by kernel_rfl) (by kernel_rfl) (fun _ _ _ h => h) (yieldsIf_cell (by kernel_rfl) rfl (by kernel_rfl) (fun W h => hloadS W (later (HB7.out.trans ((HW9.out W h).mono HB7.out.size)) (Nat.le_refl _) HXH.out))) S0 ?_
                  refine held_enter (i := 10) (some 84) (f := 59) (args := #[.agg #[.int .i64 p, .slice ad2 ds2.length cap2, .slice am2 ms2.length capm2], .int .i64 ((n : Int) + 1), .slice a2H rowH.length c2H]) (by kernel_rfl) rfl rfl rfl (by kernel_rfl) (HD2.out _ S0) ?_ (fun c w' h => by obtain ⟨_, h, _⟩ := h; cases h) (fun w' h => by obtain ⟨_, h, _⟩ := h; cases h)
                  rintro ee V1 ⟨u1, he, hg1, hb1⟩
                  injection he with he
                  subst he
                  obtain ⟨ao, co, hv1⟩ := Sl.shape hg1.l1
                  rw [HAL.out] at hv1
                  subst hv1
                  have S1 : Below w9.heap.size w9 V1 := S0.trans (hb1.mono S0.size)
                  refine ⟨S1, ?_⟩
                  refine held_take (i := 11) (v := .slice ao c co) (some 16) rfl rfl (by kernel_rfl) (by kernel_rfl) (by kernel_rfl) (fun _ _ _ h => h) (yieldsIf_assign (by kernel_rfl) rfl (by kernel_rfl)) S1 ?_
                  refine wpAnyH_done (by kernel_rfl) ?_ _
                  simp only [Act.put, List.setIfInBounds_toArray, List.set_cons_zero, List.set_cons_succ]
                  have HBO := Lib.hid (HW9.out _ S1)
                  have HGO : Hid (Gb wL.heap.size V1 (.slice ao c co) A) := Lib.hid (hg1.mono (HW9.out _ S0).size)
                  obtain ⟨wo, hwo⟩ : ∃ wo : World, wo = V1 := ⟨_, rfl⟩
                  rw [← hwo] at HBO HGO ⊢
                  clear hwo S0 S1 hb1 hg1 HD2 HW9 hq1 hwn oA
                  by_cases hn0 : n = 0
                  · have HS0 : Hid (A = hoS p ds ms ds2 ms2 hs n i) := Lib.hid (by rw [HA.out]; subst hn0; exact (hoS_zero HE.out.x.1 HE.out.y.1 HHO.out HIR.out).symm)
                    have hq : ¬ ((0 : Int) < (n : Int)) := by omega
                    clear hn0
                    have hi0 : (0 : Int) ≤ (n : Int) := by omega
                    have hi1 : (n : Int) < (D.length : Int) := by omega
                    have hj0 : (0 : Int) ≤ (i : Int) := by omega
                    have hj1 : (i : Int) < (tD.length : Int) := by omega
                    have f1 : wo.cell? ⟨bD, oD + n, none⟩ = some (.slice (some ⟨b2D, o2D, none⟩) tD.length c1D) := later HBO.out (Nat.le_refl _) HUD.out
                    have f2 : wo.cell? ⟨b2D, o2D + i, none⟩ = some (.slice a2D rowD.length c2D) := later HBO.out (Nat.le_refl _) HXD.out
                    have HSM := Lib.hid (l04Same_any _ _ A rowD wo HGO.out.l1 (HLRD.out.below HBO.out) (by rw [HAL.out]; omega) (by rw [HRL.out]; omega))
                    have HEQ : Hid (A = rowD ↔ RowEq p ds ms ds2 ms2 fs gs hs n i) := Lib.hid (by rw [HS0.out, HRD.out]; exact Iff.rfl)
                    by_cases hch : A = rowD
                    · have HCH := Lib.hid (HEQ.out.1 hch)
                      rw [decide_eq_true hch] at HSM
                      clear hch HEQ
                      go_wp2_with fail
                      refine HSM.out.mono ?_
                      rintro e wz ⟨rfl, q4, hq4⟩
                      have HB9 : Hid (Below wL.heap.size wL wz) := Lib.hid (HBO.out.trans (((by rw [hq4]; exact drewN_below _ _) : Below wo.heap.size wo wz).mono HBO.out.size))
                      clear hq4 HSM f1 f2 hi0 hi1 hj0 hj1
                      go_wp2
                      go_roundw
                      case rel => exact ⟨i + 1, by omega, by go_num, HB9, Lib.hid (fun i2 h2 => by
                        by_cases e : i2 = i
                        · subst e; exact HCH.out
                        · exact HI.out i2 (by omega))⟩
                      case measure => simp [intOf]; omega
                    · have HCH : Hid (HmS p p ds ms ds2 ms2 fs gs hs false 0) := Lib.hid (hmS_of HCO.out (by
                        constructor
                        · intro h; cases h
                        · intro h; exact absurd (HEQ.out.2 (h n HNL.out i HIR.out)) hch))
                      rw [decide_eq_false hch] at HSM
                      clear hch HEQ
                      go_wp2_with fail
                      refine HSM.out.mono ?_
                      rintro e wz ⟨rfl, q4, hq4⟩
                      have HB9 : Hid (Below wL.heap.size wL wz) := Lib.hid (HBO.out.trans (((by rw [hq4]; exact drewN_below _ _) : Below wo.heap.size wo wz).mono HBO.out.size))
                      clear hq4 HSM f1 f2 hi0 hi1 hj0 hj1
                      have HN9 := Lib.hid (HNX.out wz (HB7.out.trans (HB9.out.mono HB7.out.size)))
                      go_wp2
                      go_ret2
                      exact ⟨false, 0, rfl, HN9.out.1.below, HCH.out⟩
                  · have hq : (0 : Int) < (n : Int) := by omega
                    have hws : IntKind.i64.wrap ((n : Int) - 1) = (n : Int) - 1 := IntWalk.i64_in _ (by omega)
                    obtain ⟨B, hB⟩ : ∃ B, B = hoB p ds ms ds2 hs n i := ⟨_, rfl⟩
                    have HBE := Lib.hid hB
                    have oB := hoB_ok HE.out.x.1 HE.out.y.1 HHO.out HNL.out HIR.out
                    have epr : prevT hs n = hs.getD (n - 1) [] := if_neg hn0
                    rw [epr] at oB
                    have HBL : Hid (B.length = c) := Lib.hid (by rw [hB, HC.out]; unfold hoB; rw [epr]; exact apT_length' oB)
                    have hfr := fam_row (dfL_fam HE.out.x.1) HNL.out HIR.out (HE.out.x.1.dim n).1 (HE.out.x.1.dsOk.dimZ ((n : Int) + (-1))).1
                    have okd : ApOk p (csF ds (-1) n) (unitL r i) (cycT ds ms n) := by
                      have := unit_apOk (i := i) HE.out.x.1.prime (cn := csF ds (-1) n) rfl hfr.2.1
                      rw [dfL_get HNL.out, ← HR.out] at this
                      exact this
                    have edr : apT p (csF ds (-1) n) (unitL r i) (cycT ds ms n) = ((dfL ds ms).getD n []).getD i [] := by
                      have := unit_apT (i := i) (unit_apOk (i := i) HE.out.x.1.prime (cn := csF ds (-1) n) rfl hfr.2.1) HIR.out
                      rw [← HR.out] at this
                      rw [dfL_get HNL.out] at this ⊢
                      exact this
                    have hzx := HE.out.x.1.dsOk.dimZ ((n : Int) + (-1))
                    have hzy := HE.out.y.1.dsOk.dimZ ((n : Int) + 0)
                    have hDR : (((dfL ds ms).getD n []).getD i []).length ≤ 1048576 := by have h1 := hfr.2.2.2.1; simp only [csF] at h1; omega
                    have ecn : ((n - 1 : Nat) : Int) = (n : Int) - 1 := by omega
                    have HW : Hid (∀ W, Below wo.heap.size wo W → Below wL.heap.size wL W) := Lib.hid (fun W h => HBO.out.trans (h.mono HBO.out.size))
                    have HXY : Hid (∀ W, Below wo.heap.size wo W → Bx w W w.heap.size p (.slice (some ⟨bd, od, none⟩) ds.length cap) (.slice am ms.length capm) ds ms ∧ Bx w W (w.heap.size + 1) p (.slice ad2 ds2.length cap2) (.slice am2 ms2.length capm2) ds2 ms2 ∧ L3 0 W (.slice (some ⟨bH, oH, none⟩) hs.length ch) hs ∧ W.cell? ⟨bd, od + n, none⟩ = some (.int .i64 (r : Int))) := Lib.hid (fun W h => by
                      have h0 := HNX.out W (HB7.out.trans ((HW.out W h).mono HB7.out.size))
                      exact ⟨h0.1, h0.2.1, h0.2.2.2.2, by rw [HR.out]; exact HDC.out W (HB7.out.trans ((HW.out W h).mono HB7.out.size)) n HNL.out⟩)
                    have HD1 : Hid (∀ W u, Below wo.heap.size wo W → L1 0 W u (unitL r i) → Calls Tryd.prog 59 #[.agg #[.int .i64 p, .slice (some ⟨bd, od, none⟩) ds.length cap, .slice am ms.length capm], .int .i64 (n : Int), u] W (GbR (((dfL ds ms).getD n []).getD i []) W)) := Lib.hid (fun W u hb hu => by
                      have := l04D_any p n (csF ds (-1) n) _ _ u ds ms (unitL r i) W (HXY.out W hb).1.cx HE.out.x HNL.out (by simp only [csF]; omega) hu okd (by rw [unitL_length]; omega)
                      rwa [edr] at this)
                    have HIM : Hid (∀ W u, Below wo.heap.size wo W → L1 0 W u (((dfL ds ms).getD n []).getD i []) → Calls Tryd.prog 60 #[.agg #[.int .i64 p, .slice (some ⟨bd, od, none⟩) ds.length cap, .slice am ms.length capm], .agg #[.int .i64 p, .slice ad2 ds2.length cap2, .slice am2 ms2.length capm2], .slice (some ⟨bH, oH, none⟩) hs.length ch, .int .i64 ((n : Int) - 1), .int .i64 1, u] W (ApB p c (((dfL ds ms).getD n []).getD i []) (hs.getD (n - 1) []) W)) := Lib.hid (fun W u hb hu => by
                      have h0 := HXY.out W hb
                      have := l04ImageB_any p p 1 (n - 1) c _ _ _ _ _ u ds ms ds2 ms2 hs _ W h0.1.cx h0.2.1.cx h0.2.2.1 hu HE.out.y (by have := HHO.out.1; have := HNL.out; omega) (by omega) (by omega) (by rw [ecn, show (n : Int) - 1 + 1 = (n : Int) + 0 by omega, HC.out]; simp only [csF]; omega) (by rw [HC.out]; exact oB) hDR
                      rwa [ecn] at this)
                    have HBA : Hid (apT p c (((dfL ds ms).getD n []).getD i []) (hs.getD (n - 1) []) = B) := Lib.hid (by rw [hB, HC.out]; unfold hoB; rw [epr])
                    obtain ⟨drl, hdrl⟩ : ∃ k, k = (((dfL ds ms).getD n []).getD i []).length := ⟨_, rfl⟩
                    have HDRL := Lib.hid hdrl
                    clear hB oB epr hfr okd edr hzx hzy hDR ecn hdrl hn0
                    go_upto_region 19 with fail
                    refine wp_region_held (S := fun W => Below wo.heap.size wo W) (by kernel_rfl) ?_
                    have S0 : Below wo.heap.size wo wo.drew := (Below.refl _ _).drew
                    change wpAnyH _ _ _ _ _ _ _ _ wo.drew
                    obtain ⟨wd, hwd⟩ : ∃ wd, wd = wo.drew := ⟨_, rfl⟩
                    rw [← hwd] at S0 ⊢
                    clear hwd
                    refine held_take (i := 0) (v := .agg #[.int .i64 p, .slice (some ⟨bd, od, none⟩) ds.length cap, .slice am ms.length capm]) (some 87) rfl rfl (by kernel_rfl) (by kernel_rfl) (by kernel_rfl) (fun _ _ _ h => h) (yieldsIf_cell (by kernel_rfl) rfl (by kernel_rfl) (fun W h => hload3x (HXY.out W h).1)) S0 ?_
                    refine held_take (i := 1) (v := .agg #[.int .i64 p, .slice ad2 ds2.length cap2, .slice am2 ms2.length capm2]) (some 88) rfl rfl (by kernel_rfl) (by kernel_rfl) (by kernel_rfl) (fun _ _ _ h => h) (yieldsIf_cell (by kernel_rfl) rfl (by kernel_rfl) (fun W h => hload3x (HXY.out W h).2.1)) S0 ?_
                    refine held_take (i := 2) (v := .slice (some ⟨bH, oH, none⟩) hs.length ch) (some 89) rfl rfl (by kernel_rfl) (by kernel_rfl) (by kernel_rfl) (fun _ _ _ h => h) (yieldsIf_move (by kernel_rfl) rfl (by kernel_rfl)) S0 ?_
                    refine held_take (i := 3) (v := .int .i64 (n : Int)) (some 90) rfl rfl (by kernel_rfl) (by kernel_rfl) (by kernel_rfl) (fun _ _ _ h => h) (yieldsIf_move (by kernel_rfl) rfl (by kernel_rfl)) S0 ?_
                    refine held_take (i := 4) (v := .int .i64 ((n : Int) - 1)) (some 91) rfl rfl (by kernel_rfl) (by kernel_rfl) (by kernel_rfl) (fun _ _ _ h => h) (yieldsIf_bin (by kernel_rfl) rfl (by kernel_rfl) (by kernel_rfl) (fun _ => rfl) (hsubA hws)) S0 ?_
                    refine held_take (i := 5) (v := .agg #[.int .i64 p, .slice (some ⟨bd, od, none⟩) ds.length cap, .slice am ms.length capm]) (some 92) rfl rfl (by kernel_rfl) (by kernel_rfl) (by kernel_rfl) (fun _ _ _ h => h) (yieldsIf_cell (by kernel_rfl) rfl (by kernel_rfl) (fun W h => hload3x (HXY.out W h).1)) S0 ?_
                    refine held_take (i := 6) (v := .int .i64 (n : Int)) (some 93) rfl rfl (by kernel_rfl) (by kernel_rfl) (by kernel_rfl) (fun _ _ _ h => h) (yieldsIf_move (by kernel_rfl) rfl (by kernel_rfl)) S0 ?_
                    refine held_take (i := 7) (v := .pointer (some ⟨w.heap.size, 1, none⟩)) (some 94) rfl rfl (by kernel_rfl) (by kernel_rfl) (by kernel_rfl) (fun _ _ _ h => h) (yieldsIf_run (by kernel_rfl) (fun W _ => by kernel_rfl)) S0 ?_
                    refine held_take (i := 8) (v := .slice (some ⟨bd, od, none⟩) ds.length cap) (some 95) rfl rfl (by kernel_rfl) (by kernel_rfl) (by kernel_rfl) (fun _ _ _ h => h) (yieldsIf_cell (by kernel_rfl) rfl (by kernel_rfl) (fun W h => hloadS W (HXY.out W h).1.c1)) S0 ?_
                    refine held_take (i := 9) (v := .int .i64 (n : Int)) (some 96) rfl rfl (by kernel_rfl) (by kernel_rfl) (by kernel_rfl) (fun _ _ _ h => h) (yieldsIf_move (by kernel_rfl) rfl (by kernel_rfl)) S0 ?_
                    refine held_take (i := 10) (v := .pointer (some ⟨bd, od + n, none⟩)) (some 97) rfl rfl (by kernel_rfl) (by kernel_rfl) (by kernel_rfl) (fun _ _ _ h => h) (yieldsIf_index (by kernel_rfl) rfl (by kernel_rfl) (by kernel_rfl) (hidxI bd od cap HNL.out)) S0 ?_
                    refine held_take (i := 11) (v := .int .i64 (r : Int)) (some 98) rfl rfl (by kernel_rfl) (by kernel_rfl) (by kernel_rfl) (fun _ _ _ h => h) (yieldsIf_cell (by kernel_rfl) rfl (by kernel_rfl) (fun W h => hload W (HXY.out W h).2.2.2)) S0 ?_
                    refine held_take (i := 12) (v := .int .i64 (i : Int)) (some 99) rfl rfl (by kernel_rfl) (by kernel_rfl) (by kernel_rfl) (fun _ _ _ h => h) (yieldsIf_move (by kernel_rfl) rfl (by kernel_rfl)) S0 ?_
                    refine held_enter (i := 13) (some 100) (f := 61) (args := #[.int .i64 (r : Int), .int .i64 (i : Int)]) (by kernel_rfl) rfl rfl rfl (by kernel_rfl) (l04Unit_any r i _ (by omega) hlt2) ?_ (fun c w' h => by obtain ⟨_, h, _⟩ := h; cases h) (fun w' h => by obtain ⟨_, h, _⟩ := h; cases h)
                    rintro ee V1 ⟨u1, he, hg1, hb1⟩
                    injection he with he
                    subst he
                    obtain ⟨a1, c1, hv1⟩ := Sl.shape hg1.l1
                    rw [unitRow_length] at hv1
                    subst hv1
                    have S1 : Below wo.heap.size wo V1 := S0.trans (hb1.mono S0.size)
                    refine ⟨S1, ?_⟩
                    refine held_enter (i := 14) (some 101) (f := 59) (args := #[.agg #[.int .i64 p, .slice (some ⟨bd, od, none⟩) ds.length cap, .slice am ms.length capm], .int .i64 (n : Int), .slice a1 r c1]) (by kernel_rfl) rfl rfl rfl (by kernel_rfl) (HD1.out _ _ S1 hg1.l1) ?_ (fun c w' h => by obtain ⟨_, h, _⟩ := h; cases h) (fun w' h => by obtain ⟨_, h, _⟩ := h; cases h)
                    rintro ee V2 ⟨u2, he, hg2, hb2⟩
                    injection he with he
                    subst he
                    obtain ⟨a2, c2, hv2⟩ := Sl.shape hg2.l1
                    rw [← HDRL.out] at hv2
                    subst hv2
                    have S2 : Below wo.heap.size wo V2 := S1.trans (hb2.mono S1.size)
                    refine ⟨S2, ?_⟩
                    refine held_enter (i := 15) (some 102) (f := 60) (args := #[.agg #[.int .i64 p, .slice (some ⟨bd, od, none⟩) ds.length cap, .slice am ms.length capm], .agg #[.int .i64 p, .slice ad2 ds2.length cap2, .slice am2 ms2.length capm2], .slice (some ⟨bH, oH, none⟩) hs.length ch, .int .i64 ((n : Int) - 1), .int .i64 1, .slice a2 drl c2]) (by kernel_rfl) rfl rfl rfl (by kernel_rfl) (HIM.out _ _ S2 hg2.l1) ?_ (fun c w' h => by obtain ⟨_, h, _⟩ := h; cases h) (fun w' h => by obtain ⟨_, h, _⟩ := h; cases h)
                    rintro ee V3 ⟨u3, he, hg3, hb3⟩
                    injection he with he
                    subst he
                    rw [HBA.out] at hg3
                    obtain ⟨ax, cx, hv3⟩ := Sl.shape hg3.l1
                    rw [HBL.out] at hv3
                    subst hv3
                    have S3 : Below wo.heap.size wo V3 := S2.trans (hb3.mono S2.size)
                    refine ⟨S3, ?_⟩
                    refine held_take (i := 16) (v := .slice ax c cx) (some 17) rfl rfl (by kernel_rfl) (by kernel_rfl) (by kernel_rfl) (fun _ _ _ h => h) (yieldsIf_assign (by kernel_rfl) rfl (by kernel_rfl)) S3 ?_
                    refine wpAnyH_done (by kernel_rfl) ?_ _
                    simp only [Act.put, List.setIfInBounds_toArray, List.set_cons_zero, List.set_cons_succ]
                    have HGX : Hid (Gb wo.heap.size V3 (.slice ax c cx) B) := Lib.hid (hg3.mono S2.size)
                    have HGP : Hid (Gb wL.heap.size V3 (.slice ao c co) (mixH p c A B 0)) := Lib.hid (by rw [mixH_zero p B HAL.out]; exact HGO.out.below S3)
                    have HBP := Lib.hid (HW.out _ S3)
                    have HLO : Hid (∀ g, ao = some ⟨g, 0, none⟩ → g < wo.heap.size) := Lib.hid (fun g hg => (World.ownsRow.lt HGO.out g (by rw [hg]; rfl)).2)
                    obtain ⟨wp, hwp0⟩ : ∃ wp : World, wp = V3 := ⟨_, rfl⟩
                    rw [← hwp0] at HGX HGP HBP ⊢
                    clear S0 S1 S2 S3 hb1 hb2 hb3 hg1 hg2 hg3 hwp0 HD1 HIM HXY HGO HBA
                    go_wp2
                    go_loopw [18] (fun j wr => ∃ (k : Nat), k ≤ c ∧ j = .int .i64 k ∧ Hid (Below wL.heap.size wL wr) ∧ Hid (Gb wL.heap.size wr (.slice ao c co) (mixH p c A B k)) ∧ Hid (Gb wo.heap.size wr (.slice ax c cx) B)) (fun j _ => c - (intOf j).toNat)
                    case atStart => exact ⟨0, Nat.zero_le _, rfl, HBP, HGP, HGX⟩
                    case round =>
                      clear HBP HGP HGX
                      obtain ⟨k, hk, rfl, HB9, HG9, HX9⟩ := hrel
                      obtain ⟨wq, hwq⟩ : ∃ wq : World, wq = wr := ⟨_, rfl⟩
                      subst hwq
                      by_cases hlk : k < c
                      · obtain ⟨g, hga, hgl⟩ := HG9.out.block (by rw [mixH_len]; omega)
                        obtain ⟨gx, hgxa, hgxl⟩ := HX9.out.block (by rw [HBL.out]; omega)
                        have hglt := HLO.out g hga
                        subst hga hgxa
                        have hkB : k < B.length := by rw [HBL.out]; exact hlk
                        have hkm : k < (mixH p c A B k).length := by rw [mixH_len]; exact hlk
                        obtain ⟨x, hx⟩ : ∃ x, x = A.getD k 0 := ⟨_, rfl⟩
                        obtain ⟨y, hy⟩ : ∃ y, y = B.getD k 0 := ⟨_, rfl⟩
                        have hxb := HAB.out k
                        have hyb : 0 ≤ B.getD k 0 ∧ B.getD k 0 ≤ p - 1 := by rw [HBE.out]; exact apT_num (hoB_ok HE.out.x.1 HE.out.y.1 HHO.out HNL.out HIR.out) k
                        rw [← hx] at hxb
                        rw [← hy] at hyb
                        obtain ⟨hx0, hx1⟩ := hxb
                        obtain ⟨hy0, hy1⟩ := hyb
                        have hcA : wq.drew.cell? ⟨g, 0 + k, none⟩ = some (.int .i64 x) := by rw [Nat.zero_add, hx, ← mixH_at hkm]; exact gb_atH (HG9.out.below (Below.refl wq.heap.size wq).drew) hkm
                        have hcB : wq.drew.cell? ⟨gx, 0 + k, none⟩ = some (.int .i64 y) := by rw [Nat.zero_add, hy, getD_of_lt 0 hkB]; exact gb_atH (HX9.out.below (Below.refl wq.heap.size wq).drew) hkB
                        have c0 := (HNX.out wq.drew (HB7.out.trans (HB9.out.drew.mono HB7.out.size))).1.c0
                        have hput := (HG9.out.below (Below.refl wq.heap.size wq).drew).put (k := k) hkm ((x + y) % p)
                        rw [hx, hy, mixH_set, ← hx, ← hy] at hput
                        have HPUT := Lib.hid hput
                        clear hput hx hy
                        go_upto_region 23 with fail
                        refine wp_region_last (fun W => Below wL.heap.size wL W ∧ W.cell? ⟨g, 0 + k, none⟩ = some (.int .i64 x) ∧ W.cell? ⟨gx, 0 + k, none⟩ = some (.int .i64 y) ∧ W.cell? ⟨w.heap.size, 0, none⟩ = some (.int .i64 p)) 15 (by kernel_rfl) rfl (by kernel_rfl) ?_
                        have S0 : Below wL.heap.size wL wq.drew ∧ wq.drew.cell? ⟨g, 0 + k, none⟩ = some (.int .i64 x) ∧ wq.drew.cell? ⟨gx, 0 + k, none⟩ = some (.int .i64 y) ∧ wq.drew.cell? ⟨w.heap.size, 0, none⟩ = some (.int .i64 p) := ⟨HB9.out.drew, hcA, hcB, c0⟩
                        refine held_take (i := 0) (v := .slice (some ⟨g, 0, none⟩) c co) (some 109) rfl rfl (by kernel_rfl) (by kernel_rfl) (by kernel_rfl) (fun _ _ _ h => h) (yieldsIf_move (by kernel_rfl) rfl (by kernel_rfl)) S0 ?_
                        refine held_take (i := 1) (v := .int .i64 (k : Int)) (some 110) rfl rfl (by kernel_rfl) (by kernel_rfl) (by kernel_rfl) (fun _ _ _ h => h) (yieldsIf_move (by kernel_rfl) rfl (by kernel_rfl)) S0 ?_
                        refine held_take (i := 2) (v := .slice (some ⟨g, 0, none⟩) c co) (some 111) rfl rfl (by kernel_rfl) (by kernel_rfl) (by kernel_rfl) (fun _ _ _ h => h) (yieldsIf_move (by kernel_rfl) rfl (by kernel_rfl)) S0 ?_
                        refine held_take (i := 3) (v := .int .i64 (k : Int)) (some 112) rfl rfl (by kernel_rfl) (by kernel_rfl) (by kernel_rfl) (fun _ _ _ h => h) (yieldsIf_move (by kernel_rfl) rfl (by kernel_rfl)) S0 ?_
                        refine held_take (i := 4) (v := .pointer (some ⟨g, 0 + k, none⟩)) (some 113) rfl rfl (by kernel_rfl) (by kernel_rfl) (by kernel_rfl) (fun _ _ _ h => h) (yieldsIf_index (by kernel_rfl) rfl (by kernel_rfl) (by kernel_rfl) (hidxI g 0 co hlk)) S0 ?_
                        refine held_take (i := 5) (v := .int .i64 x) (some 114) rfl rfl (by kernel_rfl) (by kernel_rfl) (by kernel_rfl) (fun _ _ _ h => h) (yieldsIf_cell (by kernel_rfl) rfl (by kernel_rfl) (fun W h => hload W h.2.1)) S0 ?_
                        refine held_take (i := 6) (v := .slice (some ⟨gx, 0, none⟩) c cx) (some 115) rfl rfl (by kernel_rfl) (by kernel_rfl) (by kernel_rfl) (fun _ _ _ h => h) (yieldsIf_move (by kernel_rfl) rfl (by kernel_rfl)) S0 ?_
                        refine held_take (i := 7) (v := .int .i64 (k : Int)) (some 116) rfl rfl (by kernel_rfl) (by kernel_rfl) (by kernel_rfl) (fun _ _ _ h => h) (yieldsIf_move (by kernel_rfl) rfl (by kernel_rfl)) S0 ?_
                        refine held_take (i := 8) (v := .pointer (some ⟨gx, 0 + k, none⟩)) (some 117) rfl rfl (by kernel_rfl) (by kernel_rfl) (by kernel_rfl) (fun _ _ _ h => h) (yieldsIf_index (by kernel_rfl) rfl (by kernel_rfl) (by kernel_rfl) (hidxI gx 0 cx hlk)) S0 ?_
                        refine held_take (i := 9) (v := .int .i64 y) (some 118) rfl rfl (by kernel_rfl) (by kernel_rfl) (by kernel_rfl) (fun _ _ _ h => h) (yieldsIf_cell (by kernel_rfl) rfl (by kernel_rfl) (fun W h => hload W h.2.2.1)) S0 ?_
                        refine held_take (i := 10) (v := .int .i64 (x + y)) (some 119) rfl rfl (by kernel_rfl) (by kernel_rfl) (by kernel_rfl) (fun _ _ _ h => h) (yieldsIf_bin (by kernel_rfl) rfl (by kernel_rfl) (by kernel_rfl) (fun _ => rfl) (haddA (IntWalk.i64_in _ (by omega)))) S0 ?_
                        refine held_take (i := 11) (v := .pointer (some ⟨w.heap.size, 0, none⟩)) (some 120) rfl rfl (by kernel_rfl) (by kernel_rfl) (by kernel_rfl) (fun _ _ _ h => h) (yieldsIf_run (by kernel_rfl) (fun W _ => by kernel_rfl)) S0 ?_
                        refine held_take (i := 12) (v := .int .i64 p) (some 121) rfl rfl (by kernel_rfl) (by kernel_rfl) (by kernel_rfl) (fun _ _ _ h => h) (yieldsIf_cell (by kernel_rfl) rfl (by kernel_rfl) (fun W h => hload W h.2.2.2)) S0 ?_
                        refine held_take (i := 13) (v := .int .i64 ((x + y) % p)) (some 122) rfl rfl (by kernel_rfl) (by kernel_rfl) (by kernel_rfl) (fun _ _ _ h => h) (yieldsIf_bin (by kernel_rfl) rfl (by kernel_rfl) (by kernel_rfl) (fun _ => rfl) (hremI (by omega) (by omega) (by omega))) S0 ?_
                        refine held_take (i := 14) (v := .pointer (some ⟨g, 0 + k, none⟩)) (some 123) rfl rfl (by kernel_rfl) (by kernel_rfl) (by kernel_rfl) (fun _ _ _ h => h) (yieldsIf_index (by kernel_rfl) rfl (by kernel_rfl) (by kernel_rfl) (hidxI g 0 co hlk)) S0 ?_
                        refine held_none (i := 15) (v := .bool false) rfl rfl (by kernel_rfl) (by kernel_rfl) (by kernel_rfl) (fun _ _ _ h => h) (yieldsIf_move (by kernel_rfl) rfl (by kernel_rfl)) S0 ?_
                        have HBS : Hid (Below wL.heap.size wL (wq.drew.setCell ⟨g, 0 + k, none⟩ (.int .i64 ((x + y) % p)))) := Lib.hid (S0.1.setCell hgl _)
                        have HGS : Hid (Gb wL.heap.size (wq.drew.setCell ⟨g, 0 + k, none⟩ (.int .i64 ((x + y) % p))) (.slice (some ⟨g, 0, none⟩) c co) (mixH p c A B (k + 1))) := Lib.hid (by rw [Nat.zero_add]; exact HPUT.out.1)
                        have HXS : Hid (Gb wo.heap.size (wq.drew.setCell ⟨g, 0 + k, none⟩ (.int .i64 ((x + y) % p))) (.slice (some ⟨gx, 0, none⟩) c cx) B) := Lib.hid (gb_butH (HX9.out.below (Below.refl wq.heap.size wq).drew) hglt (But.set _ _ _))
                        refine wpAnyH_done (by kernel_rfl) (lastQ_storeI rfl (by kernel_rfl) (by kernel_rfl) (.tmp 123) (.tmp 122) (by kernel_rfl) g (0 + k) ((x + y) % p) _ (by kernel_rfl) (by kernel_rfl) S0.2.1 (by rw [Nat.zero_add]; exact HPUT.out.2.1) ?_) _
                        simp only [Act.put, List.setIfInBounds_toArray, List.set_cons_zero, List.set_cons_succ]
                        obtain ⟨W6, hW6⟩ : ∃ W6, W6 = wq.drew.setCell ⟨g, 0 + k, none⟩ (.int .i64 ((x + y) % p)) := ⟨_, rfl⟩
                        rw [← hW6] at HBS HGS HXS ⊢
                        clear hW6 S0 hcA hcB c0 HPUT HG9 HX9
                        go_wp2
                        go_roundw
                        case rel => exact ⟨k + 1, by omega, by go_num, HBS, HGS, HXS⟩
                        case measure => simp [intOf]; omega
                      · have hkc : k = c := by omega
                        have HGO : Hid (Gb wL.heap.size wq (.slice ao c co) (mixH p c A B c)) := Lib.hid (by have := HG9.out; rwa [hkc] at this)
                        have HBO := HB9
                        have HMS : Hid (mixH p c A B c = hoS p ds ms ds2 ms2 hs n i) := Lib.hid (by rw [mixH_done, HA.out, HBE.out, HC.out]; rfl)
                        clear HG9 HX9 HW HB9 hkc
                        have hi0 : (0 : Int) ≤ (n : Int) := by omega
                        have hi1 : (n : Int) < (D.length : Int) := by omega
                        have hj0 : (0 : Int) ≤ (i : Int) := by omega
                        have hj1 : (i : Int) < (tD.length : Int) := by omega
                        have f1 : wq.cell? ⟨bD, oD + n, none⟩ = some (.slice (some ⟨b2D, o2D, none⟩) tD.length c1D) := later HBO.out (Nat.le_refl _) HUD.out
                        have f2 : wq.cell? ⟨b2D, o2D + i, none⟩ = some (.slice a2D rowD.length c2D) := later HBO.out (Nat.le_refl _) HXD.out
                        have HSM := Lib.hid (l04Same_any _ _ (mixH p c A B c) rowD wq HGO.out.l1 (HLRD.out.below HBO.out) (by rw [mixH_len]; omega) (by rw [HRL.out]; omega))
                        have HEQ : Hid ((mixH p c A B c) = rowD ↔ RowEq p ds ms ds2 ms2 fs gs hs n i) := Lib.hid (by rw [HMS.out, HRD.out]; exact Iff.rfl)
                        by_cases hch : (mixH p c A B c) = rowD
                        · have HCH := Lib.hid (HEQ.out.1 hch)
                          rw [decide_eq_true hch] at HSM
                          clear hch HEQ
                          go_wp2_with fail
                          refine HSM.out.mono ?_
                          rintro e wz ⟨rfl, q4, hq4⟩
                          have HB9 : Hid (Below wL.heap.size wL wz) := Lib.hid (HBO.out.trans (((by rw [hq4]; exact drewN_below _ _) : Below wq.heap.size wq wz).mono HBO.out.size))
                          clear hq4 HSM f1 f2 hi0 hi1 hj0 hj1
                          go_wp2
                          go_roundw
                          case rel => exact ⟨i + 1, by omega, by go_num, HB9, Lib.hid (fun i2 h2 => by
                            by_cases e : i2 = i
                            · subst e; exact HCH.out
                            · exact HI.out i2 (by omega))⟩
                          case measure => simp [intOf]; omega
                        · have HCH : Hid (HmS p p ds ms ds2 ms2 fs gs hs false 0) := Lib.hid (hmS_of HCO.out (by
                            constructor
                            · intro h; cases h
                            · intro h; exact absurd (HEQ.out.2 (h n HNL.out i HIR.out)) hch))
                          rw [decide_eq_false hch] at HSM
                          clear hch HEQ
                          go_wp2_with fail
                          refine HSM.out.mono ?_
                          rintro e wz ⟨rfl, q4, hq4⟩
                          have HB9 : Hid (Below wL.heap.size wL wz) := Lib.hid (HBO.out.trans (((by rw [hq4]; exact drewN_below _ _) : Below wq.heap.size wq wz).mono HBO.out.size))
                          clear hq4 HSM f1 f2 hi0 hi1 hj0 hj1
                          have HN9 := Lib.hid (HNX.out wz (HB7.out.trans (HB9.out.mono HB7.out.size)))
                          go_wp2
                          go_ret2
                          exact ⟨false, 0, rfl, HN9.out.1.below, HCH.out⟩
                · have hq1 : ¬ ((n : Int) + 1 < (fs.length : Int)) := by omega
                  have HGO0 : Hid (Gb wL.heap.size w9 (.slice (some ⟨w8.heap.size, 0, none⟩) c c) A) := Lib.hid (by
                    have hy2 : ¬ n + 1 < ds2.length := by have := HFL.out; have := HE.out.len; omega
                    obtain ⟨e1, e2⟩ := hoA_nil (ms := ms) (ms2 := ms2) HE.out.x.1 HE.out.y.1 HHO.out HNL.out HIR.out hy2
                    refine gb_row (HRW9.out) HAL.out (fun q hq => ?_) (by unfold maxLen; omega) hs8
                    have e3 : A = apT p (csF ds2 0 n) [] [] := by rw [HA.out]; unfold hoA; rw [e1, e2]
                    subst e3
                    simp [apT, apTo])
                  obtain ⟨ao, hao⟩ : ∃ ao : Option Addr, ao = some ⟨w8.heap.size, 0, none⟩ := ⟨_, rfl⟩
                  obtain ⟨co, hco⟩ : ∃ co : Nat, co = c := ⟨_, rfl⟩
                  have HGO : Hid (Gb wL.heap.size w9 (.slice ao c co) A) := Lib.hid (by rw [hao, hco]; exact HGO0.out)
                  have HBO := HB9
                  go_upto_region 18 with fail
                  rw [show Value.slice (some ⟨w8.heap.size, 0, none⟩) c c = Value.slice ao c co from by rw [hao, hco]]
                  clear hao hco HGO0 hwn oA hq1
                  by_cases hn0 : n = 0
                  · have HS0 : Hid (A = hoS p ds ms ds2 ms2 hs n i) := Lib.hid (by rw [HA.out]; subst hn0; exact (hoS_zero HE.out.x.1 HE.out.y.1 HHO.out HIR.out).symm)
                    have hq : ¬ ((0 : Int) < (n : Int)) := by omega
                    clear hn0
                    have hi0 : (0 : Int) ≤ (n : Int) := by omega
                    have hi1 : (n : Int) < (D.length : Int) := by omega
                    have hj0 : (0 : Int) ≤ (i : Int) := by omega
                    have hj1 : (i : Int) < (tD.length : Int) := by omega
                    have f1 : w9.cell? ⟨bD, oD + n, none⟩ = some (.slice (some ⟨b2D, o2D, none⟩) tD.length c1D) := later HBO.out (Nat.le_refl _) HUD.out
                    have f2 : w9.cell? ⟨b2D, o2D + i, none⟩ = some (.slice a2D rowD.length c2D) := later HBO.out (Nat.le_refl _) HXD.out
                    have HSM := Lib.hid (l04Same_any _ _ A rowD w9 HGO.out.l1 (HLRD.out.below HBO.out) (by rw [HAL.out]; omega) (by rw [HRL.out]; omega))
                    have HEQ : Hid (A = rowD ↔ RowEq p ds ms ds2 ms2 fs gs hs n i) := Lib.hid (by rw [HS0.out, HRD.out]; exact Iff.rfl)
                    by_cases hch : A = rowD
                    · have HCH := Lib.hid (HEQ.out.1 hch)
                      rw [decide_eq_true hch] at HSM
                      clear hch HEQ
                      go_wp2_with fail
                      refine HSM.out.mono ?_
                      rintro e wz ⟨rfl, q4, hq4⟩
                      have HB9 : Hid (Below wL.heap.size wL wz) := Lib.hid (HBO.out.trans (((by rw [hq4]; exact drewN_below _ _) : Below w9.heap.size w9 wz).mono HBO.out.size))
                      clear hq4 HSM f1 f2 hi0 hi1 hj0 hj1
                      go_wp2
                      go_roundw
                      case rel => exact ⟨i + 1, by omega, by go_num, HB9, Lib.hid (fun i2 h2 => by
                        by_cases e : i2 = i
                        · subst e; exact HCH.out
                        · exact HI.out i2 (by omega))⟩
                      case measure => simp [intOf]; omega
                    · have HCH : Hid (HmS p p ds ms ds2 ms2 fs gs hs false 0) := Lib.hid (hmS_of HCO.out (by
                        constructor
                        · intro h; cases h
                        · intro h; exact absurd (HEQ.out.2 (h n HNL.out i HIR.out)) hch))
                      rw [decide_eq_false hch] at HSM
                      clear hch HEQ
                      go_wp2_with fail
                      refine HSM.out.mono ?_
                      rintro e wz ⟨rfl, q4, hq4⟩
                      have HB9 : Hid (Below wL.heap.size wL wz) := Lib.hid (HBO.out.trans (((by rw [hq4]; exact drewN_below _ _) : Below w9.heap.size w9 wz).mono HBO.out.size))
                      clear hq4 HSM f1 f2 hi0 hi1 hj0 hj1
                      have HN9 := Lib.hid (HNX.out wz (HB7.out.trans (HB9.out.mono HB7.out.size)))
                      go_wp2
                      go_ret2
                      exact ⟨false, 0, rfl, HN9.out.1.below, HCH.out⟩
                  · have hq : (0 : Int) < (n : Int) := by omega
                    have hws : IntKind.i64.wrap ((n : Int) - 1) = (n : Int) - 1 := IntWalk.i64_in _ (by omega)
                    obtain ⟨B, hB⟩ : ∃ B, B = hoB p ds ms ds2 hs n i := ⟨_, rfl⟩
                    have HBE := Lib.hid hB
                    have oB := hoB_ok HE.out.x.1 HE.out.y.1 HHO.out HNL.out HIR.out
                    have epr : prevT hs n = hs.getD (n - 1) [] := if_neg hn0
                    rw [epr] at oB
                    have HBL : Hid (B.length = c) := Lib.hid (by rw [hB, HC.out]; unfold hoB; rw [epr]; exact apT_length' oB)
                    have hfr := fam_row (dfL_fam HE.out.x.1) HNL.out HIR.out (HE.out.x.1.dim n).1 (HE.out.x.1.dsOk.dimZ ((n : Int) + (-1))).1
                    have okd : ApOk p (csF ds (-1) n) (unitL r i) (cycT ds ms n) := by
                      have := unit_apOk (i := i) HE.out.x.1.prime (cn := csF ds (-1) n) rfl hfr.2.1
                      rw [dfL_get HNL.out, ← HR.out] at this
                      exact this
                    have edr : apT p (csF ds (-1) n) (unitL r i) (cycT ds ms n) = ((dfL ds ms).getD n []).getD i [] := by
                      have := unit_apT (i := i) (unit_apOk (i := i) HE.out.x.1.prime (cn := csF ds (-1) n) rfl hfr.2.1) HIR.out
                      rw [← HR.out] at this
                      rw [dfL_get HNL.out] at this ⊢
                      exact this
                    have hzx := HE.out.x.1.dsOk.dimZ ((n : Int) + (-1))
                    have hzy := HE.out.y.1.dsOk.dimZ ((n : Int) + 0)
                    have hDR : (((dfL ds ms).getD n []).getD i []).length ≤ 1048576 := by have h1 := hfr.2.2.2.1; simp only [csF] at h1; omega
                    have ecn : ((n - 1 : Nat) : Int) = (n : Int) - 1 := by omega
                    have HW : Hid (∀ W, Below w9.heap.size w9 W → Below wL.heap.size wL W) := Lib.hid (fun W h => HBO.out.trans (h.mono HBO.out.size))
                    have HXY : Hid (∀ W, Below w9.heap.size w9 W → Bx w W w.heap.size p (.slice (some ⟨bd, od, none⟩) ds.length cap) (.slice am ms.length capm) ds ms ∧ Bx w W (w.heap.size + 1) p (.slice ad2 ds2.length cap2) (.slice am2 ms2.length capm2) ds2 ms2 ∧ L3 0 W (.slice (some ⟨bH, oH, none⟩) hs.length ch) hs ∧ W.cell? ⟨bd, od + n, none⟩ = some (.int .i64 (r : Int))) := Lib.hid (fun W h => by
                      have h0 := HNX.out W (HB7.out.trans ((HW.out W h).mono HB7.out.size))
                      exact ⟨h0.1, h0.2.1, h0.2.2.2.2, by rw [HR.out]; exact HDC.out W (HB7.out.trans ((HW.out W h).mono HB7.out.size)) n HNL.out⟩)
                    have HD1 : Hid (∀ W u, Below w9.heap.size w9 W → L1 0 W u (unitL r i) → Calls Tryd.prog 59 #[.agg #[.int .i64 p, .slice (some ⟨bd, od, none⟩) ds.length cap, .slice am ms.length capm], .int .i64 (n : Int), u] W (GbR (((dfL ds ms).getD n []).getD i []) W)) := Lib.hid (fun W u hb hu => by
                      have := l04D_any p n (csF ds (-1) n) _ _ u ds ms (unitL r i) W (HXY.out W hb).1.cx HE.out.x HNL.out (by simp only [csF]; omega) hu okd (by rw [unitL_length]; omega)
                      rwa [edr] at this)
                    have HIM : Hid (∀ W u, Below w9.heap.size w9 W → L1 0 W u (((dfL ds ms).getD n []).getD i []) → Calls Tryd.prog 60 #[.agg #[.int .i64 p, .slice (some ⟨bd, od, none⟩) ds.length cap, .slice am ms.length capm], .agg #[.int .i64 p, .slice ad2 ds2.length cap2, .slice am2 ms2.length capm2], .slice (some ⟨bH, oH, none⟩) hs.length ch, .int .i64 ((n : Int) - 1), .int .i64 1, u] W (ApB p c (((dfL ds ms).getD n []).getD i []) (hs.getD (n - 1) []) W)) := Lib.hid (fun W u hb hu => by
                      have h0 := HXY.out W hb
                      have := l04ImageB_any p p 1 (n - 1) c _ _ _ _ _ u ds ms ds2 ms2 hs _ W h0.1.cx h0.2.1.cx h0.2.2.1 hu HE.out.y (by have := HHO.out.1; have := HNL.out; omega) (by omega) (by omega) (by rw [ecn, show (n : Int) - 1 + 1 = (n : Int) + 0 by omega, HC.out]; simp only [csF]; omega) (by rw [HC.out]; exact oB) hDR
                      rwa [ecn] at this)
                    have HBA : Hid (apT p c (((dfL ds ms).getD n []).getD i []) (hs.getD (n - 1) []) = B) := Lib.hid (by rw [hB, HC.out]; unfold hoB; rw [epr])
                    obtain ⟨drl, hdrl⟩ : ∃ k, k = (((dfL ds ms).getD n []).getD i []).length := ⟨_, rfl⟩
                    have HDRL := Lib.hid hdrl
                    clear hB oB epr hfr okd edr hzx hzy hDR ecn hdrl hn0
                    go_upto_region 19 with fail
                    refine wp_region_held (S := fun W => Below w9.heap.size w9 W) (by kernel_rfl) ?_
                    have S0 : Below w9.heap.size w9 w9.drew := (Below.refl _ _).drew
                    change wpAnyH _ _ _ _ _ _ _ _ w9.drew
                    obtain ⟨wd, hwd⟩ : ∃ wd, wd = w9.drew := ⟨_, rfl⟩
                    rw [← hwd] at S0 ⊢
                    clear hwd
                    refine held_take (i := 0) (v := .agg #[.int .i64 p, .slice (some ⟨bd, od, none⟩) ds.length cap, .slice am ms.length capm]) (some 87) rfl rfl (by kernel_rfl) (by kernel_rfl) (by kernel_rfl) (fun _ _ _ h => h) (yieldsIf_cell (by kernel_rfl) rfl (by kernel_rfl) (fun W h => hload3x (HXY.out W h).1)) S0 ?_
                    refine held_take (i := 1) (v := .agg #[.int .i64 p, .slice ad2 ds2.length cap2, .slice am2 ms2.length capm2]) (some 88) rfl rfl (by kernel_rfl) (by kernel_rfl) (by kernel_rfl) (fun _ _ _ h => h) (yieldsIf_cell (by kernel_rfl) rfl (by kernel_rfl) (fun W h => hload3x (HXY.out W h).2.1)) S0 ?_
                    refine held_take (i := 2) (v := .slice (some ⟨bH, oH, none⟩) hs.length ch) (some 89) rfl rfl (by kernel_rfl) (by kernel_rfl) (by kernel_rfl) (fun _ _ _ h => h) (yieldsIf_move (by kernel_rfl) rfl (by kernel_rfl)) S0 ?_
                    refine held_take (i := 3) (v := .int .i64 (n : Int)) (some 90) rfl rfl (by kernel_rfl) (by kernel_rfl) (by kernel_rfl) (fun _ _ _ h => h) (yieldsIf_move (by kernel_rfl) rfl (by kernel_rfl)) S0 ?_
                    refine held_take (i := 4) (v := .int .i64 ((n : Int) - 1)) (some 91) rfl rfl (by kernel_rfl) (by kernel_rfl) (by kernel_rfl) (fun _ _ _ h => h) (yieldsIf_bin (by kernel_rfl) rfl (by kernel_rfl) (by kernel_rfl) (fun _ => rfl) (hsubA hws)) S0 ?_
                    refine held_take (i := 5) (v := .agg #[.int .i64 p, .slice (some ⟨bd, od, none⟩) ds.length cap, .slice am ms.length capm]) (some 92) rfl rfl (by kernel_rfl) (by kernel_rfl) (by kernel_rfl) (fun _ _ _ h => h) (yieldsIf_cell (by kernel_rfl) rfl (by kernel_rfl) (fun W h => hload3x (HXY.out W h).1)) S0 ?_
                    refine held_take (i := 6) (v := .int .i64 (n : Int)) (some 93) rfl rfl (by kernel_rfl) (by kernel_rfl) (by kernel_rfl) (fun _ _ _ h => h) (yieldsIf_move (by kernel_rfl) rfl (by kernel_rfl)) S0 ?_
                    refine held_take (i := 7) (v := .pointer (some ⟨w.heap.size, 1, none⟩)) (some 94) rfl rfl (by kernel_rfl) (by kernel_rfl) (by kernel_rfl) (fun _ _ _ h => h) (yieldsIf_run (by kernel_rfl) (fun W _ => by kernel_rfl)) S0 ?_
                    refine held_take (i := 8) (v := .slice (some ⟨bd, od, none⟩) ds.length cap) (some 95) rfl rfl (by kernel_rfl) (by kernel_rfl) (by kernel_rfl) (fun _ _ _ h => h) (yieldsIf_cell (by kernel_rfl) rfl (by kernel_rfl) (fun W h => hloadS W (HXY.out W h).1.c1)) S0 ?_
                    refine held_take (i := 9) (v := .int .i64 (n : Int)) (some 96) rfl rfl (by kernel_rfl) (by kernel_rfl) (by kernel_rfl) (fun _ _ _ h => h) (yieldsIf_move (by kernel_rfl) rfl (by kernel_rfl)) S0 ?_
                    refine held_take (i := 10) (v := .pointer (some ⟨bd, od + n, none⟩)) (some 97) rfl rfl (by kernel_rfl) (by kernel_rfl) (by kernel_rfl) (fun _ _ _ h => h) (yieldsIf_index (by kernel_rfl) rfl (by kernel_rfl) (by kernel_rfl) (hidxI bd od cap HNL.out)) S0 ?_
                    refine held_take (i := 11) (v := .int .i64 (r : Int)) (some 98) rfl rfl (by kernel_rfl) (by kernel_rfl) (by kernel_rfl) (fun _ _ _ h => h) (yieldsIf_cell (by kernel_rfl) rfl (by kernel_rfl) (fun W h => hload W (HXY.out W h).2.2.2)) S0 ?_
                    refine held_take (i := 12) (v := .int .i64 (i : Int)) (some 99) rfl rfl (by kernel_rfl) (by kernel_rfl) (by kernel_rfl) (fun _ _ _ h => h) (yieldsIf_move (by kernel_rfl) rfl (by kernel_rfl)) S0 ?_
                    refine held_enter (i := 13) (some 100) (f := 61) (args := #[.int .i64 (r : Int), .int .i64 (i : Int)]) (by kernel_rfl) rfl rfl rfl (by kernel_rfl) (l04Unit_any r i _ (by omega) hlt2) ?_ (fun c w' h => by obtain ⟨_, h, _⟩ := h; cases h) (fun w' h => by obtain ⟨_, h, _⟩ := h; cases h)
                    rintro ee V1 ⟨u1, he, hg1, hb1⟩
                    injection he with he
                    subst he
                    obtain ⟨a1, c1, hv1⟩ := Sl.shape hg1.l1
                    rw [unitRow_length] at hv1
                    subst hv1
                    have S1 : Below w9.heap.size w9 V1 := S0.trans (hb1.mono S0.size)
                    refine ⟨S1, ?_⟩
                    refine held_enter (i := 14) (some 101) (f := 59) (args := #[.agg #[.int .i64 p, .slice (some ⟨bd, od, none⟩) ds.length cap, .slice am ms.length capm], .int .i64 (n : Int), .slice a1 r c1]) (by kernel_rfl) rfl rfl rfl (by kernel_rfl) (HD1.out _ _ S1 hg1.l1) ?_ (fun c w' h => by obtain ⟨_, h, _⟩ := h; cases h) (fun w' h => by obtain ⟨_, h, _⟩ := h; cases h)
                    rintro ee V2 ⟨u2, he, hg2, hb2⟩
                    injection he with he
                    subst he
                    obtain ⟨a2, c2, hv2⟩ := Sl.shape hg2.l1
                    rw [← HDRL.out] at hv2
                    subst hv2
                    have S2 : Below w9.heap.size w9 V2 := S1.trans (hb2.mono S1.size)
                    refine ⟨S2, ?_⟩
                    refine held_enter (i := 15) (some 102) (f := 60) (args := #[.agg #[.int .i64 p, .slice (some ⟨bd, od, none⟩) ds.length cap, .slice am ms.length capm], .agg #[.int .i64 p, .slice ad2 ds2.length cap2, .slice am2 ms2.length capm2], .slice (some ⟨bH, oH, none⟩) hs.length ch, .int .i64 ((n : Int) - 1), .int .i64 1, .slice a2 drl c2]) (by kernel_rfl) rfl rfl rfl (by kernel_rfl) (HIM.out _ _ S2 hg2.l1) ?_ (fun c w' h => by obtain ⟨_, h, _⟩ := h; cases h) (fun w' h => by obtain ⟨_, h, _⟩ := h; cases h)
                    rintro ee V3 ⟨u3, he, hg3, hb3⟩
                    injection he with he
                    subst he
                    rw [HBA.out] at hg3
                    obtain ⟨ax, cx, hv3⟩ := Sl.shape hg3.l1
                    rw [HBL.out] at hv3
                    subst hv3
                    have S3 : Below w9.heap.size w9 V3 := S2.trans (hb3.mono S2.size)
                    refine ⟨S3, ?_⟩
                    refine held_take (i := 16) (v := .slice ax c cx) (some 17) rfl rfl (by kernel_rfl) (by kernel_rfl) (by kernel_rfl) (fun _ _ _ h => h) (yieldsIf_assign (by kernel_rfl) rfl (by kernel_rfl)) S3 ?_
                    refine wpAnyH_done (by kernel_rfl) ?_ _
                    simp only [Act.put, List.setIfInBounds_toArray, List.set_cons_zero, List.set_cons_succ]
                    have HGX : Hid (Gb w9.heap.size V3 (.slice ax c cx) B) := Lib.hid (hg3.mono S2.size)
                    have HGP : Hid (Gb wL.heap.size V3 (.slice ao c co) (mixH p c A B 0)) := Lib.hid (by rw [mixH_zero p B HAL.out]; exact HGO.out.below S3)
                    have HBP := Lib.hid (HW.out _ S3)
                    have HLO : Hid (∀ g, ao = some ⟨g, 0, none⟩ → g < w9.heap.size) := Lib.hid (fun g hg => (World.ownsRow.lt HGO.out g (by rw [hg]; rfl)).2)
                    obtain ⟨wp, hwp0⟩ : ∃ wp : World, wp = V3 := ⟨_, rfl⟩
                    rw [← hwp0] at HGX HGP HBP ⊢
                    clear S0 S1 S2 S3 hb1 hb2 hb3 hg1 hg2 hg3 hwp0 HD1 HIM HXY HGO HBA
                    go_wp2
                    go_loopw [18] (fun j wr => ∃ (k : Nat), k ≤ c ∧ j = .int .i64 k ∧ Hid (Below wL.heap.size wL wr) ∧ Hid (Gb wL.heap.size wr (.slice ao c co) (mixH p c A B k)) ∧ Hid (Gb w9.heap.size wr (.slice ax c cx) B)) (fun j _ => c - (intOf j).toNat)
                    case atStart => exact ⟨0, Nat.zero_le _, rfl, HBP, HGP, HGX⟩
                    case round =>
                      clear HBP HGP HGX
                      obtain ⟨k, hk, rfl, HB9, HG9, HX9⟩ := hrel
                      obtain ⟨wq, hwq⟩ : ∃ wq : World, wq = wr := ⟨_, rfl⟩
                      subst hwq
                      by_cases hlk : k < c
                      · obtain ⟨g, hga, hgl⟩ := HG9.out.block (by rw [mixH_len]; omega)
                        obtain ⟨gx, hgxa, hgxl⟩ := HX9.out.block (by rw [HBL.out]; omega)
                        have hglt := HLO.out g hga
                        subst hga hgxa
                        have hkB : k < B.length := by rw [HBL.out]; exact hlk
                        have hkm : k < (mixH p c A B k).length := by rw [mixH_len]; exact hlk
                        obtain ⟨x, hx⟩ : ∃ x, x = A.getD k 0 := ⟨_, rfl⟩
                        obtain ⟨y, hy⟩ : ∃ y, y = B.getD k 0 := ⟨_, rfl⟩
                        have hxb := HAB.out k
                        have hyb : 0 ≤ B.getD k 0 ∧ B.getD k 0 ≤ p - 1 := by rw [HBE.out]; exact apT_num (hoB_ok HE.out.x.1 HE.out.y.1 HHO.out HNL.out HIR.out) k
                        rw [← hx] at hxb
                        rw [← hy] at hyb
                        obtain ⟨hx0, hx1⟩ := hxb
                        obtain ⟨hy0, hy1⟩ := hyb
                        have hcA : wq.drew.cell? ⟨g, 0 + k, none⟩ = some (.int .i64 x) := by rw [Nat.zero_add, hx, ← mixH_at hkm]; exact gb_atH (HG9.out.below (Below.refl wq.heap.size wq).drew) hkm
                        have hcB : wq.drew.cell? ⟨gx, 0 + k, none⟩ = some (.int .i64 y) := by rw [Nat.zero_add, hy, getD_of_lt 0 hkB]; exact gb_atH (HX9.out.below (Below.refl wq.heap.size wq).drew) hkB
                        have c0 := (HNX.out wq.drew (HB7.out.trans (HB9.out.drew.mono HB7.out.size))).1.c0
                        have hput := (HG9.out.below (Below.refl wq.heap.size wq).drew).put (k := k) hkm ((x + y) % p)
                        rw [hx, hy, mixH_set, ← hx, ← hy] at hput
                        have HPUT := Lib.hid hput
                        clear hput hx hy
                        go_upto_region 23 with fail
                        refine wp_region_last (fun W => Below wL.heap.size wL W ∧ W.cell? ⟨g, 0 + k, none⟩ = some (.int .i64 x) ∧ W.cell? ⟨gx, 0 + k, none⟩ = some (.int .i64 y) ∧ W.cell? ⟨w.heap.size, 0, none⟩ = some (.int .i64 p)) 15 (by kernel_rfl) rfl (by kernel_rfl) ?_
                        have S0 : Below wL.heap.size wL wq.drew ∧ wq.drew.cell? ⟨g, 0 + k, none⟩ = some (.int .i64 x) ∧ wq.drew.cell? ⟨gx, 0 + k, none⟩ = some (.int .i64 y) ∧ wq.drew.cell? ⟨w.heap.size, 0, none⟩ = some (.int .i64 p) := ⟨HB9.out.drew, hcA, hcB, c0⟩
                        refine held_take (i := 0) (v := .slice (some ⟨g, 0, none⟩) c co) (some 109) rfl rfl (by kernel_rfl) (by kernel_rfl) (by kernel_rfl) (fun _ _ _ h => h) (yieldsIf_move (by kernel_rfl) rfl (by kernel_rfl)) S0 ?_
                        refine held_take (i := 1) (v := .int .i64 (k : Int)) (some 110) rfl rfl (by kernel_rfl) (by kernel_rfl) (by kernel_rfl) (fun _ _ _ h => h) (yieldsIf_move (by kernel_rfl) rfl (by kernel_rfl)) S0 ?_
                        refine held_take (i := 2) (v := .slice (some ⟨g, 0, none⟩) c co) (some 111) rfl rfl (by kernel_rfl) (by kernel_rfl) (by kernel_rfl) (fun _ _ _ h => h) (yieldsIf_move (by kernel_rfl) rfl (by kernel_rfl)) S0 ?_
                        refine held_take (i := 3) (v := .int .i64 (k : Int)) (some 112) rfl rfl (by kernel_rfl) (by kernel_rfl) (by kernel_rfl) (fun _ _ _ h => h) (yieldsIf_move (by kernel_rfl) rfl (by kernel_rfl)) S0 ?_
                        refine held_take (i := 4) (v := .pointer (some ⟨g, 0 + k, none⟩)) (some 113) rfl rfl (by kernel_rfl) (by kernel_rfl) (by kernel_rfl) (fun _ _ _ h => h) (yieldsIf_index (by kernel_rfl) rfl (by kernel_rfl) (by kernel_rfl) (hidxI g 0 co hlk)) S0 ?_
                        refine held_take (i := 5) (v := .int .i64 x) (some 114) rfl rfl (by kernel_rfl) (by kernel_rfl) (by kernel_rfl) (fun _ _ _ h => h) (yieldsIf_cell (by kernel_rfl) rfl (by kernel_rfl) (fun W h => hload W h.2.1)) S0 ?_
                        refine held_take (i := 6) (v := .slice (some ⟨gx, 0, none⟩) c cx) (some 115) rfl rfl (by kernel_rfl) (by kernel_rfl) (by kernel_rfl) (fun _ _ _ h => h) (yieldsIf_move (by kernel_rfl) rfl (by kernel_rfl)) S0 ?_
                        refine held_take (i := 7) (v := .int .i64 (k : Int)) (some 116) rfl rfl (by kernel_rfl) (by kernel_rfl) (by kernel_rfl) (fun _ _ _ h => h) (yieldsIf_move (by kernel_rfl) rfl (by kernel_rfl)) S0 ?_
                        refine held_take (i := 8) (v := .pointer (some ⟨gx, 0 + k, none⟩)) (some 117) rfl rfl (by kernel_rfl) (by kernel_rfl) (by kernel_rfl) (fun _ _ _ h => h) (yieldsIf_index (by kernel_rfl) rfl (by kernel_rfl) (by kernel_rfl) (hidxI gx 0 cx hlk)) S0 ?_
                        refine held_take (i := 9) (v := .int .i64 y) (some 118) rfl rfl (by kernel_rfl) (by kernel_rfl) (by kernel_rfl) (fun _ _ _ h => h) (yieldsIf_cell (by kernel_rfl) rfl (by kernel_rfl) (fun W h => hload W h.2.2.1)) S0 ?_
                        refine held_take (i := 10) (v := .int .i64 (x + y)) (some 119) rfl rfl (by kernel_rfl) (by kernel_rfl) (by kernel_rfl) (fun _ _ _ h => h) (yieldsIf_bin (by kernel_rfl) rfl (by kernel_rfl) (by kernel_rfl) (fun _ => rfl) (haddA (IntWalk.i64_in _ (by omega)))) S0 ?_
                        refine held_take (i := 11) (v := .pointer (some ⟨w.heap.size, 0, none⟩)) (some 120) rfl rfl (by kernel_rfl) (by kernel_rfl) (by kernel_rfl) (fun _ _ _ h => h) (yieldsIf_run (by kernel_rfl) (fun W _ => by kernel_rfl)) S0 ?_
                        refine held_take (i := 12) (v := .int .i64 p) (some 121) rfl rfl (by kernel_rfl) (by kernel_rfl) (by kernel_rfl) (fun _ _ _ h => h) (yieldsIf_cell (by kernel_rfl) rfl (by kernel_rfl) (fun W h => hload W h.2.2.2)) S0 ?_
                        refine held_take (i := 13) (v := .int .i64 ((x + y) % p)) (some 122) rfl rfl (by kernel_rfl) (by kernel_rfl) (by kernel_rfl) (fun _ _ _ h => h) (yieldsIf_bin (by kernel_rfl) rfl (by kernel_rfl) (by kernel_rfl) (fun _ => rfl) (hremI (by omega) (by omega) (by omega))) S0 ?_
                        refine held_take (i := 14) (v := .pointer (some ⟨g, 0 + k, none⟩)) (some 123) rfl rfl (by kernel_rfl) (by kernel_rfl) (by kernel_rfl) (fun _ _ _ h => h) (yieldsIf_index (by kernel_rfl) rfl (by kernel_rfl) (by kernel_rfl) (hidxI g 0 co hlk)) S0 ?_
                        refine held_none (i := 15) (v := .bool false) rfl rfl (by kernel_rfl) (by kernel_rfl) (by kernel_rfl) (fun _ _ _ h => h) (yieldsIf_move (by kernel_rfl) rfl (by kernel_rfl)) S0 ?_
                        have HBS : Hid (Below wL.heap.size wL (wq.drew.setCell ⟨g, 0 + k, none⟩ (.int .i64 ((x + y) % p)))) := Lib.hid (S0.1.setCell hgl _)
                        have HGS : Hid (Gb wL.heap.size (wq.drew.setCell ⟨g, 0 + k, none⟩ (.int .i64 ((x + y) % p))) (.slice (some ⟨g, 0, none⟩) c co) (mixH p c A B (k + 1))) := Lib.hid (by rw [Nat.zero_add]; exact HPUT.out.1)
                        have HXS : Hid (Gb w9.heap.size (wq.drew.setCell ⟨g, 0 + k, none⟩ (.int .i64 ((x + y) % p))) (.slice (some ⟨gx, 0, none⟩) c cx) B) := Lib.hid (gb_butH (HX9.out.below (Below.refl wq.heap.size wq).drew) hglt (But.set _ _ _))
                        refine wpAnyH_done (by kernel_rfl) (lastQ_storeI rfl (by kernel_rfl) (by kernel_rfl) (.tmp 123) (.tmp 122) (by kernel_rfl) g (0 + k) ((x + y) % p) _ (by kernel_rfl) (by kernel_rfl) S0.2.1 (by rw [Nat.zero_add]; exact HPUT.out.2.1) ?_) _
                        simp only [Act.put, List.setIfInBounds_toArray, List.set_cons_zero, List.set_cons_succ]
                        obtain ⟨W6, hW6⟩ : ∃ W6, W6 = wq.drew.setCell ⟨g, 0 + k, none⟩ (.int .i64 ((x + y) % p)) := ⟨_, rfl⟩
                        rw [← hW6] at HBS HGS HXS ⊢
                        clear hW6 S0 hcA hcB c0 HPUT HG9 HX9
                        go_wp2
                        go_roundw
                        case rel => exact ⟨k + 1, by omega, by go_num, HBS, HGS, HXS⟩
                        case measure => simp [intOf]; omega
                      · have hkc : k = c := by omega
                        have HGO : Hid (Gb wL.heap.size wq (.slice ao c co) (mixH p c A B c)) := Lib.hid (by have := HG9.out; rwa [hkc] at this)
                        have HBO := HB9
                        have HMS : Hid (mixH p c A B c = hoS p ds ms ds2 ms2 hs n i) := Lib.hid (by rw [mixH_done, HA.out, HBE.out, HC.out]; rfl)
                        clear HG9 HX9 HW HB9 hkc
                        have hi0 : (0 : Int) ≤ (n : Int) := by omega
                        have hi1 : (n : Int) < (D.length : Int) := by omega
                        have hj0 : (0 : Int) ≤ (i : Int) := by omega
                        have hj1 : (i : Int) < (tD.length : Int) := by omega
                        have f1 : wq.cell? ⟨bD, oD + n, none⟩ = some (.slice (some ⟨b2D, o2D, none⟩) tD.length c1D) := later HBO.out (Nat.le_refl _) HUD.out
                        have f2 : wq.cell? ⟨b2D, o2D + i, none⟩ = some (.slice a2D rowD.length c2D) := later HBO.out (Nat.le_refl _) HXD.out
                        have HSM := Lib.hid (l04Same_any _ _ (mixH p c A B c) rowD wq HGO.out.l1 (HLRD.out.below HBO.out) (by rw [mixH_len]; omega) (by rw [HRL.out]; omega))
                        have HEQ : Hid ((mixH p c A B c) = rowD ↔ RowEq p ds ms ds2 ms2 fs gs hs n i) := Lib.hid (by rw [HMS.out, HRD.out]; exact Iff.rfl)
                        by_cases hch : (mixH p c A B c) = rowD
                        · have HCH := Lib.hid (HEQ.out.1 hch)
                          rw [decide_eq_true hch] at HSM
                          clear hch HEQ
                          go_wp2_with fail
                          refine HSM.out.mono ?_
                          rintro e wz ⟨rfl, q4, hq4⟩
                          have HB9 : Hid (Below wL.heap.size wL wz) := Lib.hid (HBO.out.trans (((by rw [hq4]; exact drewN_below _ _) : Below wq.heap.size wq wz).mono HBO.out.size))
                          clear hq4 HSM f1 f2 hi0 hi1 hj0 hj1
                          go_wp2
                          go_roundw
                          case rel => exact ⟨i + 1, by omega, by go_num, HB9, Lib.hid (fun i2 h2 => by
                            by_cases e : i2 = i
                            · subst e; exact HCH.out
                            · exact HI.out i2 (by omega))⟩
                          case measure => simp [intOf]; omega
                        · have HCH : Hid (HmS p p ds ms ds2 ms2 fs gs hs false 0) := Lib.hid (hmS_of HCO.out (by
                            constructor
                            · intro h; cases h
                            · intro h; exact absurd (HEQ.out.2 (h n HNL.out i HIR.out)) hch))
                          rw [decide_eq_false hch] at HSM
                          clear hch HEQ
                          go_wp2_with fail
                          refine HSM.out.mono ?_
                          rintro e wz ⟨rfl, q4, hq4⟩
                          have HB9 : Hid (Below wL.heap.size wL wz) := Lib.hid (HBO.out.trans (((by rw [hq4]; exact drewN_below _ _) : Below wq.heap.size wq wz).mono HBO.out.size))
                          clear hq4 HSM f1 f2 hi0 hi1 hj0 hj1
                          have HN9 := Lib.hid (HNX.out wz (HB7.out.trans (HB9.out.mono HB7.out.size)))
                          go_wp2
                          go_ret2
                          exact ⟨false, 0, rfl, HN9.out.1.below, HCH.out⟩
              · go_wp2
                go_roundw
                case rel => exact ⟨n + 1, by omega, by go_num, HB2, Lib.hid (fun n2 h2 i2 hi2 => by
                  by_cases e : n2 = n
                  · subst e
                    exact HI.out i2 (by rw [← HR.out] at hi2; omega)
                  · exact HQ.out n2 (by omega) i2 hi2)⟩
                case measure => simp [intOf]; omega
          · have HN9 := Lib.hid (HNX.out wx (HB7.out.trans (HB.out.mono HB7.out.size)))
            have HQ9 : Hid (HmS p p ds ms ds2 ms2 fs gs hs true 0) := Lib.hid (hmS_of HCO.out ⟨fun _ => fun n2 h2 i2 hi2 => HQ.out n2 (by have := HFL.out; omega) i2 hi2, fun _ => rfl⟩)
            go_wp2
            go_ret2
            exact ⟨true, 0, rfl, HN9.out.1.below, HQ9.out⟩
      · have HCO : Hid (HmS p p ds ms ds2 ms2 fs gs hs false 5) := Lib.hid (hmS_bad ((hmCode_in HEC.out.symm HHO.out).trans (mapCode_no rfl hall)).symm (by decide))
        rw [mapCode_no rfl hall]
        clear hall
        go_wp2
        go_ret2
        exact ⟨false, 5, rfl, HN6.out.1.below, HCO.out⟩
    · obtain rfl : bb = false := by
        cases bb with
        | false => rfl
        | true => exact absurd (hbb.1 rfl) hho
      have HCO : Hid (HmS p p ds ms ds2 ms2 fs gs hs false 2) := Lib.hid (hmS_bad ((hmCode_out HEC.out.symm hho)).symm (by decide))
      clear hbb hho
      go_wp2
      go_ret2
      exact ⟨false, 2, rfl, HN4.out.1.below, HCO.out⟩
  · have HNE : Hid (HmS p p2 ds ms ds2 ms2 fs gs hs false ec) := Lib.hid (hmS_bad (HEC.out.trans (hmCode_ne (by rw [← HEC.out]; exact h0)).symm) h0)
    have hne2 : (ec != 0) = true := by simp [h0]
    have hne3 : (ec == 0) = false := by simp [h0]
    clear h0
    go_wp2
    go_ret2
    exact ⟨false, ec, rfl, HN3.out.1.below, HNE.out⟩
end Go.Proofs.YtpchbceohnabnabDoor

