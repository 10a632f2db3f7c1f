/-
  spec.l04Sum by contract.
-/
import Derived.Test.YtpdkfidmmjlmnabLds
import Derived.Test.YtpdkfidmmjlmnabDuS
namespace Go.Proofs.Ytpdkfidmmjlmnab
open Go.RowKit

theorem cell_new1' (W : World) (v : Value) (t : TypeId) : (W.alloc (.cells #[v] t)).cell? ⟨W.heap.size, 0, none⟩ = some v := by simp
theorem Sl.at0 {α : Type} {lo : Nat} {R : World → Value → α → Prop} {w : World} {v : Value} {xs : List α} (h : Sl lo R w v xs) {k : Nat} (hk : k < xs.length) : ∃ b o cap u, v = .slice (some ⟨b, o, none⟩) xs.length cap ∧ w.cell? ⟨b, o + k, none⟩ = some u ∧ R w u xs[k] := by
  refine Sl.cases h (fun _ _ hx _ => absurd hk (by simp [hx])) (fun b o cap hv _ _ hc => ?_)
  obtain ⟨u, hu, hr⟩ := hc k hk
  exact ⟨b, o, cap, u, hv, hu, hr⟩
theorem slice_some {ad : Option Addr} {n m cap cap2 b o : Nat} (h : Value.slice ad n cap = .slice (some ⟨b, o, none⟩) m cap2) : ad = some ⟨b, o, none⟩ ∧ n = m ∧ cap = cap2 := by
  injection h with a b c
  exact ⟨a, b, c⟩
/-- Families of one shape: m tables of rs rows of cs numbers, all small. -/
structure Fs6 (m : Nat) (rs cs : Nat → Nat) (fs : List (List (List Int))) : Prop where
  len : fs.length = m
  rows : ∀ n, n < m → (fs.getD n []).length = rs n
  cols : ∀ n, n < m → ∀ i, i < rs n → ((fs.getD n []).getD i []).length = cs n
  nums : ∀ n, n < m → ∀ i, i < rs n → ∀ q, q < cs n → 0 ≤ ((fs.getD n []).getD i []).getD q 0 ∧ ((fs.getD n []).getD i []).getD q 0 ≤ 6
theorem famL_succ (m : Nat) (rs cs : Nat → Nat) (Z : Nat → Nat → Nat → Int) : famL (m + 1) rs cs Z = famL m rs cs Z ++ [tableOf (rs m) (cs m) (Z m)] := by simp [famL, List.range_succ]
/-- Table n of a family of that shape in memory. -/
theorem Fs6.tab {m : Nat} {rs cs : Nat → Nat} {fs : List (List (List Int))} (h : Fs6 m rs cs fs) {w : World} {v : Value} (hv : L3 0 w v fs) {n : Nat} (hn : n < m) : ∃ b o cap ad ct, v = .slice (some ⟨b, o, none⟩) m cap ∧ w.cell? ⟨b, o + n, none⟩ = some (.slice ad (rs n) ct) ∧ L2 0 w (.slice ad (rs n) ct) (fs.getD n []) := by
  have hn' : n < fs.length := by rw [h.len]; exact hn
  obtain ⟨b, o, cap, u, e, hu, hr⟩ := hv.at0 hn'
  obtain ⟨ad, ct, rfl⟩ := Sl.shape hr
  rw [← getD_of_lt [] hn'] at hr hu
  rw [h.rows n hn] at hr hu
  rw [h.len] at e
  exact ⟨b, o, cap, ad, ct, e, hu, hr⟩
theorem Fs6.row {m : Nat} {rs cs : Nat → Nat} {fs : List (List (List Int))} (h : Fs6 m rs cs fs) {w : World} {v : Value} {n : Nat} (hn : n < m) (hv : L2 0 w v (fs.getD n [])) {i : Nat} (hi : i < rs n) : ∃ b o cap ad ct, v = .slice (some ⟨b, o, none⟩) (rs n) cap ∧ w.cell? ⟨b, o + i, none⟩ = some (.slice ad (cs n) ct) ∧ L1 0 w (.slice ad (cs n) ct) ((fs.getD n []).getD i []) := by
  have hi' : i < (fs.getD n []).length := by rw [h.rows n hn]; exact hi
  obtain ⟨b, o, cap, u, e, hu, hr⟩ := hv.at0 hi'
  obtain ⟨ad, ct, rfl⟩ := Sl.shape hr
  rw [← getD_of_lt [] hi'] at hr hu
  rw [h.cols n hn i hi] at hr hu
  rw [h.rows n hn] at e
  exact ⟨b, o, cap, ad, ct, e, hu, hr⟩
theorem Fs6.num {m : Nat} {rs cs : Nat → Nat} {fs : List (List (List Int))} (h : Fs6 m rs cs fs) {w : World} {v : Value} {n : Nat} (hn : n < m) {i : Nat} (hi : i < rs n) (hv : L1 0 w v ((fs.getD n []).getD i [])) {q : Nat} (hq : q < cs n) : ∃ b o cap, v = .slice (some ⟨b, o, none⟩) (cs n) cap ∧ w.cell? ⟨b, o + q, none⟩ = some (.int .i64 (((fs.getD n []).getD i []).getD q 0)) := by
  have hq' : q < ((fs.getD n []).getD i []).length := by rw [h.cols n hn i hi]; exact hq
  obtain ⟨b, o, cap, u, e, hu, hr⟩ := hv.at0 hq'
  rw [h.cols n hn i hi] at e
  rw [getD_of_lt 0 hq']
  rw [hr] at hu
  exact ⟨b, o, cap, e, hu⟩

set_option maxHeartbeats 6400000 in
set_option maxRecDepth 100000 in
theorem l04Sum_any (p k : Int) (m : Nat) (rs cs : Nat → Nat) (fv gv : Value) (fs gs : List (List (List Int))) (w : World) (hf : L3 0 w fv fs) (hg : L3 0 w gv gs) (h6 : Fs6 m rs cs fs) (h7 : Fs6 m rs cs gs) (hp : IsP p) (hk : -6 ≤ k ∧ k ≤ 6) (hm : m ≤ 100) (hrs : ∀ n, n < m → rs n ≤ 100 ∧ cs n ≤ 100) :
    Calls Try.prog 129 #[.int .i64 p, fv, gv, .int .i64 k] w (Gt3R (famL m rs cs (afZ p k fs gs)) w) := by
  obtain ⟨af, cf, rfl⟩ := Sl.shape hf
  obtain ⟨ag, cg, rfl⟩ := Sl.shape hg
  rw [h6.len] at hf ⊢
  rw [h7.len] at hg ⊢
  have HF := Lib.hid hf
  have HG := Lib.hid hg
  have H6 := Lib.hid h6
  have H7 := Lib.hid h7
  have HPR := Lib.hid hp
  have HRS := Lib.hid hrs
  have HT0 := Lib.hid (Gt.new (base := w.heap.size) w (Nat.le_refl _))
  have hp27 : 2 ≤ p ∧ p ≤ 7 := ⟨hp.lo, hp.hi⟩
  obtain ⟨hk0, hk1⟩ := hk
  clear hf hg h6 h7 hp hrs
  go_enter Try.func129, Try.ntmps129
  go_wp2
  go_loopw [9, 10, 11, 12, 13, 14] (fun ov i _ _ _ _ wr => ∃ (n : Nat) (ao : Option Addr) (co : Nat), n ≤ m ∧ ov = .slice ao n co ∧ i = .int .i64 n ∧ Hid (Below w.heap.size w wr) ∧ Hid (Gt w.heap.size wr ov (famL n rs cs (afZ p k fs gs)))) (fun _ i _ _ _ _ _ => m - (intOf i).toNat)
  case atStart => exact ⟨0, _, _, Nat.zero_le _, rfl, rfl, Lib.hid (below_alloc1 _ _), Lib.hid (by simpa [famL] using HT0.out)⟩
  case round =>
    clear HT0
    obtain ⟨n, ao, co, hn, rfl, rfl, HB, HGT⟩ := hrel
    obtain ⟨wx, hwx⟩ : ∃ wx : World, wx = wr := ⟨_, rfl⟩
    subst hwx
    have hwx0 : w.heap.size ≤ wx.heap.size := HB.out.size
    by_cases hltm : n < m
    · obtain ⟨bf, of, cf', at', ct, e1, F1, F1L⟩ := H6.out.tab HF.out hltm
      obtain ⟨e2, _, e3⟩ := slice_some e1
      subst e2 e3
      obtain ⟨bf2, of2, cf2', at2, ct2, e1, G1, G1L⟩ := H7.out.tab HG.out hltm
      obtain ⟨e2, _, e3⟩ := slice_some e1
      subst e2 e3
      have F1H := Lib.hid F1L
      have G1H := Lib.hid G1L
      obtain ⟨r, hr⟩ : ∃ r, r = rs n := ⟨_, rfl⟩
      have HR := Lib.hid hr
      have hrb := HRS.out n hltm
      rw [← hr] at F1 G1 F1H G1H hrb
      obtain ⟨hr100, hc100⟩ := hrb
      have f1 := later HB.out (Nat.le_refl _) F1
      have HS0 := Lib.hid (Gs.new (base := wx.heap.size) wx (Nat.le_refl _))
      have F1c := Lib.hid F1
      have G1c := Lib.hid G1
      clear e1 F1L G1L F1 G1 hr
      go_wp2
      clear f1
      go_loopw [11, 12, 13, 14] (fun tv i _ _ wr => ∃ (j : Nat) (a2 : Option Addr) (c2 : Nat), j ≤ r ∧ tv = .slice a2 j c2 ∧ i = .int .i64 j ∧ Hid (Below wx.heap.size wx wr) ∧ Hid (Gs wx.heap.size wr tv (tableOf j (cs n) (afZ p k fs gs n)))) (fun _ i _ _ _ => r - (intOf i).toNat)
      case atStart => exact ⟨0, _, _, Nat.zero_le _, rfl, rfl, Lib.hid (below_alloc1 _ _), Lib.hid (by simpa [tableOf] using HS0.out)⟩
      case round =>
        clear HS0
        obtain ⟨i, a2, c2, hi, rfl, rfl, HBY, HGS⟩ := hrel
        obtain ⟨wy, hwy'⟩ : ∃ wy : World, wy = wr := ⟨_, rfl⟩
        subst hwy'
        have HBW : Hid (Below w.heap.size w wy) := Lib.hid (HB.out.trans (HBY.out.mono hwx0))
        have hwy : w.heap.size ≤ wy.heap.size := HBW.out.size
        have hxy : wx.heap.size ≤ wy.heap.size := HBY.out.size
        have f1 := later HBW.out (Nat.le_refl _) F1c.out
        by_cases hlti : i < r
        · obtain ⟨bt, ot, ct', ar, cr, e1, F2, F2L⟩ := H6.out.row hltm F1H.out (by rw [← HR.out]; exact hlti)
          rw [← HR.out] at e1
          obtain ⟨e2, _, e3⟩ := slice_some e1
          subst e2 e3
          obtain ⟨bt2, ot2, ct2', ar2, cr2, e1, G2, G2L⟩ := H7.out.row hltm G1H.out (by rw [← HR.out]; exact hlti)
          rw [← HR.out] at e1
          obtain ⟨e2, _, e3⟩ := slice_some e1
          subst e2 e3
          obtain ⟨c, hc⟩ : ∃ c, c = cs n := ⟨_, rfl⟩
          have HC := Lib.hid hc
          rw [← hc] at F2 G2 F2L G2L hc100
          have F2H := Lib.hid F2L
          have G2H := Lib.hid G2L
          have F2c := Lib.hid F2
          have G2c := Lib.hid G2
          have f2 := later HBW.out (Nat.le_refl _) F2
          have HB0 := Lib.hid (Gb.new (base := wy.heap.size) wy (Nat.le_refl _))
          clear e1 F2 G2 F2L G2L hc
          go_wp2
          clear f1 f2
          go_loopw [13, 14] (fun rv i2 wr => ∃ (q : Nat) (aq : Option Addr) (cq : Nat), q ≤ c ∧ rv = .slice aq q cq ∧ i2 = .int .i64 q ∧ Hid (Below wy.heap.size wy wr) ∧ Hid (Gb wy.heap.size wr rv ((List.range q).map (afZ p k fs gs n i)))) (fun _ i _ => c - (intOf i).toNat)
          case atStart => exact ⟨0, _, _, Nat.zero_le _, rfl, rfl, Lib.hid (below_alloc1 _ _), Lib.hid (by simpa using HB0.out)⟩
          case round =>
            clear HB0
            obtain ⟨q, aq, cq, hq, rfl, rfl, HBZ, HROW⟩ := hrel
            obtain ⟨wz, hwz⟩ : ∃ wz : World, wz = wr := ⟨_, rfl⟩
            subst hwz
            have HBWZ : Hid (Below w.heap.size w wz) := Lib.hid (HBW.out.trans (HBZ.out.mono hwy))
            have HQL : Hid (((List.range q).map (afZ p k fs gs n i)).length = q) := Lib.hid (by simp)
            have f1 := later HBWZ.out (Nat.le_refl _) F1c.out
            have f2 := later HBWZ.out (Nat.le_refl _) F2c.out
            by_cases hltq : q < c
            · obtain ⟨br, or, cr', e1, F3⟩ := H6.out.num hltm (by rw [← HR.out]; exact hlti) F2H.out (by rw [← HC.out]; exact hltq)
              rw [← HC.out] at e1
              obtain ⟨e2, _, e3⟩ := slice_some e1
              subst e2 e3
              obtain ⟨br2, or2, cr2', e1, G3⟩ := H7.out.num hltm (by rw [← HR.out]; exact hlti) G2H.out (by rw [← HC.out]; exact hltq)
              rw [← HC.out] at e1
              obtain ⟨e2, _, e3⟩ := slice_some e1
              subst e2 e3
              obtain ⟨x, hx⟩ : ∃ x, x = ((fs.getD n []).getD i []).getD q 0 := ⟨_, rfl⟩
              obtain ⟨y, hy⟩ : ∃ y, y = ((gs.getD n []).getD i []).getD q 0 := ⟨_, rfl⟩
              have hxb := H6.out.nums n hltm i (by rw [← HR.out]; exact hlti) q (by rw [← HC.out]; exact hltq)
              have hyb := H7.out.nums n hltm i (by rw [← HR.out]; exact hlti) q (by rw [← HC.out]; exact hltq)
              rw [← hx] at F3 hxb
              rw [← hy] at G3 hyb
              have HVAL : Hid ((x + k * y) % p = afZ p k fs gs n i q) := Lib.hid (by rw [hx, hy]; rfl)
              obtain ⟨hx0, hx1⟩ := hxb
              obtain ⟨hy0, hy1⟩ := hyb
              have m0 : -36 ≤ k * y := by have := Int.mul_le_mul_of_nonneg_right hk0 hy0; omega
              have m1 : k * y ≤ 36 := by have := Int.mul_le_mul_of_nonneg_right hk1 hy0; omega
              clear hx hy e1
              go_upto_region 13 with fail
              have S0 : Below w.heap.size w wz.drew := HBWZ.out.drew
              have f3 := F3
              have g3 := G3
              have f1 := F1c.out
              have f2 := F2c.out
              have g1 := G1c.out
              have g2 := G2c.out
              refine wp_region_held (S := fun W => Below w.heap.size w W) (by kernel_rfl) ?_
              refine held_take (i := 0) (v := .slice aq q cq) (some 45) rfl rfl (by kernel_rfl) (by kernel_rfl) (by kernel_rfl) (fun _ _ _ h => h) (yieldsIf_move (by kernel_rfl) rfl (by kernel_rfl)) S0 ?_
              refine held_take (i := 1) (v := .int .i64 p) (some 46) rfl rfl (by kernel_rfl) (by kernel_rfl) (by kernel_rfl) (fun _ _ _ h => h) (yieldsIf_move (by kernel_rfl) rfl (by kernel_rfl)) S0 ?_
              refine held_take (i := 2) (v := .slice (some ⟨bf, of, none⟩) m cf) (some 47) rfl rfl (by kernel_rfl) (by kernel_rfl) (by kernel_rfl) (fun _ _ _ h => h) (yieldsIf_move (by kernel_rfl) rfl (by kernel_rfl)) S0 ?_
              refine held_take (i := 3) (v := .int .i64 (n : Int)) (some 48) rfl rfl (by kernel_rfl) (by kernel_rfl) (by kernel_rfl) (fun _ _ _ h => h) (yieldsIf_move (by kernel_rfl) rfl (by kernel_rfl)) S0 ?_
              refine held_take (i := 4) (v := .pointer (some ⟨bf, of + n, none⟩)) (some 49) rfl rfl (by kernel_rfl) (by kernel_rfl) (by kernel_rfl) (fun _ _ _ h => h) (yieldsIf_index (by kernel_rfl) rfl (by kernel_rfl) (by kernel_rfl) (hidxU bf of cf hltm)) S0 ?_
              refine held_take (i := 5) (v := .slice (some ⟨bt, ot, none⟩) r ct) (some 50) rfl rfl (by kernel_rfl) (by kernel_rfl) (by kernel_rfl) (fun _ _ _ h => h) (yieldsIf_cell (by kernel_rfl) rfl (by kernel_rfl) (fun W h => hloadSS W (later h (Nat.le_refl _) f1))) S0 ?_
              refine held_take (i := 6) (v := .int .i64 (i : Int)) (some 51) rfl rfl (by kernel_rfl) (by kernel_rfl) (by kernel_rfl) (fun _ _ _ h => h) (yieldsIf_move (by kernel_rfl) rfl (by kernel_rfl)) S0 ?_
              refine held_take (i := 7) (v := .pointer (some ⟨bt, ot + i, none⟩)) (some 52) rfl rfl (by kernel_rfl) (by kernel_rfl) (by kernel_rfl) (fun _ _ _ h => h) (yieldsIf_index (by kernel_rfl) rfl (by kernel_rfl) (by kernel_rfl) (hidxS bt ot ct hlti)) S0 ?_
              refine held_take (i := 8) (v := .slice (some ⟨br, or, none⟩) c cr) (some 53) rfl rfl (by kernel_rfl) (by kernel_rfl) (by kernel_rfl) (fun _ _ _ h => h) (yieldsIf_cell (by kernel_rfl) rfl (by kernel_rfl) (fun W h => hloadS W (later h (Nat.le_refl _) f2))) S0 ?_
              refine held_take (i := 9) (v := .int .i64 (q : Int)) (some 54) rfl rfl (by kernel_rfl) (by kernel_rfl) (by kernel_rfl) (fun _ _ _ h => h) (yieldsIf_move (by kernel_rfl) rfl (by kernel_rfl)) S0 ?_
              refine held_take (i := 10) (v := .pointer (some ⟨br, or + q, none⟩)) (some 55) rfl rfl (by kernel_rfl) (by kernel_rfl) (by kernel_rfl) (fun _ _ _ h => h) (yieldsIf_index (by kernel_rfl) rfl (by kernel_rfl) (by kernel_rfl) (hidxI br or cr hltq)) S0 ?_
              refine held_take (i := 11) (v := .int .i64 x) (some 56) rfl rfl (by kernel_rfl) (by kernel_rfl) (by kernel_rfl) (fun _ _ _ h => h) (yieldsIf_cell (by kernel_rfl) rfl (by kernel_rfl) (fun W h => hload W (later h (Nat.le_refl _) f3))) S0 ?_
              refine held_take (i := 12) (v := .int .i64 k) (some 57) rfl rfl (by kernel_rfl) (by kernel_rfl) (by kernel_rfl) (fun _ _ _ h => h) (yieldsIf_move (by kernel_rfl) rfl (by kernel_rfl)) S0 ?_
              refine held_take (i := 13) (v := .slice (some ⟨bf2, of2, none⟩) m cg) (some 58) rfl rfl (by kernel_rfl) (by kernel_rfl) (by kernel_rfl) (fun _ _ _ h => h) (yieldsIf_move (by kernel_rfl) rfl (by kernel_rfl)) S0 ?_
              refine held_take (i := 14) (v := .int .i64 (n : Int)) (some 59) rfl rfl (by kernel_rfl) (by kernel_rfl) (by kernel_rfl) (fun _ _ _ h => h) (yieldsIf_move (by kernel_rfl) rfl (by kernel_rfl)) S0 ?_
              refine held_take (i := 15) (v := .pointer (some ⟨bf2, of2 + n, none⟩)) (some 60) rfl rfl (by kernel_rfl) (by kernel_rfl) (by kernel_rfl) (fun _ _ _ h => h) (yieldsIf_index (by kernel_rfl) rfl (by kernel_rfl) (by kernel_rfl) (hidxU bf2 of2 cg hltm)) S0 ?_
              refine held_take (i := 16) (v := .slice (some ⟨bt2, ot2, none⟩) r ct2) (some 61) rfl rfl (by kernel_rfl) (by kernel_rfl) (by kernel_rfl) (fun _ _ _ h => h) (yieldsIf_cell (by kernel_rfl) rfl (by kernel_rfl) (fun W h => hloadSS W (later h (Nat.le_refl _) g1))) S0 ?_
              refine held_take (i := 17) (v := .int .i64 (i : Int)) (some 62) rfl rfl (by kernel_rfl) (by kernel_rfl) (by kernel_rfl) (fun _ _ _ h => h) (yieldsIf_move (by kernel_rfl) rfl (by kernel_rfl)) S0 ?_
              refine held_take (i := 18) (v := .pointer (some ⟨bt2, ot2 + i, none⟩)) (some 63) rfl rfl (by kernel_rfl) (by kernel_rfl) (by kernel_rfl) (fun _ _ _ h => h) (yieldsIf_index (by kernel_rfl) rfl (by kernel_rfl) (by kernel_rfl) (hidxS bt2 ot2 ct2 hlti)) S0 ?_
              refine held_take (i := 19) (v := .slice (some ⟨br2, or2, none⟩) c cr2) (some 64) rfl rfl (by kernel_rfl) (by kernel_rfl) (by kernel_rfl) (fun _ _ _ h => h) (yieldsIf_cell (by kernel_rfl) rfl (by kernel_rfl) (fun W h => hloadS W (later h (Nat.le_refl _) g2))) S0 ?_
              refine held_take (i := 20) (v := .int .i64 (q : Int)) (some 65) rfl rfl (by kernel_rfl) (by kernel_rfl) (by kernel_rfl) (fun _ _ _ h => h) (yieldsIf_move (by kernel_rfl) rfl (by kernel_rfl)) S0 ?_
              refine held_take (i := 21) (v := .pointer (some ⟨br2, or2 + q, none⟩)) (some 66) rfl rfl (by kernel_rfl) (by kernel_rfl) (by kernel_rfl) (fun _ _ _ h => h) (yieldsIf_index (by kernel_rfl) rfl (by kernel_rfl) (by kernel_rfl) (hidxI br2 or2 cr2 hltq)) S0 ?_
              refine held_take (i := 22) (v := .int .i64 y) (some 67) rfl rfl (by kernel_rfl) (by kernel_rfl) (by kernel_rfl) (fun _ _ _ h => h) (yieldsIf_cell (by kernel_rfl) rfl (by kernel_rfl) (fun W h => hload W (later h (Nat.le_refl _) g3))) S0 ?_
              refine held_take (i := 23) (v := .int .i64 (k * y)) (some 68) rfl rfl (by kernel_rfl) (by kernel_rfl) (by kernel_rfl) (fun _ _ _ h => h) (yieldsIf_bin (by kernel_rfl) rfl (by kernel_rfl) (by kernel_rfl) (fun _ => rfl) (hmulA (IntWalk.i64_in _ (by omega)))) S0 ?_
              refine held_take (i := 24) (v := .int .i64 (x + k * y)) (some 69) rfl rfl (by kernel_rfl) (by kernel_rfl) (by kernel_rfl) (fun _ _ _ h => h) (yieldsIf_bin (by kernel_rfl) rfl (by kernel_rfl) (by kernel_rfl) (fun _ => rfl) (haddA (IntWalk.i64_in _ (by omega)))) S0 ?_
              refine held_enter (i := 25) (some 70) (f := 169) (args := #[.int .i64 p, .int .i64 (x + k * y)]) (by kernel_rfl) rfl rfl rfl (by kernel_rfl) (l01Mod_any p (x + k * y) _ HPR.out) ?_ (fun c w' h => by cases h.1) (fun w' h => by cases h.1)
              rintro e5 w5 ⟨he5, hw5⟩
              injection he5 with he5
              subst he5 hw5
              refine ⟨S0, ?_⟩
              obtain ⟨we, hwe⟩ : ∃ we, we = wz.drew.alloc (.cells #[.int .i64 ((x + k * y) % p)] 2) := ⟨_, rfl⟩
              have hbe : Below wz.drew.heap.size wz.drew we := by rw [hwe]; exact below_alloc1 _ _
              have hve : we.cell? ⟨wz.drew.heap.size, 0, none⟩ = some (.int .i64 ((x + k * y) % p)) := by rw [hwe]; exact cell_new1' _ _ _
              have S1 : Below w.heap.size w we := S0.trans (hbe.mono S0.size)
              refine held_mem (i := 26) (v := .slice (some ⟨wz.drew.heap.size, 0, none⟩) 1 1) (w' := we) (some 71) (by kernel_rfl) rfl rfl rfl (by rw [hwe]; go_simp) S1 ?_
              simp only [Act.put, List.setIfInBounds_toArray, List.set_cons_zero, List.set_cons_succ]
              have HRE := Lib.hid ((HROW.out.below (Below.refl wz.heap.size wz).drew).below hbe)
              have hsz2 : wy.heap.size ≤ we.heap.size := Nat.le_trans HBZ.out.size hbe.size
              refine held_call (i := 27) (by kernel_rfl) rfl rfl ?_
              refine wp_appendB1 (some 72) rfl (.tmp 45) (.tmp 71) rfl wy.heap.size (.slice aq q cq) ((List.range q).map (afZ p k fs gs n i)) (by kernel_rfl) HRE.out wz.drew.heap.size (by kernel_rfl) ((x + k * y) % p) hve (by rw [HQL.out]; omega) hsz2 ?_
              rw [HQL.out]
              intro g9 c9 w9 hn hgw
              have hbw := (Below.refl wy.heap.size we).grown hgw hsz2 (fun g hg => (HRE.out.lt g hg).1)
              have S2 : Below w.heap.size w w9 := S1.trans (hbw.mono hwy)
              refine ⟨S2, ?_⟩
              refine held_take (i := 28) (v := .slice (some ⟨g9, 0, none⟩) (q + 1) c9) (some 13) rfl rfl (by kernel_rfl) (by kernel_rfl) (by kernel_rfl) (fun _ _ _ h => h) (yieldsIf_assign (by kernel_rfl) rfl (by kernel_rfl)) S2 ?_
              refine wpAnyH_done (by kernel_rfl) ?_ _
              simp only [Act.put, List.setIfInBounds_toArray, List.set_cons_zero, List.set_cons_succ]
              have HR9 : Hid (Gb wy.heap.size w9 (.slice (some ⟨g9, 0, none⟩) (q + 1) c9) ((List.range (q + 1)).map (afZ p k fs gs n i))) := Lib.hid (by rw [List.range_succ, List.map_append, List.map_singleton, ← HVAL.out]; exact hn)
              have HB9 : Hid (Below wy.heap.size wy w9) := Lib.hid ((HBZ.out.trans ((Below.refl wz.heap.size wz).drew.mono HBZ.out.size)).trans ((hbe.mono HBZ.out.size).trans hbw))
              clear hn hgw hbw S0 S1 S2 hve hbe hwe f1 f2 f3 g1 g2 g3 hsz2
              go_wp2
              go_roundw
              case rel => first | exact ⟨q + 1, _, _, by omega, rfl, by go_num, HB9, HR9⟩ | ((repeat apply Exists.intro); exact ⟨⟨q + 1, _, _, by omega, rfl, by go_num, HB9, HR9⟩, rfl⟩)
              case measure => simp [intOf]; omega
            · have hqc : Hid (q = c) := Lib.hid (by omega)
              have HRZ : Hid (Gb wy.heap.size wz (.slice aq q cq) ((List.range c).map (afZ p k fs gs n i))) := Lib.hid (by have := HROW.out; rw [hqc.out] at this ⊢; exact this)
              have hba : Below wz.heap.size wz (wz.alloc (.cells #[.slice aq q cq] 22)) := below_alloc1 _ _
              have HSL := Lib.hid ((HGS.out.below HBZ.out).below hba)
              have HGU := Lib.hid (HRZ.out.g1.below hba)
              have HBV := Lib.hid ((HBY.out.trans (HBZ.out.mono hxy)).trans (hba.mono (Nat.le_trans hxy HBZ.out.size)))
              have hcell := cell_alloc1 wz (.slice aq q cq) 22
              have HGN : Hid ((tableOf i (cs n) (afZ p k fs gs n)).length = i) := Lib.hid (by simp [tableOf])
              have hszv : wx.heap.size ≤ (wz.alloc (.cells #[.slice aq q cq] 22)).heap.size := HBV.out.size
              clear hba
              go_wp2_with (at_builtin; refine wpList_appendG rfl (some 76) rfl (.tmp 73) (.tmp 75) rfl wx.heap.size _ (tableOf i (cs n) (afZ p k fs gs n)) rfl HSL.out wz.heap.size rfl aq q cq hcell _ HGU.out ?c1 ?c2 ?_)
              case c1 => rw [HGN.out]; omega
              case c2 => first | exact hszv | (simp; omega) | omega
              intro v7 W7 hg7 hgr7
              have HS7 : Hid (Gs wx.heap.size W7 v7 (tableOf (i + 1) (cs n) (afZ p k fs gs n))) := Lib.hid (by
                have e : tableOf (i + 1) (cs n) (afZ p k fs gs n) = tableOf i (cs n) (afZ p k fs gs n) ++ [(List.range c).map (afZ p k fs gs n i)] := by rw [HC.out]; simp [tableOf, List.range_succ]
                rw [e]
                exact hg7)
              have HB7 : Hid (Below wx.heap.size wx W7) := Lib.hid (HBV.out.grown hgr7 hszv (fun g hg => (HSL.out.lt g hg).1))
              obtain ⟨a7, c7, hs7⟩ := Sl.shape HS7.out.l2
              rw [show (tableOf (i + 1) (cs n) (afZ p k fs gs n)).length = i + 1 by simp [tableOf]] at hs7
              subst hs7
              clear hg7 hgr7 hcell f1 f2 hszv
              go_wp2
              go_roundw
              case rel => first | exact ⟨i + 1, _, _, by omega, rfl, by go_num, HB7, HS7⟩ | ((repeat apply Exists.intro); exact ⟨⟨i + 1, _, _, by omega, rfl, by go_num, HB7, HS7⟩, rfl⟩)
              case measure => simp [intOf]; omega
        · have hir : Hid (i = r) := Lib.hid (by omega)
          have HTB : Hid (Gs wx.heap.size wy (.slice a2 i c2) (tableOf (rs n) (cs n) (afZ p k fs gs n))) := Lib.hid (by have := HGS.out; rw [← HR.out]; rw [hir.out] at this ⊢; exact this)
          have hba : Below wy.heap.size wy (wy.alloc (.cells #[.slice a2 i c2] 26)) := below_alloc1 _ _
          have HGL := Lib.hid ((HGT.out.below HBY.out).below hba)
          have HGU : Hid (Gs 0 (wy.alloc (.cells #[.slice a2 i c2] 26)) (.slice a2 i c2) (tableOf (rs n) (cs n) (afZ p k fs gs n))) := Lib.hid ((HTB.out.below hba).mono (Nat.zero_le _))
          have HBZ := Lib.hid (HBW.out.trans (hba.mono HBW.out.size))
          have hcell := cell_alloc1 wy (.slice a2 i c2) 26
          have HGN : Hid ((famL n rs cs (afZ p k fs gs)).length = n) := Lib.hid (famL_length _ _ _ _)
          have hszv : w.heap.size ≤ (wy.alloc (.cells #[.slice a2 i c2] 26)).heap.size := HBZ.out.size
          clear hba HGS HTB
          go_wp2_with (at_builtin; refine wpList_appendT3 rfl (some 80) rfl (.tmp 77) (.tmp 79) rfl w.heap.size _ (famL n rs cs (afZ p k fs gs)) rfl HGL.out wy.heap.size rfl a2 i c2 hcell _ HGU.out ?c1 ?c2 ?_)
          case c1 => rw [HGN.out]; omega
          case c2 => first | exact hszv | (simp; omega) | omega
          intro v7 W7 hg7 hgr7
          have HG7 : Hid (Gt w.heap.size W7 v7 (famL (n + 1) rs cs (afZ p k fs gs))) := Lib.hid (by rw [famL_succ]; exact hg7)
          have HB7 : Hid (Below w.heap.size w W7) := Lib.hid (HBZ.out.grown hgr7 hszv (fun g hg => (HGL.out.lt g hg).1))
          obtain ⟨a7, c7, hs7⟩ := Sl.shape HG7.out.l3
          rw [famL_length] at hs7
          subst hs7
          clear hg7 hgr7 hcell f1 hszv
          go_wp2
          go_roundw
          case rel => first | exact ⟨n + 1, _, _, by omega, rfl, by go_num, HB7, HG7⟩ | ((repeat apply Exists.intro); exact ⟨⟨n + 1, _, _, by omega, rfl, by go_num, HB7, HG7⟩, rfl⟩)
          case measure => simp [intOf]; omega
    · have HKE : Hid (n = m) := Lib.hid (by omega)
      go_wp2
      go_ret
      refine ⟨_, rfl, ?_, HB.out⟩
      have := HGT.out
      rw [HKE.out] at this ⊢
      exact this
end Go.Proofs.Ytpdkfidmmjlmnab
