/-
  LevelNumbers of both sides by their contracts.
-/
import Derived.Test.YtchijefibiaphaaRbw
import Derived.Test.YtchijefibiaphaaApw
namespace Go.Proofs.Ytchijefibiaphaa
open Go.RowKit

/-- The level numbers. -/
def LvN (p : Int) (ds : List Int) (ms : List (List (List Int))) (ls : List (List Int)) (q : Int) (out : List Int) : Prop := out.length = ds.length ∧ ∀ i (h : i < out.length), RkBet p ds ms ls i q q out[i]
theorem LvN.unique {p : Int} {ds : List Int} {ms : List (List (List Int))} {ls : List (List Int)} {q : Int} {a b : List Int} (hp : 1 < p) (h : LvN p ds ms ls q a) (k : LvN p ds ms ls q b) : a = b :=
  List.ext_getElem (h.1.trans k.1.symm) (fun i h1 h2 => (h.2 i h1).unique hp (k.2 i h2))
theorem LvN.short {p : Int} {ds : List Int} {ms : List (List (List Int))} {ls : List (List Int)} {q : Int} {a : List Int} (hf : IsFil p ds ms ls) (h : LvN p ds ms ls q a) : a.length ≤ 1048576 := by
  have := h.1
  have := hf.1.1.len1
  omega
theorem lv_none (lo hi : Nat) (w : World) : W1 lo hi w (.slice none 0 0) [] := Or.inl ⟨rfl, _, _, rfl⟩
theorem lv_row {W : World} {g n lo hi : Nat} {X : Nat → Int} (h : W.rowIs g 2 n (fun i => .int .i64 (X i))) (hlo : lo ≤ g) (hhi : g < hi) (hn : 0 < n) : W1 lo hi W (.slice (some ⟨g, 0, none⟩) n n) ((List.range n).map X) :=
  Or.inr ⟨g, 0, n, by simp, hlo, hhi, by simpa using hn, fun i hi2 => ⟨_, by rw [Nat.zero_add]; exact h.cell (by simpa using hi2), by simp [IsI]⟩, fun i _ => h.frozen _⟩
theorem lv_ok {p : Int} {ds : List Int} {ms : List (List (List Int))} {ls : List (List Int)} {q : Int} (hf : IsFil p ds ms ls) (hq : 0 ≤ q ∧ q ≤ 5) : celCode p ds ms ls 0 0 q = 0 := celCode_ok hf ⟨by omega, by have := hf.1.1.len0; omega, hq⟩

set_option maxHeartbeats 3200000 in
set_option maxRecDepth 100000 in
theorem levelNumbers_any (p q : Int) (dv mv lv : Value) (ds : List Int) (ms : List (List (List Int))) (ls : List (List Int)) (w : World) (h : Fi 0 w dv mv lv ds ms ls) (hd : ds.length ≤ 1048576) (hm : Bd3 1048576 ms) (hl : Bd2 1048576 ls) :
    Calls Try.prog 51 #[.agg #[.int .i64 p, dv, mv, lv], .int .i64 q] w (AnsW Rw1 (LvN p ds ms ls q) [] (celCode p ds ms ls 0 0 q) w) := by
  have HX0 := Lib.hid (Fx.start (p := p) 67 h)
  have HCK := Lib.hid (checkCell_any p 0 0 q dv mv lv ds ms ls _ HX0.out.fi hd hm hl)
  obtain ⟨⟨ad, cap, hdv⟩, ⟨am, capm, hmv⟩, ⟨al, capl, hlv⟩⟩ := h.shapes
  subst hdv hmv hlv
  have c0 := HX0.out.c0
  have c1 := HX0.out.c1
  have c2 := HX0.out.c2
  have c3 := HX0.out.c3
  obtain ⟨kc, hkc⟩ : ∃ kc, kc = celCode p ds ms ls 0 0 q := ⟨_, rfl⟩
  rw [← hkc] at HCK ⊢
  have HKE := Lib.hid hkc
  clear h hm hl hkc
  go_enter Try.func51, Try.ntmps51
  go_wp2_with fail
  refine HCK.out.mono ?_
  rintro e w1 ⟨rfl, hb1⟩
  have HX1 := Lib.hid (HX0.out.next hb1)
  clear hb1 c0 c1 c2 c3 HCK
  by_cases hk : kc = 0
  · subst hk
    obtain ⟨hfil, _, _, hcq⟩ := celCode_zero HKE.out.symm
    have HF := Lib.hid hfil
    obtain ⟨a, rfl⟩ : ∃ a : Nat, q = (a : Int) := ⟨q.toNat, by have := hcq.1; omega⟩
    have ha : a ≤ 5 := by omega
    have hl6 := hfil.1.1.len1
    have hl0 := hfil.1.1.len0
    have HLS : Hid (ls.length = ds.length) := Lib.hid hfil.2.len
    obtain ⟨c, hc⟩ : ∃ c, c = ls.length := ⟨_, rfl⟩
    have hc6 : c ≤ 6 := by have := HLS.out; omega
    have HCL := Lib.hid hc
    rw [← hc] at HX1
    have hmk := run_make_row' (P := Try.prog) 22 2 (.int .i64 0) 8 Try.underlying22 Try.infoI rfl .i64 .i64 c (by omega) (by omega)
    have c3 := HX1.out.c3
    have hs1 : w.heap.size ≤ w1.heap.size := HX1.out.below.size
    have HB2 := Lib.hid (below_alloc1 w1 (.cells (madeCells #[.int .i64 0] c) 2))
    have HROW0 := Lib.hid (World.rowIs_made w1 (.int .i64 0) c 2)
    clear hfil hcq hc
    go_wp2
    clear hmk c3
    go_loopw [8, 21] (fun _ i wr => ∃ (k : Nat) (X : Nat → Int), k ≤ c ∧ i = .int .i64 k ∧ Hid (Below w1.heap.size w1 wr) ∧ Hid (wr.rowIs w1.heap.size 2 c (fun i => .int .i64 (X i))) ∧ Hid (∀ i, i < k → RkBet p ds ms ls i (a : Int) (a : Int) (X i))) (fun _ i _ => c - (intOf i).toNat)
    case atStart => exact ⟨0, fun _ => 0, Nat.zero_le _, rfl, HB2, HROW0, Lib.hid (fun i h => absurd h (Nat.not_lt_zero _))⟩
    case round =>
      clear HB2 HROW0
      obtain ⟨k, X, hk, rfl, HB, HROW, HN⟩ := hrel
      obtain ⟨wx, hwx⟩ : ∃ wx : World, wx = wr := ⟨_, rfl⟩
      subst hwx
      have HX := Lib.hid (HX1.out.next HB.out)
      by_cases hlt : k < c
      · have c0 := HX.out.c0
        have c1 := HX.out.c1
        have c2 := HX.out.c2
        have c3 := HX.out.c3
        have HC := Lib.hid (rankBetween_any p k a a _ _ _ ds ms ls wx HX.out.fi HF.out (by have := HLS.out; have := HCL.out; omega) (Nat.le_refl _) ha)
        go_wp2_with fail
        refine HC.out.mono ?_
        rintro e w3 ⟨x, rfl, hb3, hx⟩
        have HB3 := Lib.hid (HB.out.trans (hb3.mono HB.out.size))
        have HR3 := Lib.hid (rowIs_below HROW.out hb3)
        have HNX := Lib.hid hx
        have hcell := HR3.out.cell hlt
        have hfz := HR3.out.frozen k
        have HR4 := Lib.hid ((HR3.out.set k (.int .i64 x)).congr (g := fun i => .int .i64 (if i = k then x else X i)) (fun i _ => by
          by_cases e : i = k
          · simp [e]
          · simp [e]))
        have HX4 : Hid (Below w1.heap.size w1 (w3.setCell ⟨w1.heap.size, k, none⟩ (.int .i64 x))) := Lib.hid (HB3.out.setCell (Nat.le_refl _) _)
        have HN4 : Hid (∀ i, i < k + 1 → RkBet p ds ms ls i (a : Int) (a : Int) (if i = k then x else X i)) := Lib.hid (fun i hi => by
          by_cases e : i = k
          · subst e; rw [if_pos rfl]; exact HNX.out
          · rw [if_neg e]; exact HN.out i (by omega))
        clear hb3 hx HC c0 c1 c2 c3 HR3
        go_wp2
        go_roundw
        case rel => exact ⟨k + 1, _, by omega, by go_num, HX4, HR4, HN4⟩
        case measure => simp [intOf]; omega
      · have hkk : Hid (k = c) := Lib.hid (by omega)
        have hgl := HROW.out.lt
        go_wp2
        go_ret2
        refine ⟨_, (List.range c).map X, 0, rfl, w1_rw1 (lv_row HROW.out (by omega) hgl (by have := HLS.out; have := HCL.out; omega)) (by simp; omega), HX.out.below, RsOut.of_yes rfl ⟨by simp; exact HCL.out.trans HLS.out, fun i hi => ?_⟩⟩
        have hi' : i < c := by simpa using hi
        simpa using HN.out i (by rw [hkk.out]; exact hi')
  · have hne2 : (kc != 0) = true := by simp [hk]
    have hne3 : (kc == 0) = false := by simp [hk]
    have HK := Lib.hid hk
    clear hk
    go_wp2
    go_ret2
    exact ⟨_, [], kc, rfl, Rw1.nil _ _ _, HX1.out.below, RsOut.of_no HK.out⟩

set_option maxHeartbeats 3200000 in
set_option maxRecDepth 100000 in
theorem spLevelNumbers_any (p q : Int) (dv mv lv : Value) (ds : List Int) (ms : List (List (List Int))) (ls : List (List Int)) (w : World) (h : Fi 0 w dv mv lv ds ms ls) (hd : ds.length ≤ 1048576) (hm : Bd3 1048576 ms) (hl : Bd2 1048576 ls) :
    Calls Try.prog 50 #[.agg #[.int .i64 p, dv, mv, lv], .int .i64 q] w (AnsS (L1 0) (LvN p ds ms ls q) [] (celCode p ds ms ls 0 0 q) w) := by
  have HX0 := Lib.hid (Fx.start (p := p) 67 h)
  have HIS := Lib.hid (l02Is_any p dv mv lv ds ms ls _ HX0.out.fi hd hm hl)
  obtain ⟨⟨ad, cap, hdv⟩, ⟨am, capm, hmv⟩, ⟨al, capl, hlv⟩⟩ := h.shapes
  subst hdv hmv hlv
  have c0 := HX0.out.c0
  have c1 := HX0.out.c1
  have c2 := HX0.out.c2
  have c3 := HX0.out.c3
  clear h hm hl
  go_enter Try.func50, Try.ntmps50
  go_wp2_with fail
  refine HIS.out.mono ?_
  rintro e w1 ⟨bb, rfl, hb1, hbb⟩
  have HX1 := Lib.hid (HX0.out.next hb1)
  have HBB := Lib.hid hbb
  clear hb1 hbb c0 c1 c2 c3 HIS
  cases bb with
  | false =>
    have HNO : Hid (¬ IsFil p ds ms ls) := Lib.hid (fun hh => absurd (HBB.out.2 hh) (by simp))
    go_wp2
    go_ret2
    refine ⟨_, [], 1, rfl, (lv_none 0 0 _).l1, HX1.out.below, ?_⟩
    have e := celCode_no (r := 0) (n := 0) (q := q) HNO.out
    rw [e]
    exact RsOut.of_no (by decide)
  | true =>
    have HF : Hid (IsFil p ds ms ls) := Lib.hid (HBB.out.1 (by simp))
    by_cases hq : 0 ≤ q ∧ q ≤ 5
    · have HQ := Lib.hid hq
      have HCO : Hid (celCode p ds ms ls 0 0 q = 0) := Lib.hid (lv_ok HF.out hq)
      have hq0 := hq.1
      have hl6 := HF.out.1.1.len1
      clear hq
      have HOWN0 := Lib.hid (World.ownsRow_made (base := w1.heap.size) (e := 2) (size := 1) w1 #[] 0 (Nat.le_refl _) (by unfold maxLen; omega) (by simp))
      go_wp2_with fail
      refine (spin_yes HQ.out _).mono ?_
      rintro e w' ⟨rfl, rfl⟩
      go_wp2
      go_loopw [6, 7] (fun ov i wr => ∃ (k : Nat) (X : List Int), k ≤ ds.length ∧ i = .int .i64 k ∧ X.length = k ∧ Hid (Below w1.heap.size w1 wr) ∧ Hid (Gb w1.heap.size wr ov X) ∧ Hid (∀ i (h : i < X.length), RkBet p ds ms ls i q q X[i])) (fun _ i _ => ds.length - (intOf i).toNat)
      case atStart => exact ⟨0, [], Nat.zero_le _, rfl, rfl, Lib.hid ((Below.refl _ _).alloc (Nat.le_refl _) _), Lib.hid (by simpa [Gb] using HOWN0.out), Lib.hid (fun i h => absurd h (Nat.not_lt_zero _))⟩
      case round =>
        clear HOWN0
        obtain ⟨k, X, hk, rfl, hXl, HB, HO, HN⟩ := hrel
        obtain ⟨wx, hwx⟩ : ∃ wx : World, wx = wr := ⟨_, rfl⟩
        subst hwx
        have HX := Lib.hid (HX1.out.next HB.out)
        have c0 := HX.out.c0
        have c1 := HX.out.c1
        have c2 := HX.out.c2
        have c3 := HX.out.c3
        by_cases hlt : k < ds.length
        · have HC := Lib.hid (l09Between_any p k q q _ _ _ ds ms ls wx HX.out.fi HF.out hlt hq0)
          go_wp2_with fail
          refine HC.out.mono ?_
          rintro e w3 ⟨x, rfl, hb3, hx⟩
          have hs3 : w1.heap.size ≤ w3.heap.size := by have := HB.out.size; have := hb3.size; omega
          have HB3 := Lib.hid ((HB.out.trans (hb3.mono HB.out.size)).alloc hs3 (.cells #[.int .i64 x] 2))
          have hba : Below w3.heap.size w3 (w3.alloc (.cells #[.int .i64 x] 2)) := below_alloc1 _ _
          have HO3 := Lib.hid ((HO.out.below hb3).below hba)
          have HNX := Lib.hid hx
          have HL1 : Hid (L1 0 (w3.alloc (.cells #[.int .i64 x] 2)) (.slice (some ⟨w3.heap.size, 0, none⟩) 1 1) [x]) := Lib.hid (Or.inr ⟨w3.heap.size, 0, 1, rfl, Nat.zero_le _, by simp, fun j hj => by
            have hj0 : j = 0 := by simpa using hj
            subst hj0
            exact ⟨_, cell_alloc1 w3 _ _, rfl⟩⟩)
          have HN4 : Hid (∀ i (h : i < (X ++ [x]).length), RkBet p ds ms ls i q q (X ++ [x])[i]) := Lib.hid (fun i hi => by
            by_cases e : i < X.length
            · rw [List.getElem_append_left e]; exact HN.out i e
            · have e2 : i = k := by simp at hi; omega
              rw [List.getElem_append_right (by omega)]
              subst e2
              simp only [hXl, Nat.sub_self, List.getElem_cons_zero]
              exact HNX.out)
          clear hb3 hx hba HC c0 c1 c2 c3
          go_wp2_with (at_builtin; refine wpList_appendN rfl (some 32) rfl (.tmp 25) (.tmp 31) rfl w1.heap.size _ _ X [x] rfl rfl HO3.out HL1.out ?c1 ?c2 ?_)
          case c1 => simp; omega
          case c2 => simp; omega
          intro v4 W4 hg4 hgr4
          have HB4 := Lib.hid (HB3.out.grown hgr4 (by simp; omega) (fun g hg => ((World.ownsRow.lt HO3.out) g hg).1))
          have HG4 := Lib.hid hg4
          clear hg4 hgr4
          go_wp2
          go_roundw
          case rel => exact ⟨k + 1, X ++ [x], by omega, by go_num, by simp [hXl], HB4, HG4, HN4⟩
          case measure => simp [intOf]; omega
        · go_wp2
          go_ret2
          exact ⟨_, X, 0, rfl, HO.out.l1, HX.out.below, by rw [HCO.out]; exact RsOut.of_yes rfl ⟨by omega, HN.out⟩⟩
    · have HQ := Lib.hid hq
      clear hq
      go_wp2_with fail
      refine (spin_no HQ.out _).mono ?_
      rintro e w' ⟨rfl, rfl⟩
      go_wp2
      go_ret2
      refine ⟨_, [], 2, rfl, (lv_none 0 0 _).l1, HX1.out.below, ?_⟩
      have e := celCode_out (r := 0) (n := 0) (q := q) HF.out (fun hh => HQ.out hh.2.2)
      rw [e]
      exact RsOut.of_no (by decide)
end Go.Proofs.Ytchijefibiaphaa
