/-
  HomologyNumbers: both sides by their contracts.
-/
import Derived.Test.YthfcadgbipnemaaNum
namespace Go.Proofs.Ythfcadgbipnemaa
open Go.RowKit

/-- What HomologyNumbers answers. -/
structure HnsOut (p : Int) (ds : List Int) (ms : List (List (List Int))) (out : List Int) (c : Int) : Prop where
  bad : ¬ IsCx p ds ms → out = [] ∧ c = 1
  good : IsCx p ds ms → c = 0 ∧ out.length = ds.length ∧ ∀ i (h : i < out.length), HNum p ds ms i out[i]
theorem HnsOut.unique {p : Int} {ds : List Int} {ms : List (List (List Int))} {o1 o2 : List Int} {c1 c2 : Int} (h : HnsOut p ds ms o1 c1) (k : HnsOut p ds ms o2 c2) : o1 = o2 ∧ c1 = c2 := by
  by_cases a : IsCx p ds ms
  · obtain ⟨h1, h2, h3⟩ := h.good a
    obtain ⟨k1, k2, k3⟩ := k.good a
    exact ⟨List.ext_getElem (h2.trans k2.symm) (fun i hi1 hi2 => (h3 i hi1).unique a.1.prime.lo1 (k3 i hi2)), h1.trans k1.symm⟩
  · obtain ⟨h1, h2⟩ := h.bad a
    obtain ⟨k1, k2⟩ := k.bad a
    exact ⟨h1.trans k1.symm, h2.trans k2.symm⟩
theorem HnsOut.short {p : Int} {ds : List Int} {ms : List (List (List Int))} {o : List Int} {c : Int} (h : HnsOut p ds ms o c) : o.length ≤ 1048576 := by
  by_cases a : IsCx p ds ms
  · have := (h.good a).2.1
    have := a.1.len1
    omega
  · rw [(h.bad a).1]
    simp
def HnsW (p : Int) (ds : List Int) (ms : List (List (List Int))) (w : World) (e : Ending) (w' : World) : Prop :=
  ∃ (u : Value) (out : List Int) (c : Int), e = .returned (.tuple #[u, .int .i64 c]) ∧ W1 w.heap.size w'.heap.size w' u out ∧ Below w.heap.size w w' ∧ HnsOut p ds ms out c
def HnsL (p : Int) (ds : List Int) (ms : List (List (List Int))) (w : World) (e : Ending) (w' : World) : Prop :=
  ∃ (u : Value) (out : List Int) (c : Int), e = .returned (.tuple #[u, .int .i64 c]) ∧ L1 0 w' u out ∧ Below w.heap.size w w' ∧ HnsOut p ds ms out c
theorem w1_none (lo hi : Nat) (w : World) : W1 lo hi w (.slice none 0 0) [] := Or.inl ⟨rfl, _, _, rfl⟩
theorem w1_row {W : World} {g n lo hi : Nat} {X : Nat → Int} (h : W.rowIs g 2 n (fun i => .int .i64 (X i))) (hlo : lo ≤ g) (hhi : g < hi) (hn : 0 < n) : W1 lo hi W (.slice (some ⟨g, 0, none⟩) n n) ((List.range n).map X) :=
  Or.inr ⟨g, 0, n, by simp, hlo, hhi, by simpa using hn, fun i hi2 => ⟨_, by rw [Nat.zero_add]; exact h.cell (by simpa using hi2), by simp [IsI]⟩, fun i _ => h.frozen _⟩

/-- The homology numbers of all degrees, in a row of their own. -/
def HnsRow (p : Int) (ds : List Int) (ms : List (List (List Int))) (w : World) (e : Ending) (w' : World) : Prop :=
  ∃ (g : Nat) (X : Nat → Int), e = .returned (.slice (some ⟨g, 0, none⟩) ds.length ds.length) ∧ w.heap.size ≤ g ∧ w'.rowIs g 2 ds.length (fun i => .int .i64 (X i)) ∧ Below w.heap.size w w' ∧ ∀ i, i < ds.length → HNum p ds ms i (X i)

set_option maxHeartbeats 3200000 in
set_option maxRecDepth 100000 in
theorem homologyNumbersRow_any (p : Int) (dv mv : Value) (ds : List Int) (ms : List (List (List Int))) (w : World) (h : Cx 0 w dv mv ds ms) (hcx : IsCx p ds ms) :
    Calls Try.prog 102 #[.agg #[.int .i64 p, dv, mv]] w (HnsRow p ds ms w) := by
  have HX1 := Lib.hid (Bx.start (p := p) 30 h)
  obtain ⟨ad, cap, rfl⟩ := Sl.shape h.dims
  obtain ⟨am, capm, rfl⟩ := Sl.shape h.maps
  have HCX := Lib.hid hcx
  have hlen := hcx.1.len1
  obtain ⟨w1, hw1⟩ : ∃ w1 : World, w1 = w.alloc (.cells #[.int .i64 p, .slice ad ds.length cap, .slice am ms.length capm] 30) := ⟨_, rfl⟩
  rw [← hw1] at HX1
  have hmk := run_make_row' (P := Try.prog) 22 2 (.int .i64 0) 8 Try.underlying22 Try.infoI rfl .i64 .i64 ds.length (by omega) (by omega)
  have c0 := HX1.out.c0
  have c1 := HX1.out.c1
  have c2 := HX1.out.c2
  have hs1 : w.heap.size ≤ w1.heap.size := HX1.out.below.size
  have HB2 := Lib.hid (below_alloc1 w1 (.cells (madeCells #[.int .i64 0] ds.length) 2))
  have HROW0 := Lib.hid (World.rowIs_made w1 (.int .i64 0) ds.length 2)
  clear h hcx
  go_enter Try.func102, Try.ntmps102
  go_upto_region 1 with fail
  rw [← hw1]
  clear hw1
  go_wp2
  clear hmk c0 c1 c2
  go_loopw [4, 11] (fun _ i wr => ∃ (k : Nat) (X : Nat → Int), k ≤ ds.length ∧ i = .int .i64 k ∧ Hid (Below w1.heap.size w1 wr) ∧ Hid (wr.rowIs w1.heap.size 2 ds.length (fun i => .int .i64 (X i))) ∧ Hid (∀ i, i < k → HNum p ds ms i (X i))) (fun _ i _ => ds.length - (intOf i).toNat)
  case atStart => exact ⟨0, fun _ => 0, Nat.zero_le _, rfl, HB2, HROW0, Lib.hid (fun i h => absurd h (Nat.not_lt_zero _))⟩
  case round =>
    clear HB2 HROW0
    obtain ⟨k, X, hk, rfl, HB, HROW, HN⟩ := hrel
    obtain ⟨wx, hwx⟩ : ∃ wx : World, wx = wr := ⟨_, rfl⟩
    subst hwx
    have HX := Lib.hid (HX1.out.next HB.out)
    by_cases hlt : k < ds.length
    · have c0 := HX.out.c0
      have c1 := HX.out.c1
      have c2 := HX.out.c2
      have HC := Lib.hid (homologyNumber_any p k _ _ ds ms wx HX.out.cx HCX.out hlt)
      go_wp2_with fail
      refine HC.out.mono ?_
      rintro e w3 ⟨x, rfl, hb3, hx⟩
      have HB3 := Lib.hid (HB.out.trans (hb3.mono HB.out.size))
      have HR3 := Lib.hid (rowIs_below HROW.out hb3)
      have HNX := Lib.hid hx
      have hcell := HR3.out.cell hlt
      have hfz := HR3.out.frozen k
      have HR4 := Lib.hid ((HR3.out.set k (.int .i64 x)).congr (g := fun i => .int .i64 (if i = k then x else X i)) (fun i _ => by
        by_cases e : i = k
        · simp [e]
        · simp [e]))
      have HX4 : Hid (Below w1.heap.size w1 (w3.setCell ⟨w1.heap.size, k, none⟩ (.int .i64 x))) := Lib.hid (HB3.out.setCell (Nat.le_refl _) _)
      have HN4 : Hid (∀ i, i < k + 1 → HNum p ds ms i (if i = k then x else X i)) := Lib.hid (fun i hi => by
        by_cases e : i = k
        · subst e; rw [if_pos rfl]; exact HNX.out
        · rw [if_neg e]; exact HN.out i (by omega))
      clear hb3 hx HC c0 c1 c2 HR3
      go_wp2
      go_roundw
      case rel => exact ⟨k + 1, _, by omega, by go_num, HX4, HR4, HN4⟩
      case measure => simp [intOf]; omega
    · have hkk : Hid (k = ds.length) := Lib.hid (by omega)
      go_wp2
      go_ret
      exact ⟨_, X, rfl, hs1, HROW.out, HX.out.below, fun i hi => HN.out i (by have := hkk.out; omega)⟩

set_option maxHeartbeats 3200000 in
set_option maxRecDepth 100000 in
theorem homologyNumbers_any (p : Int) (dv mv : Value) (ds : List Int) (ms : List (List (List Int))) (w : World) (h : Cx 0 w dv mv ds ms) (hd : ds.length ≤ 1048576) (hm : Bd3 1048576 ms) :
    Calls Try.prog 51 #[.agg #[.int .i64 p, dv, mv]] w (HnsW p ds ms w) := by
  have HX0 := Lib.hid (Bx.start (p := p) 30 h)
  have HIS := Lib.hid (isComplex_any p dv mv ds ms _ HX0.out.cx hd hm)
  obtain ⟨ad, cap, rfl⟩ := Sl.shape h.dims
  obtain ⟨am, capm, rfl⟩ := Sl.shape h.maps
  have c0 := HX0.out.c0
  have c1 := HX0.out.c1
  have c2 := HX0.out.c2
  clear h hm
  go_enter Try.func51, Try.ntmps51
  go_wp2_with fail
  refine HIS.out.mono ?_
  rintro e w1 ⟨bb, rfl, hb1, hbb⟩
  have HX1 := Lib.hid (HX0.out.next hb1)
  have HBB := Lib.hid hbb
  clear hb1 hbb c0 c1 c2 HIS
  have c0 := HX1.out.c0
  have c1 := HX1.out.c1
  have c2 := HX1.out.c2
  cases bb with
  | false =>
    have HNO : Hid (¬ IsCx p ds ms) := Lib.hid (fun hh => absurd (HBB.out.2 hh) (by simp))
    go_wp2
    go_ret2
    exact ⟨_, [], 1, rfl, w1_none _ _ _, HX1.out.below, fun _ => ⟨rfl, rfl⟩, fun hh => absurd hh HNO.out⟩
  | true =>
    have HCX : Hid (IsCx p ds ms) := Lib.hid (HBB.out.1 (by simp))
    have hlen := HCX.out.1.len0
    have HR := Lib.hid (homologyNumbersRow_any p _ _ ds ms w1 HX1.out.cx HCX.out)
    have hs1 : w.heap.size ≤ w1.heap.size := HX1.out.below.size
    go_wp2_with fail
    refine HR.out.mono ?_
    rintro e w2 ⟨g, X, rfl, hg, hrow, hb2, hn⟩
    have HX2 := Lib.hid (HX1.out.next hb2)
    have HROW := Lib.hid hrow
    have HN := Lib.hid hn
    have hgl := hrow.lt
    clear c0 c1 c2 HR hb2 hrow hn
    go_wp2
    go_ret2
    refine ⟨_, (List.range ds.length).map X, 0, rfl, w1_row HROW.out (by omega) hgl (by omega), HX2.out.below, fun hh => absurd HCX.out hh, fun _ => ⟨rfl, by simp, fun i hi => ?_⟩⟩
    have hi' : i < ds.length := by simpa using hi
    simpa using HN.out i hi'

set_option maxHeartbeats 3200000 in
set_option maxRecDepth 100000 in
theorem spHomologyNumbers_any (p : Int) (dv mv : Value) (ds : List Int) (ms : List (List (List Int))) (w : World) (h : Cx 0 w dv mv ds ms) (hd : ds.length ≤ 1048576) (hm : Bd3 1048576 ms) :
    Calls Try.prog 50 #[.agg #[.int .i64 p, dv, mv]] w (HnsL p ds ms w) := by
  have HX0 := Lib.hid (Bx.start (p := p) 30 h)
  have HIS := Lib.hid (l01Is_any p dv mv ds ms _ HX0.out.cx hd hm)
  obtain ⟨ad, cap, rfl⟩ := Sl.shape h.dims
  obtain ⟨am, capm, rfl⟩ := Sl.shape h.maps
  have c0 := HX0.out.c0
  have c1 := HX0.out.c1
  have c2 := HX0.out.c2
  clear h hm
  go_enter Try.func50, Try.ntmps50
  go_wp2_with fail
  refine HIS.out.mono ?_
  rintro e w1 ⟨bb, rfl, hb1, hbb⟩
  have HX1 := Lib.hid (HX0.out.next hb1)
  have HBB := Lib.hid hbb
  clear hb1 hbb c0 c1 c2 HIS
  have c0 := HX1.out.c0
  have c1 := HX1.out.c1
  have c2 := HX1.out.c2
  cases bb with
  | false =>
    have HNO : Hid (¬ IsCx p ds ms) := Lib.hid (fun hh => absurd (HBB.out.2 hh) (by simp))
    go_wp2
    go_ret2
    exact ⟨_, [], 1, rfl, (w1_none 0 0 _).l1, HX1.out.below, fun _ => ⟨rfl, rfl⟩, fun hh => absurd hh HNO.out⟩
  | true =>
    have HCX : Hid (IsCx p ds ms) := Lib.hid (HBB.out.1 (by simp))
    have HOWN0 := Lib.hid (World.ownsRow_made (base := w1.heap.size) (e := 2) (size := 1) w1 #[] 0 (Nat.le_refl _) (by unfold maxLen; omega) (by simp))
    go_wp2
    clear c0 c1 c2
    go_loopw [4, 5] (fun ov i wr => ∃ (k : Nat) (X : List Int), k ≤ ds.length ∧ i = .int .i64 k ∧ X.length = k ∧ Hid (Below w1.heap.size w1 wr) ∧ Hid (Gb w1.heap.size wr ov X) ∧ Hid (∀ i (h : i < X.length), HNum p ds ms i X[i])) (fun _ i _ => ds.length - (intOf i).toNat)
    case atStart => exact ⟨0, [], Nat.zero_le _, rfl, rfl, Lib.hid ((Below.refl _ _).alloc (Nat.le_refl _) _), Lib.hid (by simpa [Gb] using HOWN0.out), Lib.hid (fun i h => absurd h (Nat.not_lt_zero _))⟩
    case round =>
      clear HOWN0
      obtain ⟨k, X, hk, rfl, hXl, HB, HO, HN⟩ := hrel
      obtain ⟨wx, hwx⟩ : ∃ wx : World, wx = wr := ⟨_, rfl⟩
      subst hwx
      have HX := Lib.hid (HX1.out.next HB.out)
      have c0 := HX.out.c0
      have c1 := HX.out.c1
      have c2 := HX.out.c2
      by_cases hlt : k < ds.length
      · have HC := Lib.hid (l01Homology_any p k _ _ ds ms wx HX.out.cx HCX.out hlt)
        go_wp2_with fail
        refine HC.out.mono ?_
        rintro e w3 ⟨x, rfl, hb3, hx⟩
        have hs3 : w1.heap.size ≤ w3.heap.size := by have := HB.out.size; have := hb3.size; omega
        have HB3 := Lib.hid ((HB.out.trans (hb3.mono HB.out.size)).alloc hs3 (.cells #[.int .i64 x] 2))
        have hba : Below w3.heap.size w3 (w3.alloc (.cells #[.int .i64 x] 2)) := below_alloc1 _ _
        have HO3 := Lib.hid ((HO.out.below hb3).below hba)
        have HNX := Lib.hid hx
        have HL1 : Hid (L1 0 (w3.alloc (.cells #[.int .i64 x] 2)) (.slice (some ⟨w3.heap.size, 0, none⟩) 1 1) [x]) := Lib.hid (Or.inr ⟨w3.heap.size, 0, 1, rfl, Nat.zero_le _, by simp, fun j hj => by
          have hj0 : j = 0 := by simpa using hj
          subst hj0
          exact ⟨_, cell_alloc1 w3 _ _, rfl⟩⟩)
        have HN4 : Hid (∀ i (h : i < (X ++ [x]).length), HNum p ds ms i (X ++ [x])[i]) := Lib.hid (fun i hi => by
          by_cases e : i < X.length
          · rw [List.getElem_append_left e]; exact HN.out i e
          · have e2 : i = k := by simp at hi; omega
            rw [List.getElem_append_right (by omega)]
            subst e2
            simp only [hXl, Nat.sub_self, List.getElem_cons_zero]
            exact HNX.out)
        clear hb3 hx hba HC c0 c1 c2
        go_wp2_with (at_builtin; refine wpList_appendN rfl (some 22) rfl (.tmp 17) (.tmp 21) rfl w1.heap.size _ _ X [x] rfl rfl HO3.out HL1.out ?c1 ?c2 ?_)
        case c1 => simp; omega
        case c2 => simp; omega
        intro v4 W4 hg4 hgr4
        have HB4 := Lib.hid (HB3.out.grown hgr4 (by simp; omega) (fun g hg => ((World.ownsRow.lt HO3.out) g hg).1))
        have HG4 := Lib.hid hg4
        clear hg4 hgr4
        go_wp2
        go_roundw
        case rel => exact ⟨k + 1, X ++ [x], by omega, by go_num, by simp [hXl], HB4, HG4, HN4⟩
        case measure => simp [intOf]; omega
      · go_wp2
        go_ret2
        exact ⟨_, X, 0, rfl, HO.out.l1, HX.out.below, fun hh => absurd HCX.out hh, fun _ => ⟨rfl, by omega, HN.out⟩⟩
end Go.Proofs.Ythfcadgbipnemaa
