/-
  LongestBar of both sides by contract.
-/
import Derived.Test.YtchijefibiaphaaBrv
import Derived.Test.YtchijefibiaphaaDual
import Derived.Deep.RegionHeld
namespace Go.Proofs.Ytchijefibiaphaa
open Go.RowKit Go.Sort

/-- One step of the search for the longest bar that ends. -/
def lstep (s : Int × B3) (x : B3) : Int × B3 := if x.2.2 = -1 then s else if s.1 < x.2.2 - x.2.1 then (x.2.2 - x.2.1, x) else s
def lbs (L : List B3) : Int × B3 := L.foldl lstep (-1, (0, 0, 0))
theorem lbs_snoc (L : List B3) (x : B3) : lbs (L ++ [x]) = lstep (lbs L) x := by simp [lbs, List.foldl_append]
/-- What is said of the longest bar. -/
def LbC (xs : List B3) (x : B3) (c : Int) : Prop := (BarsOk xs → (0 ≤ (lbs xs).1 → x = (lbs xs).2 ∧ c = 0) ∧ ((lbs xs).1 < 0 → x = (0, 0, 0) ∧ c = 4)) ∧ (¬ BarsOk xs → x = (0, 0, 0) ∧ c = 2)
theorem LbC.unique {xs : List B3} {b b2 : B3} {c c2 : Int} (h : LbC xs b c) (k : LbC xs b2 c2) : b = b2 ∧ c = c2 := by
  by_cases hp : BarsOk xs
  · by_cases h0 : 0 ≤ (lbs xs).1
    · obtain ⟨h1, h2⟩ := (h.1 hp).1 h0
      obtain ⟨k1, k2⟩ := (k.1 hp).1 h0
      exact ⟨h1.trans k1.symm, h2.trans k2.symm⟩
    · obtain ⟨h1, h2⟩ := (h.1 hp).2 (by omega)
      obtain ⟨k1, k2⟩ := (k.1 hp).2 (by omega)
      exact ⟨h1.trans k1.symm, h2.trans k2.symm⟩
  · obtain ⟨h1, h2⟩ := h.2 hp
    obtain ⟨k1, k2⟩ := k.2 hp
    exact ⟨h1.trans k1.symm, h2.trans k2.symm⟩
def VrBr (P : B3 → Int → Prop) (w : World) (e : Ending) (w' : World) : Prop := ∃ x c, e = .returned (.tuple #[bvl x, .int .i64 c]) ∧ Below w.heap.size w w' ∧ P x c

/-- The box of the longest bar found so far. -/
structure Lg (w2 wr : World) (g : Nat) (x : B3) : Prop where
  below : Below w2.heap.size w2 wr
  lo : w2.heap.size ≤ g
  box : wr.rowIs g 53 3 (sel3 (.int .i64 x.1) (.int .i64 x.2.1) (.int .i64 x.2.2))
theorem Lg.next {w2 wr w' : World} {g : Nat} {x : B3} (h : Lg w2 wr g x) (hb : Below wr.heap.size wr w') : Lg w2 w' g x :=
  ⟨h.below.trans (hb.mono h.below.size), h.lo, h.box.of_block (hb.block _ h.box.lt)⟩
theorem row_put3 {W : World} {g : Nat} {f : Nat → Value} (h : W.rowIs g 53 3 f) (a b d : Value) : (((W.setCell ⟨g, 0, none⟩ a).setCell ⟨g, 1, none⟩ b).setCell ⟨g, 2, none⟩ d).rowIs g 53 3 (sel3 a b d) := by
  refine (((h.set 0 a).set 1 b).set 2 d).congr fun i hi => ?_
  match i, hi with
  | 0, _ => rfl
  | 1, _ => rfl
  | 2, _ => rfl
theorem Lg.put {w2 wr : World} {g : Nat} {x : B3} (h : Lg w2 wr g x) (a b d : Int) : Lg w2 (((wr.setCell ⟨g, 0, none⟩ (.int .i64 a)).setCell ⟨g, 1, none⟩ (.int .i64 b)).setCell ⟨g, 2, none⟩ (.int .i64 d)) g (a, b, d) :=
  ⟨((h.below.setCell h.lo _).setCell h.lo _).setCell h.lo _, h.lo, row_put3 h.box _ _ _⟩
set_option maxHeartbeats 6400000 in
set_option maxRecDepth 100000 in
theorem longestBar_any (v : Value) (xs : List B3) (w : World) (h : Br 0 w v xs) (hl : xs.length ≤ 1048576) : Calls Try.prog 39 #[v] w (VrBr (LbC xs) w) := by
  have hres : Try.f39.results = #[.cell 2 53, .tmp 3] := by kernel_rfl
  have HRES := Lib.hid hres
  obtain ⟨av, cv, rfl⟩ := h.shape
  obtain ⟨w1, hw1⟩ : ∃ w1 : World, w1 = w.alloc (.cells #[.int .i64 0, .int .i64 0, .int .i64 0] 53) := ⟨_, rfl⟩
  have hb1 : Below w.heap.size w w1 := by rw [hw1]; exact below_alloc1 _ _
  have HR1 : Hid (Rz w1 w.heap.size 53 #[.int .i64 0, .int .i64 0, .int .i64 0]) := Lib.hid (by rw [hw1]; exact Rz.new _ _ _)
  have H1 := Lib.hid (h.below hb1)
  have HB1 := Lib.hid hb1
  have HA0 := Lib.hid (areBars_any _ xs w1 H1.out hl)
  clear h hb1 hres
  go_enter Try.func39, Try.ntmps39
  go_upto_region 1 with fail
  rw [← hw1]
  clear hw1
  go_wp2_with fail
  refine HA0.out.mono ?_
  rintro e w2 ⟨bb, rfl, hg2, hbb⟩
  have HB2 := Lib.hid (HB1.out.trans (hg2.below.mono HB1.out.size))
  have HR2 := Lib.hid (HR1.out.next hg2.below)
  have H2 := Lib.hid (H1.out.below hg2.below)
  have HBB := Lib.hid hbb
  clear hg2 hbb HA0 H1 HR1 HB1
  cases bb with
  | false =>
    have HNO : Hid (¬ BarsOk xs) := Lib.hid (fun h => absurd (HBB.out.2 h) (by simp))
    clear HBB
    have hr : w2.heap[w.heap.size]? = some (.cells #[.int .i64 0, .int .i64 0, .int .i64 0] 53) := HR2.out
    have rr := rowIs3 hr
    clear hr
    have sq0 := rr.cell (i := 0) (by omega)
    have sz0 := rr.frozen 0
    have sr1 := rr.set 0 (.int .i64 0)
    have sq1 := sr1.cell (i := 1) (by omega)
    have sz1 := sr1.frozen 1
    have sr2 := sr1.set 1 (.int .i64 0)
    have sq2 := sr2.cell (i := 2) (by omega)
    have sz2 := sr2.frozen 2
    clear sr1 sr2
    obtain ⟨WF, hWF⟩ : ∃ WF : World, WF = (((w2.setCell ⟨w.heap.size, 0, none⟩ (.int .i64 0)).setCell ⟨w.heap.size, 1, none⟩ (.int .i64 0)).setCell ⟨w.heap.size, 2, none⟩ (.int .i64 0)) := ⟨_, rfl⟩
    have r3 := row_put3 rr (.int .i64 0) (.int .i64 0) (.int .i64 0)
    rw [← hWF] at r3
    have f0 : WF.cell? ⟨w.heap.size, 0, none⟩ = some (.int .i64 0) := r3.cell (i := 0) (by omega)
    have f1 : WF.cell? ⟨w.heap.size, 1, none⟩ = some (.int .i64 0) := r3.cell (i := 1) (by omega)
    have f2 : WF.cell? ⟨w.heap.size, 2, none⟩ = some (.int .i64 0) := r3.cell (i := 2) (by omega)
    have HBF : Hid (Below w.heap.size w WF) := Lib.hid (by rw [hWF]; exact ((HB2.out.setCell (Nat.le_refl _) _).setCell (Nat.le_refl _) _).setCell (Nat.le_refl _) _)
    have HWF := Lib.hid hWF
    clear r3 hWF
    go_wp2
    rw [← HWF.out]
    refine bodyPost_ret (v := .tuple #[.agg #[.int .i64 0, .int .i64 0, .int .i64 0], .int .i64 2]) ?_ rfl ?_
    · simp only [results, HRES.out]
      go_simp
    · exact ⟨(0, 0, 0), 2, rfl, HBF.out, ⟨fun h => absurd h HNO.out, fun _ => ⟨rfl, rfl⟩⟩⟩
  | true =>
    have HOK : Hid (BarsOk xs) := Lib.hid (HBB.out.1 rfl)
    have h24 : xs.length ≤ 24 := HOK.out.1
    clear HBB
    obtain ⟨w3, hw3⟩ : ∃ w3 : World, w3 = w2.alloc (.cells #[.int .i64 0, .int .i64 0, .int .i64 0] 53) := ⟨_, rfl⟩
    have HL3 : Hid (Lg w2 w3 w2.heap.size (0, 0, 0)) := Lib.hid (by rw [hw3]; exact ⟨below_alloc1 _ _, Nat.le_refl _, rowIs3 (heap_alloc_new _ _)⟩)
    obtain ⟨g, hg⟩ : ∃ g, g = w2.heap.size := ⟨_, rfl⟩
    rw [← hg] at HL3
    go_upto_region 4 with fail
    rw [← hw3]
    rw [← hg]
    clear hw3 hg
    go_wp2
    go_loopw [5, 17] (fun c i wr => ∃ (k : Nat) (s : Int) (b : B3), k ≤ xs.length ∧ i = .int .i64 k ∧ c = .int .i64 s ∧ -1 ≤ s ∧ s ≤ 5 ∧ Hid ((s, b) = lbs (xs.take k)) ∧ Hid (Lg w2 wr g b)) (fun _ i _ => xs.length - (intOf i).toNat)
    case atStart => exact ⟨0, -1, (0, 0, 0), Nat.zero_le _, rfl, rfl, by omega, by omega, Lib.hid (by simp [lbs]), HL3⟩
    case round =>
      clear HL3
      obtain ⟨k, s, bx, hk, rfl, rfl, hs0, hs1, HM, HL⟩ := hrel
      obtain ⟨wx, hwx⟩ : ∃ wx : World, wx = wr := ⟨_, rfl⟩
      subst hwx
      by_cases hlt : k < xs.length
      · have hkl : (k : Int) < (xs.length : Int) := by omega
        obtain ⟨bv, ov, hav, _, _, _, p0, p1, p2⟩ := H2.out.at' (k := k) hlt
        subst hav
        obtain ⟨x, hx⟩ : ∃ x, x = xs[k] := ⟨_, rfl⟩
        rw [← hx] at p0 p1 p2
        have q0 := later HL.out.below (Nat.le_refl _) p0
        have q1 := later HL.out.below (Nat.le_refl _) p1
        have q2 := later HL.out.below (Nat.le_refl _) p2
        have HTK : Hid (xs.take (k + 1) = xs.take k ++ [x]) := Lib.hid (by rw [take_snoc hlt, hx])
        have HXO : Hid (BarOk x) := Lib.hid (by rw [hx]; exact HOK.out.2.1 k hlt)
        clear p0 p1 p2 hx
        obtain ⟨a, b, d⟩ := x
        dsimp only at q0 q1 q2
        obtain ⟨wb, hwb⟩ : ∃ wb : World, wb = wx.alloc (.cells #[.int .i64 a, .int .i64 b, .int .i64 d] 53) := ⟨_, rfl⟩
        have HLB : Hid (Lg w2 wb g bx) := Lib.hid (by rw [hwb]; exact HL.out.next (below_alloc1 _ _))
        have t0 : wb.cell? ⟨wx.heap.size, 0, none⟩ = some (.int .i64 a) := by rw [hwb]; simp
        have t1 : wb.cell? ⟨wx.heap.size, 1, none⟩ = some (.int .i64 b) := by rw [hwb]; simp
        have t2 : wb.cell? ⟨wx.heap.size, 2, none⟩ = some (.int .i64 d) := by rw [hwb]; simp
        have hgx : g < wx.heap.size := HL.out.box.lt
        have hgn : g ≠ wx.heap.size := by omega
        have T0 := Lib.hid t0
        have T1 := Lib.hid t1
        have T2 := Lib.hid t2
        have HK := Lib.hid (kindOf_any (a, b, d) wb)
        go_upto_region 7 with fail
        rw [← hwb]
        clear hwb q0 q1 q2
        by_cases hd : d = -1
        · subst hd
          rw [kv_lasts rfl] at HK
          have hxo := HXO.out
          unfold BarOk at hxo
          dsimp only at hxo
          have HO := Lib.hid (fun w => lengthL_any (a, b, (-1)) w)
          unfold bvl at *
          dsimp only at *
          have hm : ∀ w : World, (method (Try.prog.types.size + Made.depth) 128 (.agg #[.int .i64 a, .int .i64 b, .int .i64 (-1)]) "loop.example/g01273/impl.length").run Try.prog w = .ok (206, .agg #[.int .i64 a, .int .i64 b, .int .i64 (-1)]) w := fun _ => by kernel_rfl
          go_wp2_with fail
          refine HK.out.mono ?_
          rintro e w4 ⟨rfl, hg3⟩
          have HB3 := Lib.hid hg3.below
          clear hg3 HK hxo t0 t1 t2
          go_wp2_with fail
          refine (HO.out _).mono ?_
          rintro e w5 ⟨rfl, hg4⟩
          have HB5 := Lib.hid (HB3.out.trans (hg4.below.mono HB3.out.size))
          have HL5 := Lib.hid (HLB.out.next HB5.out)
          have t0 := later HB5.out (Nat.le_refl _) T0.out
          have t1 := later HB5.out (Nat.le_refl _) T1.out
          have t2 := later HB5.out (Nat.le_refl _) T2.out
          clear hg4 HO hm
          have HST : Hid (lstep (s, bx) (a, b, -1) = (s, bx)) := Lib.hid (if_pos rfl)
          go_wp2
          go_roundw
          case rel => exact ⟨k + 1, s, bx, by omega, by go_num, rfl, hs0, hs1, Lib.hid (by rw [HTK.out, lbs_snoc, ← HM.out]; exact HST.out.symm), HL5⟩
          case measure => simp [intOf]; omega
        · have hdk := Lib.hid hd
          rw [kv_ends hd] at HK
          have hxo := HXO.out
          unfold BarOk at hxo
          dsimp only at hxo
          have HO := Lib.hid (fun w => lengthE_any (a, b, d) w (by dsimp only; omega) (by dsimp only; omega))
          obtain ⟨l, hle⟩ : ∃ l, l = d - b := ⟨_, rfl⟩
          have hln : 0 ≤ l ∧ l ≤ 5 := by omega
          dsimp only at HO
          rw [← hle] at HO
          unfold bvl at *
          dsimp only at *
          have hm : ∀ w : World, (method (Try.prog.types.size + Made.depth) 129 (.agg #[.int .i64 a, .int .i64 b, .int .i64 d]) "loop.example/g01273/impl.length").run Try.prog w = .ok (212, .agg #[.int .i64 a, .int .i64 b, .int .i64 d]) w := fun _ => by kernel_rfl
          go_wp2_with fail
          refine HK.out.mono ?_
          rintro e w4 ⟨rfl, hg3⟩
          have HB3 := Lib.hid hg3.below
          clear hg3 HK hxo t0 t1 t2 hd
          go_wp2_with fail
          refine (HO.out _).mono ?_
          rintro e w5 ⟨rfl, hg4⟩
          have HB5 := Lib.hid (HB3.out.trans (hg4.below.mono HB3.out.size))
          have HL5 := Lib.hid (HLB.out.next HB5.out)
          have t0 := later HB5.out (Nat.le_refl _) T0.out
          have t1 := later HB5.out (Nat.le_refl _) T1.out
          have t2 := later HB5.out (Nat.le_refl _) T2.out
          clear hg4 HO hm
          by_cases hgt : s < l
          · have HST : Hid (lstep (s, bx) (a, b, d) = (l, (a, b, d))) := Lib.hid (by unfold lstep; rw [if_neg hdk.out]; dsimp only; rw [← hle, if_pos hgt])
            clear hle
            have rg := HL5.out.box
            have gq0 := rg.cell (i := 0) (by omega)
            have gz0 := rg.frozen 0
            have gr1 := rg.set 0 (.int .i64 a)
            have gq1 := gr1.cell (i := 1) (by omega)
            have gz1 := gr1.frozen 1
            have gr2 := gr1.set 1 (.int .i64 b)
            have gq2 := gr2.cell (i := 2) (by omega)
            have gz2 := gr2.frozen 2
            clear gr1 gr2
            have HLP := Lib.hid (HL5.out.put a b d)
            clear rg
            go_wp2
            go_roundw
            case rel => exact ⟨k + 1, l, (a, b, d), by omega, by go_num, rfl, by omega, by omega, Lib.hid (by rw [HTK.out, lbs_snoc, ← HM.out]; exact HST.out.symm), HLP⟩
            case measure => simp [intOf]; omega
          · have HST : Hid (lstep (s, bx) (a, b, d) = (s, bx)) := Lib.hid (by unfold lstep; rw [if_neg hdk.out]; dsimp only; rw [← hle, if_neg hgt])
            clear hle
            go_wp2
            go_roundw
            case rel => exact ⟨k + 1, s, bx, by omega, by go_num, rfl, hs0, hs1, Lib.hid (by rw [HTK.out, lbs_snoc, ← HM.out]; exact HST.out.symm), HL5⟩
            case measure => simp [intOf]; omega
      · have hkl : ¬ (k : Int) < (xs.length : Int) := by omega
        have HE : Hid ((s, bx) = lbs xs) := Lib.hid (by rw [HM.out, List.take_of_length_le (by omega)])
        have HBX := Lib.hid (HB2.out.trans (HL.out.below.mono HB2.out.size))
        have hr : wx.heap[w.heap.size]? = some (.cells #[.int .i64 0, .int .i64 0, .int .i64 0] 53) := HR2.out.next HL.out.below
        have rr := rowIs3 hr
        clear hr
        by_cases hs : s < 0
        · have HSS := Lib.hid hs
          have sq0 := rr.cell (i := 0) (by omega)
          have sz0 := rr.frozen 0
          have sr1 := rr.set 0 (.int .i64 0)
          have sq1 := sr1.cell (i := 1) (by omega)
          have sz1 := sr1.frozen 1
          have sr2 := sr1.set 1 (.int .i64 0)
          have sq2 := sr2.cell (i := 2) (by omega)
          have sz2 := sr2.frozen 2
          clear sr1 sr2
          obtain ⟨WF, hWF⟩ : ∃ WF : World, WF = (((wx.setCell ⟨w.heap.size, 0, none⟩ (.int .i64 0)).setCell ⟨w.heap.size, 1, none⟩ (.int .i64 0)).setCell ⟨w.heap.size, 2, none⟩ (.int .i64 0)) := ⟨_, rfl⟩
          have r3 := row_put3 rr (.int .i64 0) (.int .i64 0) (.int .i64 0)
          rw [← hWF] at r3
          have f0 : WF.cell? ⟨w.heap.size, 0, none⟩ = some (.int .i64 0) := r3.cell (i := 0) (by omega)
          have f1 : WF.cell? ⟨w.heap.size, 1, none⟩ = some (.int .i64 0) := r3.cell (i := 1) (by omega)
          have f2 : WF.cell? ⟨w.heap.size, 2, none⟩ = some (.int .i64 0) := r3.cell (i := 2) (by omega)
          have HBF : Hid (Below w.heap.size w WF) := Lib.hid (by rw [hWF]; exact ((HBX.out.setCell (Nat.le_refl _) _).setCell (Nat.le_refl _) _).setCell (Nat.le_refl _) _)
          have HWF := Lib.hid hWF
          clear r3 hWF
          go_wp2
          rw [← HWF.out]
          refine bodyPost_ret (v := .tuple #[.agg #[.int .i64 0, .int .i64 0, .int .i64 0], .int .i64 4]) ?_ rfl ?_
          · simp only [results, HRES.out]
            go_simp
          · exact ⟨(0, 0, 0), 4, rfl, HBF.out, ⟨fun _ => ⟨fun h => absurd h (by rw [← HE.out]; have := HSS.out; show ¬ 0 ≤ s; omega), fun _ => ⟨rfl, rfl⟩⟩, fun h => absurd HOK.out h⟩⟩
        · have HSS := Lib.hid hs
          obtain ⟨a, b, d⟩ := bx
          have v0 : wx.cell? ⟨g, 0, none⟩ = some (.int .i64 a) := HL.out.box.cell (i := 0) (by omega)
          have v1 : wx.cell? ⟨g, 1, none⟩ = some (.int .i64 b) := HL.out.box.cell (i := 1) (by omega)
          have v2 : wx.cell? ⟨g, 2, none⟩ = some (.int .i64 d) := HL.out.box.cell (i := 2) (by omega)
          have sq0 := rr.cell (i := 0) (by omega)
          have sz0 := rr.frozen 0
          have sr1 := rr.set 0 (.int .i64 a)
          have sq1 := sr1.cell (i := 1) (by omega)
          have sz1 := sr1.frozen 1
          have sr2 := sr1.set 1 (.int .i64 b)
          have sq2 := sr2.cell (i := 2) (by omega)
          have sz2 := sr2.frozen 2
          clear sr1 sr2
          obtain ⟨WF, hWF⟩ : ∃ WF : World, WF = (((wx.setCell ⟨w.heap.size, 0, none⟩ (.int .i64 a)).setCell ⟨w.heap.size, 1, none⟩ (.int .i64 b)).setCell ⟨w.heap.size, 2, none⟩ (.int .i64 d)) := ⟨_, rfl⟩
          have r3 := row_put3 rr (.int .i64 a) (.int .i64 b) (.int .i64 d)
          rw [← hWF] at r3
          have f0 : WF.cell? ⟨w.heap.size, 0, none⟩ = some (.int .i64 a) := r3.cell (i := 0) (by omega)
          have f1 : WF.cell? ⟨w.heap.size, 1, none⟩ = some (.int .i64 b) := r3.cell (i := 1) (by omega)
          have f2 : WF.cell? ⟨w.heap.size, 2, none⟩ = some (.int .i64 d) := r3.cell (i := 2) (by omega)
          have HBF : Hid (Below w.heap.size w WF) := Lib.hid (by rw [hWF]; exact ((HBX.out.setCell (Nat.le_refl _) _).setCell (Nat.le_refl _) _).setCell (Nat.le_refl _) _)
          have HWF := Lib.hid hWF
          clear r3 hWF
          go_wp2
          rw [← HWF.out]
          refine bodyPost_ret (v := .tuple #[.agg #[.int .i64 a, .int .i64 b, .int .i64 d], .int .i64 0]) ?_ rfl ?_
          · simp only [results, HRES.out]
            go_simp
          · exact ⟨(a, b, d), 0, rfl, HBF.out, ⟨fun _ => ⟨fun _ => ⟨by rw [← HE.out], rfl⟩, fun h => absurd h (by rw [← HE.out]; have := HSS.out; show ¬ s < 0; omega)⟩, fun h => absurd HOK.out h⟩⟩
set_option maxHeartbeats 6400000 in
set_option maxRecDepth 100000 in
theorem spLongestBar_any (v : Value) (xs : List B3) (w : World) (h : Br 0 w v xs) (hl : xs.length ≤ 1048576) : Calls Try.prog 38 #[v] w (VrBr (LbC xs) w) := by
  have hres : Try.f38.results = #[.cell 2 53, .tmp 3] := by kernel_rfl
  have HRES := Lib.hid hres
  obtain ⟨av, cv, rfl⟩ := h.shape
  obtain ⟨w1, hw1⟩ : ∃ w1 : World, w1 = w.alloc (.cells #[.int .i64 0, .int .i64 0, .int .i64 0] 53) := ⟨_, rfl⟩
  have hb1 : Below w.heap.size w w1 := by rw [hw1]; exact below_alloc1 _ _
  have HR1 : Hid (Rz w1 w.heap.size 53 #[.int .i64 0, .int .i64 0, .int .i64 0]) := Lib.hid (by rw [hw1]; exact Rz.new _ _ _)
  have H1 := Lib.hid (h.below hb1)
  have HB1 := Lib.hid hb1
  have HA0 := Lib.hid (l09Are_any _ xs w1 H1.out hl)
  clear h hb1 hres
  go_enter Try.func38, Try.ntmps38
  go_upto_region 1 with fail
  rw [← hw1]
  clear hw1
  go_wp2_with fail
  refine HA0.out.mono ?_
  rintro e w2 ⟨bb, rfl, hg2, hbb⟩
  have HB2 := Lib.hid (HB1.out.trans (hg2.below.mono HB1.out.size))
  have HR2 := Lib.hid (HR1.out.next hg2.below)
  have H2 := Lib.hid (H1.out.below hg2.below)
  have HBB := Lib.hid hbb
  clear hg2 hbb HA0 H1 HR1 HB1
  cases bb with
  | false =>
    have HNO : Hid (¬ BarsOk xs) := Lib.hid (fun h => absurd (HBB.out.2 h) (by simp))
    clear HBB
    have hr : w2.heap[w.heap.size]? = some (.cells #[.int .i64 0, .int .i64 0, .int .i64 0] 53) := HR2.out
    have rr := rowIs3 hr
    clear hr
    have sq0 := rr.cell (i := 0) (by omega)
    have sz0 := rr.frozen 0
    have sr1 := rr.set 0 (.int .i64 0)
    have sq1 := sr1.cell (i := 1) (by omega)
    have sz1 := sr1.frozen 1
    have sr2 := sr1.set 1 (.int .i64 0)
    have sq2 := sr2.cell (i := 2) (by omega)
    have sz2 := sr2.frozen 2
    clear sr1 sr2
    obtain ⟨WF, hWF⟩ : ∃ WF : World, WF = (((w2.setCell ⟨w.heap.size, 0, none⟩ (.int .i64 0)).setCell ⟨w.heap.size, 1, none⟩ (.int .i64 0)).setCell ⟨w.heap.size, 2, none⟩ (.int .i64 0)) := ⟨_, rfl⟩
    have r3 := row_put3 rr (.int .i64 0) (.int .i64 0) (.int .i64 0)
    rw [← hWF] at r3
    have f0 : WF.cell? ⟨w.heap.size, 0, none⟩ = some (.int .i64 0) := r3.cell (i := 0) (by omega)
    have f1 : WF.cell? ⟨w.heap.size, 1, none⟩ = some (.int .i64 0) := r3.cell (i := 1) (by omega)
    have f2 : WF.cell? ⟨w.heap.size, 2, none⟩ = some (.int .i64 0) := r3.cell (i := 2) (by omega)
    have HBF : Hid (Below w.heap.size w WF) := Lib.hid (by rw [hWF]; exact ((HB2.out.setCell (Nat.le_refl _) _).setCell (Nat.le_refl _) _).setCell (Nat.le_refl _) _)
    have HWF := Lib.hid hWF
    clear r3 hWF
    go_wp2
    rw [← HWF.out]
    refine bodyPost_ret (v := .tuple #[.agg #[.int .i64 0, .int .i64 0, .int .i64 0], .int .i64 2]) ?_ rfl ?_
    · simp only [results, HRES.out]
      go_simp
    · exact ⟨(0, 0, 0), 2, rfl, HBF.out, ⟨fun h => absurd h HNO.out, fun _ => ⟨rfl, rfl⟩⟩⟩
  | true =>
    have HOK : Hid (BarsOk xs) := Lib.hid (HBB.out.1 rfl)
    have h24 : xs.length ≤ 24 := HOK.out.1
    clear HBB
    obtain ⟨w3, hw3⟩ : ∃ w3 : World, w3 = w2.alloc (.cells #[.int .i64 0, .int .i64 0, .int .i64 0] 53) := ⟨_, rfl⟩
    have HL3 : Hid (Lg w2 w3 w2.heap.size (0, 0, 0)) := Lib.hid (by rw [hw3]; exact ⟨below_alloc1 _ _, Nat.le_refl _, rowIs3 (heap_alloc_new _ _)⟩)
    obtain ⟨g, hg⟩ : ∃ g, g = w2.heap.size := ⟨_, rfl⟩
    rw [← hg] at HL3
    go_upto_region 4 with fail
    rw [← hw3]
    rw [← hg]
    clear hw3 hg
    go_wp2
    go_loopw [5, 6] (fun c i wr => ∃ (k : Nat) (s : Int) (b : B3), k ≤ xs.length ∧ i = .int .i64 k ∧ c = .int .i64 s ∧ -1 ≤ s ∧ s ≤ 5 ∧ Hid ((s, b) = lbs (xs.take k)) ∧ Hid (Lg w2 wr g b)) (fun _ i _ => xs.length - (intOf i).toNat)
    case atStart => exact ⟨0, -1, (0, 0, 0), Nat.zero_le _, rfl, rfl, by omega, by omega, Lib.hid (by simp [lbs]), HL3⟩
    case round =>
      clear HL3
      obtain ⟨k, s, bx, hk, rfl, rfl, hs0, hs1, HM, HL⟩ := hrel
      obtain ⟨wx, hwx⟩ : ∃ wx : World, wx = wr := ⟨_, rfl⟩
      subst hwx
      by_cases hlt : k < xs.length
      · have hkl : (k : Int) < (xs.length : Int) := by omega
        obtain ⟨bv, ov, hav, _, _, _, p0, p1, p2⟩ := H2.out.at' (k := k) hlt
        subst hav
        obtain ⟨x, hx⟩ : ∃ x, x = xs[k] := ⟨_, rfl⟩
        rw [← hx] at p0 p1 p2
        have q0 := later HL.out.below (Nat.le_refl _) p0
        have q1 := later HL.out.below (Nat.le_refl _) p1
        have q2 := later HL.out.below (Nat.le_refl _) p2
        have HTK : Hid (xs.take (k + 1) = xs.take k ++ [x]) := Lib.hid (by rw [take_snoc hlt, hx])
        have HXO : Hid (BarOk x) := Lib.hid (by rw [hx]; exact HOK.out.2.1 k hlt)
        clear p0 p1 p2 hx
        obtain ⟨a, b, d⟩ := x
        dsimp only at q0 q1 q2
        obtain ⟨wb, hwb⟩ : ∃ wb : World, wb = wx.alloc (.cells #[.int .i64 a, .int .i64 b, .int .i64 d] 53) := ⟨_, rfl⟩
        have HLB : Hid (Lg w2 wb g bx) := Lib.hid (by rw [hwb]; exact HL.out.next (below_alloc1 _ _))
        have t0 : wb.cell? ⟨wx.heap.size, 0, none⟩ = some (.int .i64 a) := by rw [hwb]; simp
        have t1 : wb.cell? ⟨wx.heap.size, 1, none⟩ = some (.int .i64 b) := by rw [hwb]; simp
        have t2 : wb.cell? ⟨wx.heap.size, 2, none⟩ = some (.int .i64 d) := by rw [hwb]; simp
        have hgx : g < wx.heap.size := HL.out.box.lt
        have hgn : g ≠ wx.heap.size := by omega
        have T0 := Lib.hid t0
        have T1 := Lib.hid t1
        have T2 := Lib.hid t2
        have hxo := HXO.out
        unfold BarOk at hxo
        dsimp only at hxo
        obtain ⟨l, hle⟩ : ∃ l, l = d - b := ⟨_, rfl⟩
        go_upto_region 8 with fail
        rw [← hwb]
        clear hwb q0 q1 q2
        by_cases hd : 0 ≤ d
        · have hdk : ¬ ((a, b, d) : B3).2.2 = -1 := by show ¬ d = -1; omega
          have hln : 0 ≤ l ∧ l ≤ 5 := by omega
          have hwl : IntKind.i64.wrap (d - b) = l := by rw [← hle]; exact IntWalk.i64_in _ (by omega)
          by_cases hgt : s < l
          · have HST : Hid (lstep (s, bx) (a, b, d) = (l, (a, b, d))) := Lib.hid (by unfold lstep; rw [if_neg hdk]; dsimp only; rw [← hle, if_pos hgt])
            clear hle hdk hxo
            have rg := HLB.out.box
            have gq0 := rg.cell (i := 0) (by omega)
            have gz0 := rg.frozen 0
            have gr1 := rg.set 0 (.int .i64 a)
            have gq1 := gr1.cell (i := 1) (by omega)
            have gz1 := gr1.frozen 1
            have gr2 := gr1.set 1 (.int .i64 b)
            have gq2 := gr2.cell (i := 2) (by omega)
            have gz2 := gr2.frozen 2
            clear gr1 gr2
            have HLP := Lib.hid (HLB.out.put a b d)
            clear rg
            have u0 : (((wb.setCell ⟨g, 0, none⟩ (.int .i64 a)).setCell ⟨g, 1, none⟩ (.int .i64 b)).setCell ⟨g, 2, none⟩ (.int .i64 d)).cell? ⟨wx.heap.size, 0, none⟩ = some (.int .i64 a) := by rw [World.cell?_setCell_far _ _ _ _ (show g ≠ wx.heap.size from hgn), World.cell?_setCell_far _ _ _ _ (show g ≠ wx.heap.size from hgn), World.cell?_setCell_far _ _ _ _ (show g ≠ wx.heap.size from hgn)]; exact T0.out
            have u1 : (((wb.setCell ⟨g, 0, none⟩ (.int .i64 a)).setCell ⟨g, 1, none⟩ (.int .i64 b)).setCell ⟨g, 2, none⟩ (.int .i64 d)).cell? ⟨wx.heap.size, 1, none⟩ = some (.int .i64 b) := by rw [World.cell?_setCell_far _ _ _ _ (show g ≠ wx.heap.size from hgn), World.cell?_setCell_far _ _ _ _ (show g ≠ wx.heap.size from hgn), World.cell?_setCell_far _ _ _ _ (show g ≠ wx.heap.size from hgn)]; exact T1.out
            have u2 : (((wb.setCell ⟨g, 0, none⟩ (.int .i64 a)).setCell ⟨g, 1, none⟩ (.int .i64 b)).setCell ⟨g, 2, none⟩ (.int .i64 d)).cell? ⟨wx.heap.size, 2, none⟩ = some (.int .i64 d) := by rw [World.cell?_setCell_far _ _ _ _ (show g ≠ wx.heap.size from hgn), World.cell?_setCell_far _ _ _ _ (show g ≠ wx.heap.size from hgn), World.cell?_setCell_far _ _ _ _ (show g ≠ wx.heap.size from hgn)]; exact T2.out
            go_wp2
            go_roundw
            case rel => exact ⟨k + 1, l, (a, b, d), by omega, by go_num, rfl, by omega, by omega, Lib.hid (by rw [HTK.out, lbs_snoc, ← HM.out]; exact HST.out.symm), HLP⟩
            case measure => simp [intOf]; omega
          · have HST : Hid (lstep (s, bx) (a, b, d) = (s, bx)) := Lib.hid (by unfold lstep; rw [if_neg hdk]; dsimp only; rw [← hle, if_neg hgt])
            clear hle hdk hxo
            go_wp2
            go_roundw
            case rel => exact ⟨k + 1, s, bx, by omega, by go_num, rfl, hs0, hs1, Lib.hid (by rw [HTK.out, lbs_snoc, ← HM.out]; exact HST.out.symm), HLB⟩
            case measure => simp [intOf]; omega
        · have hdk : ((a, b, d) : B3).2.2 = -1 := by show d = -1; omega
          have HST : Hid (lstep (s, bx) (a, b, d) = (s, bx)) := Lib.hid (if_pos hdk)
          clear hle hdk hxo
          go_wp2
          go_roundw
          case rel => exact ⟨k + 1, s, bx, by omega, by go_num, rfl, hs0, hs1, Lib.hid (by rw [HTK.out, lbs_snoc, ← HM.out]; exact HST.out.symm), HLB⟩
          case measure => simp [intOf]; omega
      · have hkl : ¬ (k : Int) < (xs.length : Int) := by omega
        have HE : Hid ((s, bx) = lbs xs) := Lib.hid (by rw [HM.out, List.take_of_length_le (by omega)])
        have HBX := Lib.hid (HB2.out.trans (HL.out.below.mono HB2.out.size))
        have hr : wx.heap[w.heap.size]? = some (.cells #[.int .i64 0, .int .i64 0, .int .i64 0] 53) := HR2.out.next HL.out.below
        have rr := rowIs3 hr
        clear hr
        by_cases hs : s < 0
        · have HSS := Lib.hid hs
          have sq0 := rr.cell (i := 0) (by omega)
          have sz0 := rr.frozen 0
          have sr1 := rr.set 0 (.int .i64 0)
          have sq1 := sr1.cell (i := 1) (by omega)
          have sz1 := sr1.frozen 1
          have sr2 := sr1.set 1 (.int .i64 0)
          have sq2 := sr2.cell (i := 2) (by omega)
          have sz2 := sr2.frozen 2
          clear sr1 sr2
          obtain ⟨WF, hWF⟩ : ∃ WF : World, WF = (((wx.setCell ⟨w.heap.size, 0, none⟩ (.int .i64 0)).setCell ⟨w.heap.size, 1, none⟩ (.int .i64 0)).setCell ⟨w.heap.size, 2, none⟩ (.int .i64 0)) := ⟨_, rfl⟩
          have r3 := row_put3 rr (.int .i64 0) (.int .i64 0) (.int .i64 0)
          rw [← hWF] at r3
          have f0 : WF.cell? ⟨w.heap.size, 0, none⟩ = some (.int .i64 0) := r3.cell (i := 0) (by omega)
          have f1 : WF.cell? ⟨w.heap.size, 1, none⟩ = some (.int .i64 0) := r3.cell (i := 1) (by omega)
          have f2 : WF.cell? ⟨w.heap.size, 2, none⟩ = some (.int .i64 0) := r3.cell (i := 2) (by omega)
          have HBF : Hid (Below w.heap.size w WF) := Lib.hid (by rw [hWF]; exact ((HBX.out.setCell (Nat.le_refl _) _).setCell (Nat.le_refl _) _).setCell (Nat.le_refl _) _)
          have HWF := Lib.hid hWF
          clear r3 hWF
          go_wp2
          rw [← HWF.out]
          refine bodyPost_ret (v := .tuple #[.agg #[.int .i64 0, .int .i64 0, .int .i64 0], .int .i64 4]) ?_ rfl ?_
          · simp only [results, HRES.out]
            go_simp
          · exact ⟨(0, 0, 0), 4, rfl, HBF.out, ⟨fun _ => ⟨fun h => absurd h (by rw [← HE.out]; have := HSS.out; show ¬ 0 ≤ s; omega), fun _ => ⟨rfl, rfl⟩⟩, fun h => absurd HOK.out h⟩⟩
        · have HSS := Lib.hid hs
          obtain ⟨a, b, d⟩ := bx
          have v0 : wx.cell? ⟨g, 0, none⟩ = some (.int .i64 a) := HL.out.box.cell (i := 0) (by omega)
          have v1 : wx.cell? ⟨g, 1, none⟩ = some (.int .i64 b) := HL.out.box.cell (i := 1) (by omega)
          have v2 : wx.cell? ⟨g, 2, none⟩ = some (.int .i64 d) := HL.out.box.cell (i := 2) (by omega)
          have sq0 := rr.cell (i := 0) (by omega)
          have sz0 := rr.frozen 0
          have sr1 := rr.set 0 (.int .i64 a)
          have sq1 := sr1.cell (i := 1) (by omega)
          have sz1 := sr1.frozen 1
          have sr2 := sr1.set 1 (.int .i64 b)
          have sq2 := sr2.cell (i := 2) (by omega)
          have sz2 := sr2.frozen 2
          clear sr1 sr2
          obtain ⟨WF, hWF⟩ : ∃ WF : World, WF = (((wx.setCell ⟨w.heap.size, 0, none⟩ (.int .i64 a)).setCell ⟨w.heap.size, 1, none⟩ (.int .i64 b)).setCell ⟨w.heap.size, 2, none⟩ (.int .i64 d)) := ⟨_, rfl⟩
          have r3 := row_put3 rr (.int .i64 a) (.int .i64 b) (.int .i64 d)
          rw [← hWF] at r3
          have f0 : WF.cell? ⟨w.heap.size, 0, none⟩ = some (.int .i64 a) := r3.cell (i := 0) (by omega)
          have f1 : WF.cell? ⟨w.heap.size, 1, none⟩ = some (.int .i64 b) := r3.cell (i := 1) (by omega)
          have f2 : WF.cell? ⟨w.heap.size, 2, none⟩ = some (.int .i64 d) := r3.cell (i := 2) (by omega)
          have HBF : Hid (Below w.heap.size w WF) := Lib.hid (by rw [hWF]; exact ((HBX.out.setCell (Nat.le_refl _) _).setCell (Nat.le_refl _) _).setCell (Nat.le_refl _) _)
          have HWF := Lib.hid hWF
          clear r3 hWF
          go_wp2
          rw [← HWF.out]
          refine bodyPost_ret (v := .tuple #[.agg #[.int .i64 a, .int .i64 b, .int .i64 d], .int .i64 0]) ?_ rfl ?_
          · simp only [results, HRES.out]
            go_simp
          · exact ⟨(a, b, d), 0, rfl, HBF.out, ⟨fun _ => ⟨fun _ => ⟨by rw [← HE.out], rfl⟩, fun h => absurd h (by rw [← HE.out]; have := HSS.out; show ¬ s < 0; omega)⟩, fun h => absurd HOK.out h⟩⟩
end Go.Proofs.Ytchijefibiaphaa
