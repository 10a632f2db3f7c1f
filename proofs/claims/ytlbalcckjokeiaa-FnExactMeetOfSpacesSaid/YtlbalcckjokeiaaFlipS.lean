/-
  Slices that a call has gathered by append, as rows of numbers (G1) and rows of rows (G2); spec.l01Flip by its contract.
-/
import Derived.Test.YtlbalcckjokeiaaFlip
namespace Go.Proofs.Ytlbalcckjokeiaa
open Go.RowKit

/-- A row of numbers, gathered: its cells lie in a block of numbers. -/
def G1 (w : World) (u : Value) (xs : List Int) : Prop := w.ownsRow 0 2 1 u xs.length (xs.map (Value.int .i64))
theorem G1.below {w w' : World} {u : Value} {xs : List Int} (h : G1 w u xs) (hb : Below w.heap.size w w') : G1 w' u xs := owns_below h hb
theorem G1.l1 {w : World} {u : Value} {xs : List Int} (h : G1 w u xs) : L1 0 w u xs := sl_of_owns h (Nat.le_refl _) rfl (fun k h1 h2 => by simp [IsI])
theorem owns_mono {w : World} {base base' : Nat} {e : TypeId} {size n : Nat} {v : Value} {xs : List Value} (h : w.ownsRow base e size v n xs) (hb : base' ≤ base) : w.ownsRow base' e size v n xs := by
  refine ⟨h.1, ?_⟩
  rcases h.2 with h2 | ⟨g, cap, cur, hu, hg, r⟩
  · exact Or.inl h2
  · exact Or.inr ⟨g, cap, cur, hu, Nat.le_trans hb hg, r⟩
/-- A row of another kind may grow beside it. -/
theorem owns_grown {w w' : World} {base base' : Nat} {e e' : TypeId} {size size' n n' : Nat} {u v : Value} {xs vs : List Value} (h : w.ownsRow base e size u n xs) (hv : w.ownsRow base' e' size' v n' vs) (he : e ≠ e') (hg : w.grownBy w' v.ownBlock) : w'.ownsRow base e size u n xs := by
  refine ⟨h.1, ?_⟩
  rcases h.2 with h2 | ⟨g, cap, cur, hu, hb, hh, r⟩
  · exact Or.inl h2
  · refine Or.inr ⟨g, cap, cur, hu, hb, ?_, r⟩
    rw [hg.block g (Array.getElem?_eq_some_iff.1 hh).1]
    · exact hh
    · intro e2
      rcases hv.2 with ⟨rfl, _⟩ | ⟨g2, cap2, cur2, rfl, _, hh2, _⟩
      · simp [Value.ownBlock] at e2
      · simp [Value.ownBlock] at e2
        subst e2
        rw [hh] at hh2
        simp at hh2
        exact he hh2.2
/-- A table gathered row by row. -/
def G2 (w : World) (u : Value) (t : List (List Int)) : Prop := ∃ vs, w.ownsRow 0 31 1 u t.length vs ∧ ∀ k (h1 : k < vs.length) (h2 : k < t.length), G1 w vs[k] t[k]
theorem G2.below {w w' : World} {u : Value} {t : List (List Int)} (h : G2 w u t) (hb : Below w.heap.size w w') : G2 w' u t := by
  obtain ⟨vs, ho, hr⟩ := h
  exact ⟨vs, owns_below ho hb, fun k h1 h2 => (hr k h1 h2).below hb⟩
theorem G2.l2 {w : World} {u : Value} {t : List (List Int)} (h : G2 w u t) : L2 0 w u t := by
  obtain ⟨vs, ho, hr⟩ := h
  exact sl_of_owns ho (Nat.le_refl _) rfl (fun k h1 h2 => (hr k h2 h1).l1)

/-- The first q numbers of column j. -/
def colTo (t : List (List Int)) (j q : Nat) : List Int := (List.range q).map fun i => (t.getD i []).getD j 0
theorem colTo_length (t : List (List Int)) (j q : Nat) : (colTo t j q).length = q := by simp [colTo]
theorem colTo_succ (t : List (List Int)) (j q : Nat) : colTo t j (q + 1) = colTo t j q ++ [(t.getD q []).getD j 0] := by simp [colTo, List.range_succ]
theorem flipT_at (c : Nat) (t : List (List Int)) {k : Nat} (h : k < (flipT c t).length) : (flipT c t)[k] = colTo t k t.length := by simp [flipT, tableOf, colTo]
theorem flipT_length (c : Nat) (t : List (List Int)) : (flipT c t).length = c := by simp [flipT, tableOf]

def FlR (t : List (List Int)) (w : World) (e : Ending) (w' : World) : Prop := ∃ u, e = .returned u ∧ G2 w' u t ∧ Below w.heap.size w w'

set_option maxHeartbeats 3200000 in
theorem l01Flip_any (c : Nat) (vt : Value) (t : List (List Int)) (w : World) (ht : L2 0 w vt t) (hr : t.length ≤ 1048576) (hc : c ≤ 1048576) (hrow : ∀ x ∈ t, x.length = c) :
    Calls Try.prog 86 #[vt, .int .i64 c] w (FlR (flipT c t) w) := by
  have HROWS := Lib.hid hrow
  have HT := Lib.hid ht
  obtain ⟨ad, cap, rfl⟩ := Sl.shape ht
  obtain ⟨i0, hi, hz0, hz1, hz2⟩ := info_parts Try.infoS
  obtain ⟨i1, hj, hy0, hy1, hy2⟩ := info_parts Try.infoI
  have HOWN0 := Lib.hid (World.ownsRow_made (base := w.heap.size) (e := 31) (size := 1) w #[] 0 (by simp) (by unfold maxLen; omega) (by simp))
  clear hrow ht
  go_enter Try.func86, Try.ntmps86
  go_wp2
  go_loopw [5, 6] (fun o i wr => ∃ (k : Nat) (vs : List Value), k ≤ c ∧ i = .int .i64 k ∧ Hid (Below w.heap.size w wr) ∧ Hid (wr.ownsRow w.heap.size 31 1 o k vs) ∧ Hid (∀ j (h : j < vs.length), G1 wr vs[j] (colTo t j t.length))) (fun _ i _ => c - (intOf i).toNat)
  case atStart => exact ⟨0, [], Nat.zero_le _, rfl, Lib.hid ((Below.refl _ _).alloc (Nat.le_refl _) _), Lib.hid (by simpa using HOWN0.out), Lib.hid (fun j h => absurd h (Nat.not_lt_zero _))⟩
  case round =>
    obtain ⟨k, vs, hk, rfl, HBE, HO, HV⟩ := hrel
    obtain ⟨wo, hwo⟩ : ∃ wo : World, wo = wr := ⟨_, rfl⟩
    subst hwo
    have hvl : Hid (vs.length = k) := Lib.hid (by have := HO.out.1; omega)
    have hsz : w.heap.size ≤ wo.heap.size := HBE.out.size
    by_cases hlt : k < c
    · have HOWN1 := Lib.hid (World.ownsRow_made (base := wo.heap.size) (e := 2) (size := 1) wo #[] 0 (by simp) (by unfold maxLen; omega) (by simp))
      go_wp2
      go_loopw [7, 8] (fun r i wr => ∃ (q : Nat), q ≤ t.length ∧ i = .int .i64 q ∧ Hid (Below wo.heap.size wo wr) ∧ Hid (wr.ownsRow wo.heap.size 2 1 r q ((colTo t k q).map (Value.int .i64)))) (fun _ i _ => t.length - (intOf i).toNat)
      case atStart => exact ⟨0, Nat.zero_le _, rfl, Lib.hid ((Below.refl _ _).alloc (Nat.le_refl _) _), Lib.hid (by simpa [colTo] using HOWN1.out)⟩
      case round =>
        obtain ⟨q, hq, rfl, HBI, HRI⟩ := hrel
        have hszi : wo.heap.size ≤ wr.heap.size := HBI.out.size
        by_cases hlt2 : q < t.length
        · refine Sl.cases HT.out (fun ad2 cap2 hx2 hv2 => absurd hlt2 (by subst hx2; simp)) (fun b2 o2 cap2 hv2 _ hpos2 hcl2 => ?_)
          obtain ⟨rfl, rfl⟩ : ad = some ⟨b2, o2, none⟩ ∧ cap = cap2 := by simpa using hv2
          obtain ⟨u2, hu2, hr2⟩ := hcl2 q hlt2
          obtain ⟨ys, hy⟩ : ∃ ys, ys = t[q] := ⟨_, rfl⟩
          have hyc : ys.length = c := by rw [hy]; exact HROWS.out _ (List.getElem_mem hlt2)
          rw [← hy] at hr2
          have hlt4 : k < ys.length := by omega
          refine Sl.cases hr2 (fun ad3 cap3 hx3 hv3 => absurd hlt4 (by subst hx3; simp)) (fun b3 o3 cap3 hv3 _ hpos3 hcl3 => ?_)
          obtain ⟨u3, hu3, hr3⟩ := hcl3 k hlt4
          obtain ⟨x, hxx⟩ : ∃ x, x = ys[k] := ⟨_, rfl⟩
          rw [← hxx] at hr3
          subst hv3
          have hBW : Below w.heap.size w wr := HBE.out.trans (HBI.out.mono hsz)
          have hu2' : wr.cell? ⟨b2, o2 + q, none⟩ = some (.slice (some ⟨b3, o3, none⟩) ys.length cap3) := by rw [hBW.cell (p := ⟨b2, o2 + q, none⟩) (cell_lt hu2), hu2]
          have hu3' : wr.cell? ⟨b3, o3 + k, none⟩ = some (.int .i64 x) := by rw [hBW.cell (p := ⟨b3, o3 + k, none⟩) (cell_lt hu3), hu3, hr3]
          have HX : Hid (x = (t.getD q []).getD k 0) := Lib.hid (by rw [hxx, getD_of_lt _ hlt2, ← hy, getD_of_lt _ hlt4])
          clear hu2 hu3 hr2 hr3 hcl2 hcl3 hv2 hy hxx hBW
          go_wp2_with (at_builtin; refine wpList_append_own _ rfl (.tmp 22) (.tmp 30) 31 rfl wo.heap.size 2 i1 (.int .i64 0) 1 8 Try.underlying31 hj hy0 hy1 hy2 rfl (by decide) _ _ _ rfl (HRI.out.alloc _) ⟨wr.heap.size, 0, none⟩ 1 1 [.int .i64 x] rfl rfl ?c1 ?c2 ?c3 ?c4 ?c5 ?_)
          case c1 =>
            intro j u hj
            match j, hj with
            | 0, hj => simp at hj; subst hj; simp [Addr.add]
          case c2 => intro u hu; simp at hu; subst hu; rfl
          case c3 => unfold maxLen; omega
          case c4 => omega
          case c5 => simp; omega
          intro v' w3 hown' hgrow _
          have HB3 : Hid (Below wo.heap.size wo w3) := Lib.hid ((HBI.out.alloc hszi _).grown hgrow (by simp; omega) (fun g hg => ((HRI.out.lt) g hg).1))
          have HO3 : Hid (w3.ownsRow wo.heap.size 2 1 v' (q + 1) ((colTo t k (q + 1)).map (Value.int .i64))) := Lib.hid (by rw [colTo_succ, ← HX.out, List.map_append]; exact hown')
          clear hown' hgrow
          go_wp2
          go_roundw
          case rel => exact ⟨q + 1, by omega, by go_num, HB3, HO3⟩
          case measure => simp [intOf]; omega
        · have hqq : Hid (q = t.length) := Lib.hid (by omega)
          have HR1 : Hid (G1 wr u7 (colTo t k t.length)) := Lib.hid (by
            have := owns_mono HRI.out (Nat.zero_le _)
            rw [hqq.out] at this
            rw [G1, colTo_length]; exact this)
          obtain ⟨ar, cr, rfl⟩ := Sl.shape HR1.out.l1
          have HO2 := Lib.hid (owns_below HO.out HBI.out)
          go_wp2_with (at_builtin; refine wpList_append_own _ rfl (.tmp 32) (.tmp 34) 22 rfl w.heap.size 31 i0 (.slice none 0 0) 1 24 Try.underlying22 hi hz0 hz1 hz2 rfl (by decide) _ _ _ rfl (HO2.out.alloc _) ⟨wr.heap.size, 0, none⟩ 1 1 [.slice ar (colTo t k t.length).length cr] rfl rfl ?c1 ?c2 ?c3 ?c4 ?c5 ?_)
          case c1 =>
            intro j u hj
            match j, hj with
            | 0, hj => simp at hj; subst hj; simp [Addr.add]
          case c2 => intro u hu; simp at hu; subst hu; rfl
          case c3 => unfold maxLen; omega
          case c4 => omega
          case c5 => simp; omega
          intro v' w3 hown' hgrow _
          have HB3 : Hid (Below w.heap.size w w3) := Lib.hid (((HBE.out.trans (HBI.out.mono hsz)).alloc (by omega) _).grown hgrow (by simp; omega) (fun g hg => ((HO2.out.lt) g hg).1))
          have HKEEP : ∀ u xs, G1 wr u xs → G1 w3 u xs := fun u xs h => owns_grown (h.below ((Below.refl _ _).alloc (Nat.le_refl _) _)) (HO2.out.alloc _) (by decide) hgrow
          have HV3 : Hid (∀ j (h : j < (vs ++ [Value.slice ar (colTo t k t.length).length cr]).length), G1 w3 (vs ++ [Value.slice ar (colTo t k t.length).length cr])[j] (colTo t j t.length)) := Lib.hid (fun j h => by
            by_cases e : j < vs.length
            · rw [List.getElem_append_left e]
              exact HKEEP _ _ ((HV.out j e).below HBI.out)
            · have e2 : j = k := by have := hvl.out; simp at h; omega
              subst e2
              rw [List.getElem_append_right (by omega)]
              simp only [hvl.out, Nat.sub_self, List.getElem_cons_zero]
              exact HKEEP _ _ HR1.out)
          have HO3 := Lib.hid hown'
          clear hown' hgrow HKEEP
          go_wp2
          go_roundw
          case rel => exact ⟨k + 1, _, by omega, by go_num, HB3, HO3, HV3⟩
          case measure => simp [intOf]; omega
    · have hkk : Hid (k = c) := Lib.hid (by omega)
      go_wp2
      go_ret
      refine ⟨_, rfl, ⟨vs, ?_, fun j h1 h2 => ?_⟩, HBE.out⟩
      · rw [flipT_length, ← hkk.out]; exact owns_mono HO.out (Nat.zero_le _)
      · rw [flipT_at]; exact HV.out j h1
end Go.Proofs.Ytlbalcckjokeiaa
