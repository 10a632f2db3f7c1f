/-
  Rows of numbers and vectors: impl.vectorsOf, rowsOf by their contracts.
  Tables with their rows in blocks of their own: what markInt64SS writes, and that heldInt64SS finds it.
  Rows of the first numbers of vectors: impl.rowsOf by its contract.
-/
import Derived.Test.YtpdkfidmmjlmnabQd
import Derived.Test.YtpdkfidmmjlmnabQe
import Derived.OwnWalk
namespace Go.Proofs.Ytpdkfidmmjlmnab
open Go.RowKit

/-- A row as a vector. -/
def ofL (xs : List Int) : Lin.V := fun i => xs.getD i 0
theorem ofL_at {xs : List Int} {i : Nat} (h : i < xs.length) : ofL xs i = xs[i] := getD_of_lt _ h
theorem ofL_wd {xs : List Int} {n : Nat} (h : xs.length ≤ n) : Lin.Wd n (ofL xs) := fun i hi => by simp [ofL, List.getD, show xs.length ≤ i by omega]
theorem toL_ofL {xs : List Int} {n : Nat} (h : xs.length = n) : toL n (ofL xs) = xs := by
  subst h
  refine List.ext_getElem (toL_length _ _) fun i h1 h2 => ?_
  rw [toL_get _ h1, ofL_at h2]
theorem ofL_toL {v : Lin.V} {n : Nat} (h : Lin.Wd n v) : ofL (toL n v) = v := by
  funext i
  by_cases hi : i < n
  · rw [ofL_at (by rw [toL_length]; exact hi), toL_get]
  · rw [h i (by omega)]
    simp [ofL, List.getD, show (toL n v).length ≤ i by rw [toL_length]; omega]
theorem ofL_md {p n : Int} {xs : List Int} (hp : 0 < p) (h : RowOk p n xs) : Lin.Md p (ofL xs) := fun i => by
  by_cases hi : i < xs.length
  · rw [ofL_at hi]
    have := h.2 _ (List.getElem_mem hi)
    omega
  · have : ofL xs i = 0 := by simp [ofL, List.getD, show xs.length ≤ i by omega]
    omega
theorem pad_toL {xs : List Int} (h : xs.length ≤ 40) : pad xs = toL 40 (ofL xs) := by
  refine List.ext_getElem (by rw [pad_length h, toL_length]) fun i h1 h2 => ?_
  rw [toL_get]
  by_cases hi : i < xs.length
  · rw [ofL_at hi]
    simp only [pad]
    rw [List.getElem_append_left hi]
  · have : ofL xs i = 0 := by simp [ofL, List.getD, show xs.length ≤ i by omega]
    rw [this]
    simp only [pad]
    rw [List.getElem_append_right (by omega)]
    simp
theorem ints_ofL {xs : List Int} (h : xs.length ≤ 40) : ints (pad xs) = (vl (ofL xs)).toArray := by rw [pad_toL h]; rfl

theorem cellsOf_zeros (n : Nat) : (madeCells (Value.agg zl.toArray).cells (n * 40)).toList = cellsOf (List.replicate n Lin.zv) := by
  have hz : ∀ x ∈ cellsOf (List.replicate n Lin.zv), x = .int .i64 0 := fun x hx => by
    obtain ⟨v, hv, h⟩ := List.mem_flatMap.1 hx
    obtain rfl := List.eq_of_mem_replicate hv
    obtain ⟨y, hy, rfl⟩ := List.mem_map.1 h
    obtain ⟨i, _, rfl⟩ := List.mem_map.1 hy
    rfl
  have h1 : cellsOf (List.replicate n Lin.zv) = List.replicate (n * 40) (.int .i64 0) := List.eq_replicate_iff.2 ⟨by rw [cellsOf_length, List.length_replicate], hz⟩
  rw [h1]
  refine List.eq_replicate_iff.2 ⟨by simp [madeCells], fun x hx => ?_⟩
  simp only [madeCells, Array.toList_map, List.mem_map] at hx
  obtain ⟨i, _, rfl⟩ := hx
  have hzs : (Value.agg zl.toArray).cells = zl.toArray := rfl
  rw [hzs]
  have e : zl.toArray.size = 40 := by simp [zl_length]
  have : i % zl.toArray.size < zl.toArray.size := Nat.mod_lt _ (by omega)
  rw [getElem!_pos zl.toArray (i % zl.toArray.size) this]
  exact List.eq_of_mem_replicate (n := 40) (List.mem_toArray.1 (Array.getElem_mem this))
theorem wpList_makeV {ops : Array Oper} {rest : List Oper} {o : Oper} {a : Act} {w : World} {Q : Exit → Act → World → Prop} (hg : o.guard = none) (dst : Option Tmp) (hdst : o.dst = dst) (x : Operand) (ho : o.op = .makeSlice 108 x x) (n : Nat) (hx : a.eval x = .int .i64 (n : Int)) (hn : n ≤ 1048576)
    (h : ∀ W, Ox w.heap.size W w.heap.size n (List.replicate n Lin.zv) → Below w.heap.size w W → wpList Try.prog ops Q rest (a.put dst (.slice (some ⟨w.heap.size, 0, none⟩) n n)) W) : wpList Try.prog ops Q (o :: rest) a w := by
  obtain ⟨i0, hi, hz0, hz1, hz2⟩ := info_parts Try.infoVz
  subst hdst
  refine wpList_make_full w hg x x 108 ho w.heap.size 161 i0 (.agg zl.toArray) 40 Try.underlyingSV hi hz0 hz1 .i64 .i64 n n n hx hx rfl rfl (by rw [hz2]; omega) (by unfold maxLen; omega) (Nat.le_refl _) (fun W h1 h2 => h W ⟨Nat.le_refl _, ?_⟩ ?_)
  · unfold Ow
    rw [cellsOf_zeros] at h1
    rw [List.length_replicate]
    exact h1
  · exact ⟨h2.os, h2.tape, h2.output, h2.size, fun k hk => h2.block k hk (by simp)⟩

/-- The vectors, the first k of them filled. -/
def filled (L : List Lin.V) (k : Nat) : List Lin.V := L.take k ++ List.replicate (L.length - k) Lin.zv
theorem filled_length (L : List Lin.V) (k : Nat) : (filled L k).length = L.length := by simp [filled]; omega
theorem filled_set {L : List Lin.V} {k : Nat} (hk : k < L.length) : (filled L k).set k L[k] = filled L (k + 1) := by
  have hl : (L.take k).length = k := by simp; omega
  unfold filled
  rw [List.set_append_right _ _ (by omega), hl, Nat.sub_self, show L.length - k = (L.length - (k + 1)) + 1 by omega, List.replicate_succ, List.set_cons_zero, List.take_succ_eq_append_getElem hk, List.append_assoc]
  rfl

set_option maxHeartbeats 1600000 in
set_option maxRecDepth 100000 in
theorem vectorsOf_any (v : Value) (xs : List (List Int)) (w : World) (h : L2 0 w v xs) (hl : xs.length ≤ 1048576) (hm : ∀ r ∈ xs, r.length ≤ 40) :
    Calls Try.prog 111 #[v] w (VsR (fun M => M = xs.map ofL) w) := by
  have HM := Lib.hid hm
  have H := Lib.hid h
  obtain ⟨ad, cap, rfl⟩ := Sl.shape h
  clear hm h
  obtain ⟨TS, hT⟩ : ∃ TS, TS = xs.map ofL := ⟨_, rfl⟩
  have HT := Lib.hid hT
  have HTL : Hid (TS.length = xs.length) := Lib.hid (by rw [hT, List.length_map])
  clear hT
  go_enter Try.func111, Try.ntmps111
  go_wp2_with (with_reducible refine wpList_makeV rfl (some 8) rfl (.tmp 7) rfl xs.length rfl hl ?_; intro W1 hw1 hb1; have HX1 := Lib.hid hw1; have HB1 := Lib.hid hb1; clear hw1 hb1)
  go_loopw [4, 5, 11] (fun _ _ i wr => ∃ (k : Nat), k ≤ xs.length ∧ i = .int .i64 k ∧ Hid (Below w.heap.size w wr) ∧ Hid (Ox w.heap.size wr w.heap.size xs.length (filled TS k))) (fun _ _ i _ => xs.length - (intOf i).toNat)
  case atStart => exact ⟨0, Nat.zero_le _, rfl, HB1, Lib.hid (by have := HX1.out; rw [filled, List.take_zero, HTL.out, Nat.sub_zero]; exact this)⟩
  case round =>
    clear HX1 HB1
    obtain ⟨k, hk, rfl, HB, HX⟩ := hrel
    by_cases hlt : k < xs.length
    · refine Sl.cases H.out (fun _ _ hx _ => absurd hlt (by simp [hx])) (fun b o cap2 hv _ _ hc => ?_)
      obtain ⟨rfl, rfl⟩ : ad = some ⟨b, o, none⟩ ∧ cap = cap2 := by simpa using hv
      obtain ⟨u, hu, hr⟩ := hc k hlt
      have hu2 := later HB.out (Nat.le_refl _) hu
      have HR := Lib.hid (hr.below HB.out)
      have hrl := HM.out _ (List.getElem_mem hlt)
      obtain ⟨r, hre⟩ : ∃ r, r = xs[k] := ⟨_, rfl⟩
      rw [← hre] at HR hrl
      have HTK : Hid (TS[k]'(by rw [HTL.out]; exact hlt) = ofL r) := Lib.hid (by simp only [HT.out, List.getElem_map, hre])
      clear hv hc hu hr hre
      go_wp2_with fail
      refine (vectorOf_any u r _ HR.out hrl).mono ?_
      rw [ints_ofL hrl]
      rintro e W2 ⟨rfl, hb2⟩
      have hkT : k < TS.length := by rw [HTL.out]; exact hlt
      have HP := Lib.hid ((HX.out.below hb2).put (k := k) (by rw [filled_length]; exact hkT) (ofL r))
      have HPX : Hid (Ox w.heap.size (W2.setCells w.heap.size (k * 40) (vl (ofL r))) w.heap.size xs.length (filled TS (k + 1))) := Lib.hid (by
        have e : (filled TS k).set k (ofL r) = filled TS (k + 1) := by
          rw [← HTK.out]
          exact filled_set hkT
        have h2 := HP.out.1
        rw [e] at h2
        exact h2)
      have HB2 : Hid (Below w.heap.size w (W2.setCells w.heap.size (k * 40) (vl (ofL r)))) := Lib.hid (below_setCells _ (Nat.le_refl _) _ _ _ (HB.out.trans (hb2.mono HB.out.size)))
      have HI := Lib.hid (Try.infoVl (ofL r))
      have HI2 : Hid ((Try.prog.info? 161).map (·.size) = some (vl (ofL r)).toArray.size) := Lib.hid (by have := HI.out; simpa using this)
      have HTH : Hid (W2.there w.heap.size (k * 40) (vl (ofL r)).toArray.size) := Lib.hid (by have := HP.out.2; simpa [vl_length] using this)
      clear hb2 HX HR
      go_wp2_with (with_reducible refine wpList_store_mid rfl 161 (.tmp 20) (.tmp 19) rfl w.heap.size (k * 40) (vl (ofL r)).toArray rfl rfl HTH.out HI2.out (vl_all _) ?_)
      go_roundw
      case rel => exact ⟨k + 1, by omega, by go_num, HB2, HPX⟩
      case measure => simp [intOf]; omega
    · have hkk : Hid (filled TS k = TS) := Lib.hid (by rw [filled, List.take_of_length_le (by rw [HTL.out]; omega), HTL.out, show xs.length - k = 0 by omega]; simp)
      go_wp2
      go_ret
      refine ⟨_, TS, rfl, HB.out, ?_, HT.out⟩
      have := HX.out.own
      rw [hkk.out, HTL.out] at this
      exact this
end Go.Proofs.Ytpdkfidmmjlmnab

namespace Go.Proofs.Ytpdkfidmmjlmnab
open Go.RowKit

def rowZ (c : Nat) (Z : Nat → Nat → Int) (j : Nat) : List Int := (List.range c).map fun i => Z j i
theorem rowZ_length (c : Nat) (Z : Nat → Nat → Int) (j : Nat) : (rowZ c Z j).length = c := by simp [rowZ]
/-- A table at block g, its rows behind it, each in a block of its own. -/
structure TabW (W : World) (g r c : Nat) (Z : Nat → Nat → Int) : Prop where
  top : ∀ j, j < r → W.cell? ⟨g, j, none⟩ = some (.slice (some ⟨g + 1 + j, 0, none⟩) c c)
  rows : ∀ j, j < r → W1 (g + 1 + j) (g + 1 + j + 1) W (.slice (some ⟨g + 1 + j, 0, none⟩) c c) (rowZ c Z j)
theorem Mat.tab {w w' : World} {r c : Nat} {Z : Nat → Nat → Int} (h : Mat w w' r c Z) : TabW w' w.heap.size r c Z := by
  refine ⟨fun j hj => h.top.cell hj, fun j hj => ?_⟩
  by_cases hc : c = 0
  · subst hc
    exact Or.inl ⟨rfl, _, _, rfl⟩
  · refine Or.inr ⟨w.heap.size + 1 + j, 0, c, by rw [rowZ_length], Nat.le_refl _, by omega, by rw [rowZ_length]; omega, fun i hi => ?_, fun i _ => (h.rows j hj).frozen _⟩
    have hi' : i < c := by rwa [rowZ_length] at hi
    refine ⟨_, by rw [Nat.zero_add]; exact (h.rows j hj).cell hi', ?_⟩
    simp only [IsI, rowZ, List.getElem_map, List.getElem_range]
theorem TabW.same {W W' : World} {g r c : Nat} {Z : Nat → Nat → Int} (h : TabW W g r c Z) (hs : Same g (g + 1 + r) W W') : TabW W' g r c Z :=
  ⟨fun j hj => (World.cell?_of_block (w := W) (w' := W') (a := ⟨g, j, none⟩) (hs g (Nat.le_refl _) (by omega))).trans (h.top j hj), fun j hj => (h.rows j hj).same (hs.narrow (by omega) (by omega))⟩
theorem TabW.congr {W : World} {g r c : Nat} {Z Z' : Nat → Nat → Int} (h : TabW W g r c Z) (e : ∀ j, j < r → rowZ c Z j = rowZ c Z' j) : TabW W g r c Z' :=
  ⟨h.top, fun j hj => by rw [← e j hj]; exact h.rows j hj⟩
theorem TabW.l2 {W : World} {g r c : Nat} {Z : Nat → Nat → Int} (h : TabW W g r c Z) : L2 g W (.slice (some ⟨g, 0, none⟩) r r) (tableOf r c Z) := by
  by_cases h0 : r = 0
  · subst h0
    exact Or.inl ⟨rfl, _, _, rfl⟩
  · refine Or.inr ⟨g, 0, r, by simp [tableOf], Nat.le_refl _, by simp [tableOf]; omega, fun k hk => ?_⟩
    have hk' : k < r := by simpa [tableOf] using hk
    refine ⟨_, by rw [Nat.zero_add]; exact h.top k hk', ?_⟩
    have := (h.rows k hk').l1.lower (lo' := g) (by omega)
    simpa [tableOf, rowZ] using this

/-- A table of a result: none, or one in blocks of its own. -/
def TW (lo hi : Nat) (W : World) (u : Value) (R : List (List Int)) : Prop :=
  (u = .slice none 0 0 ∧ R = []) ∨ ∃ (g r c : Nat) (Z : Nat → Nat → Int), lo ≤ g ∧ g + 1 + r ≤ hi ∧ r ≤ 1048576 ∧ c ≤ 1048576 ∧ u = .slice (some ⟨g, 0, none⟩) r r ∧ R = tableOf r c Z ∧ TabW W g r c Z
/-- The same with the marks from k to m in it. -/
def HW (lo hi : Nat) (W : World) (u : Value) (k m : Int) : Prop :=
  (u = .slice none 0 0 ∧ m = k) ∨ ∃ (g r c : Nat), lo ≤ g ∧ g + 1 + r ≤ hi ∧ r ≤ 1048576 ∧ c ≤ 1048576 ∧ u = .slice (some ⟨g, 0, none⟩) r r ∧ m = k + ((r * c : Nat) : Int) ∧ TabW W g r c (fun j i => k + ((j * c : Nat) : Int) + (i : Int))
theorem TW.nil (lo hi : Nat) (W : World) : TW lo hi W (.slice none 0 0) [] := Or.inl ⟨rfl, rfl⟩
theorem TW.same {lo hi : Nat} {W W' : World} {u : Value} {R : List (List Int)} (h : TW lo hi W u R) (hs : Same lo hi W W') : TW lo hi W' u R := by
  rcases h with h | ⟨g, r, c, Z, h1, h2, h3, h4, h5, h6, h7⟩
  · exact Or.inl h
  · exact Or.inr ⟨g, r, c, Z, h1, h2, h3, h4, h5, h6, h7.same (hs.narrow h1 h2)⟩
theorem TW.l2 {lo hi : Nat} {W : World} {u : Value} {R : List (List Int)} (h : TW lo hi W u R) : L2 0 W u R := by
  rcases h with ⟨rfl, rfl⟩ | ⟨g, r, c, Z, h1, h2, h3, h4, rfl, rfl, h7⟩
  · exact Or.inl ⟨rfl, _, _, rfl⟩
  · exact h7.l2.lower (Nat.zero_le _)
theorem HW.same {lo hi : Nat} {W W' : World} {u : Value} {k m : Int} (h : HW lo hi W u k m) (hs : Same lo hi W W') : HW lo hi W' u k m := by
  rcases h with h | ⟨g, r, c, h1, h2, h3, h4, h5, h6, h7⟩
  · exact Or.inl h
  · exact Or.inr ⟨g, r, c, h1, h2, h3, h4, h5, h6, h7.same (hs.narrow h1 h2)⟩

theorem marks_bound {j r c : Nat} (hj : j ≤ r) (hr : r ≤ 1048576) (hc : c ≤ 1048576) : j * c ≤ 1099511627776 := Nat.le_trans (Nat.mul_le_mul (Nat.le_trans hj hr) hc) (by decide)
theorem marks_next (j c : Nat) : ((((j + 1) * c : Nat)) : Int) = ((j * c : Nat) : Int) + (c : Int) := by rw [Nat.succ_mul]; omega

def MarkT (lo hi : Nat) (u : Value) (k : Int) (w : World) (e : Ending) (w' : World) : Prop := ∃ m : Int, e = .returned (.int .i64 m) ∧ k ≤ m ∧ m ≤ k + 1099511627776 ∧ Only lo hi w w' ∧ HW lo hi w' u k m

set_option maxHeartbeats 1600000 in
theorem markT_any {lo hi : Nat} (u : Value) (R : List (List Int)) (k : Int) (w : World) (h : TW lo hi w u R) (hk0 : 0 ≤ k) (hk1 : k ≤ 1048576) :
    Calls Try.prog 30 #[u, .int .i64 k] w (MarkT lo hi u k w) := by
  rcases h with ⟨rfl, rfl⟩ | ⟨g, r, c, Z, h1, h2, h3, h4, rfl, rfl, h7⟩
  · go_enter Try.func30, Try.ntmps30
    go_wp2
    refine wp_loop_rounds 1 ?_
    rw [rounds_succ]
    go_wp2
    go_ret
    exact ⟨k, rfl, Int.le_refl _, by omega, Only.refl _ _ _, Or.inl ⟨rfl, rfl⟩⟩
  · have H7 := Lib.hid h7
    clear h7
    go_enter Try.func30, Try.ntmps30
    go_wp2
    go_loopw [1, 5] (fun kk i wr => ∃ (j : Nat) (s : Int), j ≤ r ∧ i = .int .i64 j ∧ kk = .int .i64 s ∧ Hid (s = k + ((j * c : Nat) : Int)) ∧ Hid (Only g (g + 1 + r) w wr) ∧ Hid (TabW wr g r c (fun j2 i => if j2 < j then k + ((j2 * c : Nat) : Int) + (i : Int) else Z j2 i))) (fun _ i _ => r - (intOf i).toNat)
    case atStart => exact ⟨0, k, Nat.zero_le _, rfl, rfl, Lib.hid (by simp), Lib.hid (Only.refl _ _ _), Lib.hid (by simpa using H7.out)⟩
    case round =>
      clear H7
      obtain ⟨j, s, hj, rfl, rfl, HS, HO, HT⟩ := hrel
      by_cases hlt : j < r
      · have hu := HT.out.top j hlt
        have HR := Lib.hid (HT.out.rows j hlt)
        have hb := marks_bound (Nat.le_of_lt hlt) h3 h4
        have hs0 : 0 ≤ s ∧ s ≤ 2199023255552 := by rw [HS.out]; omega
        have HS2 : Hid (s + (c : Int) = k + (((j + 1) * c : Nat) : Int)) := Lib.hid (by rw [HS.out, marks_next]; omega)
        go_wp2_with fail
        refine (mark1_any _ (rowZ c Z j) s _ (by have := HR.out.t1; simpa [rowZ] using this) (by rw [rowZ_length]; omega) (by omega) (by omega)).mono ?_
        rw [rowZ_length]
        rintro e w2 ⟨rfl, ho, ht, hw⟩
        have HO2 : Hid (Only g (g + 1 + r) w w2) := Lib.hid (HO.out.trans (ho.wider (by omega) (by omega)))
        have HT2 : Hid (TabW w2 g r c (fun j2 i => if j2 < j + 1 then k + ((j2 * c : Nat) : Int) + (i : Int) else Z j2 i)) := Lib.hid (by
          refine ⟨fun j2 hj2 => (ho.cell (Or.inl (by omega))).trans (HT.out.top j2 hj2), fun j2 hj2 => ?_⟩
          by_cases e : j2 = j
          · subst e
            have e2 : rowZ c (fun j2 i => if j2 < j2 + 1 then k + ((j2 * c : Nat) : Int) + (i : Int) else Z j2 i) j2 = upFrom s c := by
              simp only [rowZ, upFrom, HS.out, if_pos (Nat.lt_succ_self _)]
            have e3 : rowZ c (fun j3 i => if j3 < j2 + 1 then k + ((j3 * c : Nat) : Int) + (i : Int) else Z j3 i) j2 = upFrom s c := by
              simp only [rowZ, upFrom, HS.out, if_pos (Nat.lt_succ_self _)]
            rw [e3]
            exact hw
          · have e3 : rowZ c (fun j3 i => if j3 < j + 1 then k + ((j3 * c : Nat) : Int) + (i : Int) else Z j3 i) j2 = rowZ c (fun j3 i => if j3 < j then k + ((j3 * c : Nat) : Int) + (i : Int) else Z j3 i) j2 := by
              by_cases h : j2 < j
              · simp only [rowZ, if_pos h, if_pos (show j2 < j + 1 by omega)]
              · simp only [rowZ, if_neg h, if_neg (show ¬ j2 < j + 1 by omega)]
            rw [e3]
            exact (HT.out.rows j2 hj2).same (ho.same (by omega)))
        clear ho ht hw hu
        go_wp2
        go_roundw
        case rel => exact ⟨j + 1, s + (c : Int), by omega, by go_num, rfl, HS2, HO2, HT2⟩
        case measure => simp [intOf]; omega
      · have hjj : Hid (j = r) := Lib.hid (by omega)
        have hb := marks_bound hj h3 h4
        go_wp2
        go_ret
        refine ⟨s, rfl, by rw [HS.out]; omega, by rw [HS.out]; omega, HO.out.wider h1 h2, Or.inr ⟨g, r, c, h1, h2, h3, h4, rfl, by rw [HS.out, hjj.out], HT.out.congr (fun j2 hj2 => ?_)⟩⟩
        simp only [rowZ, if_pos (show j2 < j by have := hjj.out; omega)]

set_option maxHeartbeats 1600000 in
theorem heldT_any {lo hi : Nat} (u : Value) (k m : Int) (w : World) (h : HW lo hi w u k m) (hk0 : 0 ≤ k) (hk1 : k ≤ 1048576) :
    Calls Try.prog 31 #[u, .int .i64 k] w (QW (.int .i64 m) w) := by
  rcases h with ⟨rfl, rfl⟩ | ⟨g, r, c, h1, h2, h3, h4, rfl, rfl, h7⟩
  · go_enter Try.func31, Try.ntmps31
    go_wp2
    refine wp_loop_rounds 1 ?_
    rw [rounds_succ]
    go_wp2
    go_ret
    exact ⟨rfl, rfl⟩
  · have H7 := Lib.hid h7
    clear h7
    go_enter Try.func31, Try.ntmps31
    go_wp2
    go_loop [1, 5] (fun kk i => ∃ (j : Nat) (s : Int), j ≤ r ∧ i = .int .i64 j ∧ kk = .int .i64 s ∧ Hid (s = k + ((j * c : Nat) : Int))) (fun _ i => r - (intOf i).toNat)
    case atStart => exact ⟨0, k, Nat.zero_le _, rfl, rfl, Lib.hid (by simp)⟩
    case round =>
      obtain ⟨j, s, hj, rfl, rfl, HS⟩ := hrel
      by_cases hlt : j < r
      · have hu := H7.out.top j hlt
        have HR := Lib.hid (H7.out.rows j hlt).l1
        have hb := marks_bound (Nat.le_of_lt hlt) h3 h4
        have hs0 : 0 ≤ s ∧ s ≤ 2199023255552 := by rw [HS.out]; omega
        have HS2 : Hid (s + (c : Int) = k + (((j + 1) * c : Nat) : Int)) := Lib.hid (by rw [HS.out, marks_next]; omega)
        have HUP : Hid (rowZ c (fun j i => k + ((j * c : Nat) : Int) + (i : Int)) j = upFrom s c) := Lib.hid (by simp only [rowZ, upFrom, HS.out])
        go_wp2_with fail
        refine (held1_any _ c s _ (by have := HR.out; rw [HUP.out] at this; exact this) (by omega) (by omega) (by omega)).mono ?_
        rintro e w2 ⟨rfl, rfl⟩
        clear hu
        have hneg : ¬ (s + (c : Int) < 0) := by omega
        go_wp2
        go_round
        case rel => exact ⟨j + 1, s + (c : Int), by omega, by go_num, rfl, HS2⟩
        case measure => simp [intOf]; omega
      · have hjj : Hid (j = r) := Lib.hid (by omega)
        go_wp2
        go_ret
        exact ⟨ret_int (by rw [HS.out, hjj.out]; simp), rfl⟩
end Go.Proofs.Ytpdkfidmmjlmnab

namespace Go.Proofs.Ytpdkfidmmjlmnab
open Go.RowKit

/-- A table in blocks of its own, block for block. -/
structure TabI (W : World) (g r c : Nat) (Z : Nat → Nat → Int) : Prop where
  top : W.rowIs g 22 r (fun j => .slice (some ⟨g + 1 + j, 0, none⟩) c c)
  rows : ∀ j, j < r → W.rowIs (g + 1 + j) 2 c (fun i => .int .i64 (Z j i))
theorem Mat.tabI {w w' : World} {r c : Nat} {Z : Nat → Nat → Int} (h : Mat w w' r c Z) : TabI w' w.heap.size r c Z := ⟨h.top, h.rows⟩
theorem rowIs_below {W W' : World} {b : Nat} {t : TypeId} {n : Nat} {f : Nat → Value} (h : W.rowIs b t n f) (hb : Below W.heap.size W W') : W'.rowIs b t n f := h.of_block (hb.block b h.lt)
theorem TabI.below {W W' : World} {g r c : Nat} {Z : Nat → Nat → Int} (h : TabI W g r c Z) (hb : Below W.heap.size W W') : TabI W' g r c Z :=
  ⟨rowIs_below h.top hb, fun j hj => rowIs_below (h.rows j hj) hb⟩
theorem TabI.tab {W : World} {g r c : Nat} {Z : Nat → Nat → Int} (h : TabI W g r c Z) : TabW W g r c Z := by
  refine ⟨fun j hj => h.top.cell hj, fun j hj => ?_⟩
  by_cases hc : c = 0
  · subst hc
    exact Or.inl ⟨rfl, _, _, rfl⟩
  · refine Or.inr ⟨g + 1 + j, 0, c, by rw [rowZ_length], Nat.le_refl _, by omega, by rw [rowZ_length]; omega, fun i hi => ?_, fun i _ => (h.rows j hj).frozen _⟩
    have hi' : i < c := by rwa [rowZ_length] at hi
    refine ⟨_, by rw [Nat.zero_add]; exact (h.rows j hj).cell hi', ?_⟩
    simp only [IsI, rowZ, List.getElem_map, List.getElem_range]
/-- Row k is written anew, whole. -/
theorem TabI.write {W : World} {g r c k : Nat} {Z : Nat → Nat → Int} (h : TabI W g r c Z) (hk : k < r) (v : Lin.V) :
    TabI (W.setRow (g + 1 + k) ((toL c v).map (Value.int .i64)).toArray) g r c (fun j i => if j = k then v i else Z j i) := by
  obtain ⟨cur, hcur, hcs, _⟩ := h.rows k hk
  refine ⟨h.top.of_block (setRow_other _ _ _ _ (by omega)), fun j hj => ?_⟩
  by_cases e : j = k
  · subst e
    refine ⟨_, setRow_heap _ _ _ _ _ _ hcur, by simp [toL_length], fun i hi => ?_⟩
    simp [toL, hi]
  · exact ((h.rows j hj).of_block (setRow_other _ _ _ _ (by omega))).congr (fun i _ => by rw [if_neg e])
theorem below_setRow' {B : Nat} {w W : World} {b : Nat} (h : Below B w W) (hB : B ≤ b) (C : Array Value) : Below B w (W.setRow b C) := below_setRow h hB C

def RowsR (R : List (List Int)) (w : World) (e : Ending) (w' : World) : Prop := ∃ u, e = .returned u ∧ TW w.heap.size w'.heap.size w' u R ∧ Below w.heap.size w w'

/-- copy of the first numbers of a vector into a row. -/
theorem run_copy_vec (w : World) (ty : TypeId) (g vb n dCap sCap : Nat) (v : Lin.V) (cur : Array Value) (hg : w.heap[g]? = some (.cells cur 2 (0, 0))) (hc : cur.size = n) (hn : n ≤ 40) (hv : At w vb 0 v) :
    (Builtin.copy_ #[22, 22] ty #[.slice (some ⟨g, 0, none⟩) n dCap, .slice (some ⟨vb, 0, none⟩) n sCap]).run Try.prog w = .ok (goInt (n : Int)) (w.setRow g ((toL n v).map (Value.int .i64)).toArray) := by
  have hl : ((toL n v).map (Value.int .i64)).length = n := by rw [List.length_map, toL_length]
  have h := run_copy_row (P := Try.prog) w 22 22 ty 2 g 0 n dCap ⟨vb, 0, none⟩ n sCap cur 2 ((toL n v).map (Value.int .i64)) Try.underlying22 Try.infoI1 hg
    (by rw [hl]; simp) (fun j u hj => by
      have hj' : j < n := by rw [← hl]; exact (List.getElem?_eq_some_iff.1 hj).1
      rw [Addr.add_mid, hv.cell (k := j) (by omega)]
      simp [toL, hj'] at hj
      rw [← hj]) (by rw [hl]; omega) (fun u hu => by
      obtain ⟨x, _, rfl⟩ := List.mem_map.1 hu
      rfl)
  rw [hl] at h
  have e : cur.toList.take 0 ++ (toL n v).map (Value.int .i64) ++ cur.toList.drop (0 + n) = (toL n v).map (Value.int .i64) := by
    rw [List.take_zero, List.nil_append, List.drop_of_length_le (by simp [hc]), List.append_nil]
  rw [e] at h
  exact h
theorem hsliceV (b n : Nat) (hn : n ≤ 40) (w : World) : (Instr.sliceAt 161 (.pointer (some ⟨b, 0, none⟩)) none (some (.int .i64 n)) none).run Try.prog w = .ok (.slice (some ⟨b, 0, none⟩) n 40) w := by
  have hu : Try.prog.underlying 161 = some (.array (Try.prog.arrayLen 161) (Try.prog.elem 161)) := by kernel_rfl
  have hal : Try.prog.arrayLen 161 = 40 := by kernel_rfl
  have hel : Try.prog.elem 161 = 2 := by kernel_rfl
  obtain ⟨i, hi, _, hs, _⟩ := info_parts Try.infoI
  rw [run_sliceAt_array_h w 161 ⟨b, 0, none⟩ hu .i64 n (by omega) (by rw [hal]; omega), hal, hel]
  simp [sizeOf, typeInfo, hi, hs, slicedAt, Result.andThen, Addr.add]

set_option maxHeartbeats 3200000 in
set_option maxRecDepth 100000 in
theorem rowsOf_any (n : Nat) (s : Value) (L : List Lin.V) (w : World) (hs : Vs 0 w s L) (hn : n ≤ 40) (hl : L.length ≤ 1048576) :
    Calls Try.prog 156 #[s, .int .i64 n] w (RowsR (L.map (toL n)) w) := by
  have HVS0 := Lib.hid hs
  obtain ⟨ads, caps, rfl⟩ := Vs.shape hs
  clear hs
  go_enter Try.func156, Try.ntmps156
  go_wp2_with fail
  refine (zeroTable_any L.length n _ hl (by omega)).mono ?_
  rintro e w1 ⟨rfl, hm⟩
  have HT1 := Lib.hid hm.tabI
  have HB1 := Lib.hid hm.below
  have hg1 : w.heap.size + 1 + L.length = w1.heap.size := hm.size.symm
  clear hm
  go_wp2
  go_loopw [6, 7, 14] (fun _ _ i wr => ∃ (k : Nat), k ≤ L.length ∧ i = .int .i64 k ∧ Hid (Below w.heap.size w wr) ∧ Hid (w1.heap.size ≤ wr.heap.size) ∧ Hid (TabI wr w.heap.size L.length n (fun j i => if j < k then (L.getD j Lin.zv) i else 0))) (fun _ _ i _ => L.length - (intOf i).toNat)
  case atStart => exact ⟨0, Nat.zero_le _, rfl, HB1, Lib.hid (Nat.le_refl _), Lib.hid (by simpa using HT1.out)⟩
  case round =>
    clear HT1 HB1
    obtain ⟨k, hk, rfl, HB, HS, HT⟩ := hrel
    by_cases hlt : k < L.length
    · refine Vs.cases (HVS0.out.below HB.out) (fun _ _ hx _ => absurd hlt (by simp [hx])) (fun b o cap2 hv _ _ hc => ?_)
      obtain ⟨rfl, rfl⟩ : ads = some ⟨b, o, none⟩ ∧ caps = cap2 := by simpa using hv
      obtain ⟨v, hve⟩ : ∃ v, v = L[k] := ⟨_, rfl⟩
      have HVA : Hid (At wr b (o + k * 40) v) := Lib.hid (by rw [hve]; exact hc k hlt)
      have HI := Lib.hid (Try.infoVl v)
      have HI2 : Hid ((Try.prog.info? 161).map (·.size) = some (vl v).toArray.size) := Lib.hid (by have := HI.out; simpa using this)
      have HVE : Hid (L.getD k Lin.zv = v) := Lib.hid (by rw [getD_of_lt _ hlt, hve])
      have hsz : w1.heap.size ≤ wr.heap.size := HS.out
      clear hv hc hve
      go_upto_region 5 with (first | (with_reducible refine wpList_load_mid rfl 161 (.tmp 17) rfl b (o + k * 40) rfl (vl v) _ HVA.out.range Try.underlyingV rfl HI.out ?_) | (with_reducible refine wpList_allocV rfl (some 7) rfl rfl ?_; intro W2 hn2; have HN2 := Lib.hid hn2; have HT2 : Hid (W2.there wr.heap.size 0 (vl v).toArray.size) := (Lib.hid (by have := hn2.there; simpa [vl_length] using this)); clear hn2) | (with_reducible refine wpList_store_mid rfl 161 (.tmp 7) (.tmp 18) rfl wr.heap.size 0 (vl v).toArray rfl rfl HT2.out HI2.out (vl_all v) ?_))
      refine forget_wp (fun W => Hid (At W wr.heap.size 0 v ∧ Below wr.heap.size wr W)) (Lib.hid ?_) ?_
      · have hp2 := HN2.out.put v
        exact ⟨hp2.2.1, hp2.1⟩
      intro W3 HS3
      clear HN2 HT2 HI2 HVA HI
      have HB3 := Lib.hid (HB.out.trans (HS3.out.2.mono (by omega)))
      have HT3 := Lib.hid (HT.out.below HS3.out.2)
      have HA3 := Lib.hid HS3.out.1
      have hs3 : wr.heap.size ≤ W3.heap.size := HS3.out.2.size
      obtain ⟨cur, hcur, hcs, _⟩ := HT3.out.rows k hlt
      have hcp := fun ty dc sc => run_copy_vec W3.drew ty (w.heap.size + 1 + k) wr.heap.size n dc sc v cur hcur hcs hn HA3.out
      have hrow : W3.drew.cell? ⟨w.heap.size, k, none⟩ = some (.slice (some ⟨w.heap.size + 1 + k, 0, none⟩) n n) := HT3.out.top.cell hlt
      have HWR := Lib.hid (HT3.out.write hlt v)
      obtain ⟨W4, hW4⟩ : ∃ W4, W4 = W3.drew.setRow (w.heap.size + 1 + k) ((toL n v).map (Value.int .i64)).toArray := ⟨_, rfl⟩
      rw [← hW4] at hcp
      have HT4 : Hid (TabI W4 w.heap.size L.length n (fun j i => if j < k + 1 then (L.getD j Lin.zv) i else 0)) := Lib.hid (by
        rw [hW4]
        refine ⟨HWR.out.top, fun j hj => (HWR.out.rows j hj).congr (fun i _ => ?_)⟩
        by_cases e : j = k
        · subst e
          rw [if_pos rfl, if_pos (Nat.lt_succ_self _), HVE.out]
        · rw [if_neg e]
          by_cases h2 : j < k
          · rw [if_pos h2, if_pos (by omega)]
          · rw [if_neg h2, if_neg (by omega)])
      have HB4 : Hid (Below w.heap.size w W4) := Lib.hid (by rw [hW4]; exact below_setRow HB3.out.drew (by omega) _)
      have hsl := hsliceV wr.heap.size n hn
      have HS4 : Hid (w1.heap.size ≤ W4.heap.size) := Lib.hid (by rw [hW4]; simp; omega)
      clear hcur hcs hW4 HWR HA3 HS3 HB3 HT3 HB HS HT HVE
      simp only [Act.put]
      go_region_law (refine step_copy_run rfl _ _ 22 22 rfl _ _ (by simp [Act.eval]) (by simp [Act.eval]) (hcp _ _ _) ?_)
      clear hrow hcp hsl
      go_wp2
      go_roundw
      case rel => exact ⟨k + 1, by omega, by go_num, HB4, HS4, HT4⟩
      case measure => simp [intOf]; omega
    · have hkk : Hid (k = L.length) := Lib.hid (by omega)
      go_wp2
      go_ret
      refine ⟨_, rfl, Or.inr ⟨w.heap.size, L.length, n, fun j i => (L.getD j Lin.zv) i, Nat.le_refl _, by have := HS.out; omega, hl, by omega, rfl, ?_, HT.out.tab.congr (fun j hj => ?_)⟩, HB.out⟩
      · refine List.ext_getElem (by simp [tableOf]) fun j h1 h2 => ?_
        have hj : j < L.length := by simpa using h1
        simp only [tableOf, List.getElem_map, List.getElem_range, getD_of_lt Lin.zv hj]
        rfl
      · simp only [rowZ, if_pos (show j < k by have := hkk.out; omega)]
end Go.Proofs.Ytpdkfidmmjlmnab
