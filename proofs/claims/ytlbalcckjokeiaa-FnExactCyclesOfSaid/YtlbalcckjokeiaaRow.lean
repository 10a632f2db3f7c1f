/-
  Rows of numbers and vectors: impl.vectorsOf, rowsOf by their contracts.
-/
import Derived.Test.YtlbalcckjokeiaaRed
import Derived.Test.YtlbalcckjokeiaaMat
import Derived.OwnWalk
namespace Go.Proofs.Ytlbalcckjokeiaa
open Go.RowKit

/-- A row as a vector. -/
def ofL (xs : List Int) : Lin.V := fun i => xs.getD i 0
theorem ofL_at {xs : List Int} {i : Nat} (h : i < xs.length) : ofL xs i = xs[i] := getD_of_lt _ h
theorem ofL_wd {xs : List Int} {n : Nat} (h : xs.length ≤ n) : Lin.Wd n (ofL xs) := fun i hi => by simp [ofL, List.getD, show xs.length ≤ i by omega]
theorem toL_ofL {xs : List Int} {n : Nat} (h : xs.length = n) : toL n (ofL xs) = xs := by
  subst h
  refine List.ext_getElem (toL_length _ _) fun i h1 h2 => ?_
  rw [toL_get _ h1, ofL_at h2]
theorem ofL_toL {v : Lin.V} {n : Nat} (h : Lin.Wd n v) : ofL (toL n v) = v := by
  funext i
  by_cases hi : i < n
  · rw [ofL_at (by rw [toL_length]; exact hi), toL_get]
  · rw [h i (by omega)]
    simp [ofL, List.getD, show (toL n v).length ≤ i by rw [toL_length]; omega]
theorem ofL_md {p n : Int} {xs : List Int} (hp : 0 < p) (h : RowOk p n xs) : Lin.Md p (ofL xs) := fun i => by
  by_cases hi : i < xs.length
  · rw [ofL_at hi]
    have := h.2 _ (List.getElem_mem hi)
    omega
  · have : ofL xs i = 0 := by simp [ofL, List.getD, show xs.length ≤ i by omega]
    omega
theorem pad_toL {xs : List Int} (h : xs.length ≤ 40) : pad xs = toL 40 (ofL xs) := by
  refine List.ext_getElem (by rw [pad_length h, toL_length]) fun i h1 h2 => ?_
  rw [toL_get]
  by_cases hi : i < xs.length
  · rw [ofL_at hi]
    simp only [pad]
    rw [List.getElem_append_left hi]
  · have : ofL xs i = 0 := by simp [ofL, List.getD, show xs.length ≤ i by omega]
    rw [this]
    simp only [pad]
    rw [List.getElem_append_right (by omega)]
    simp
theorem ints_ofL {xs : List Int} (h : xs.length ≤ 40) : ints (pad xs) = (vl (ofL xs)).toArray := by rw [pad_toL h]; rfl

theorem cellsOf_zeros (n : Nat) : (madeCells (Value.agg zl.toArray).cells (n * 40)).toList = cellsOf (List.replicate n Lin.zv) := by
  have hz : ∀ x ∈ cellsOf (List.replicate n Lin.zv), x = .int .i64 0 := fun x hx => by
    obtain ⟨v, hv, h⟩ := List.mem_flatMap.1 hx
    obtain rfl := List.eq_of_mem_replicate hv
    obtain ⟨y, hy, rfl⟩ := List.mem_map.1 h
    obtain ⟨i, _, rfl⟩ := List.mem_map.1 hy
    rfl
  have h1 : cellsOf (List.replicate n Lin.zv) = List.replicate (n * 40) (.int .i64 0) := List.eq_replicate_iff.2 ⟨by rw [cellsOf_length, List.length_replicate], hz⟩
  rw [h1]
  refine List.eq_replicate_iff.2 ⟨by simp [madeCells], fun x hx => ?_⟩
  simp only [madeCells, Array.toList_map, List.mem_map] at hx
  obtain ⟨i, _, rfl⟩ := hx
  have hzs : (Value.agg zl.toArray).cells = zl.toArray := rfl
  rw [hzs]
  have e : zl.toArray.size = 40 := by simp [zl_length]
  have : i % zl.toArray.size < zl.toArray.size := Nat.mod_lt _ (by omega)
  rw [getElem!_pos zl.toArray (i % zl.toArray.size) this]
  exact List.eq_of_mem_replicate (n := 40) (List.mem_toArray.1 (Array.getElem_mem this))
theorem wpList_makeV {ops : Array Oper} {rest : List Oper} {o : Oper} {a : Act} {w : World} {Q : Exit → Act → World → Prop} (hg : o.guard = none) (dst : Option Tmp) (hdst : o.dst = dst) (x : Operand) (ho : o.op = .makeSlice 69 x x) (n : Nat) (hx : a.eval x = .int .i64 (n : Int)) (hn : n ≤ 1048576)
    (h : ∀ W, Ox w.heap.size W w.heap.size n (List.replicate n Lin.zv) → Below w.heap.size w W → wpList Try.prog ops Q rest (a.put dst (.slice (some ⟨w.heap.size, 0, none⟩) n n)) W) : wpList Try.prog ops Q (o :: rest) a w := by
  obtain ⟨i0, hi, hz0, hz1, hz2⟩ := info_parts Try.infoVz
  subst hdst
  refine wpList_make_full w hg x x 69 ho w.heap.size 107 i0 (.agg zl.toArray) 40 Try.underlyingSV hi hz0 hz1 .i64 .i64 n n n hx hx rfl rfl (by rw [hz2]; omega) (by unfold maxLen; omega) (Nat.le_refl _) (fun W h1 h2 => h W ⟨Nat.le_refl _, ?_⟩ ?_)
  · unfold Ow
    rw [cellsOf_zeros] at h1
    rw [List.length_replicate]
    exact h1
  · exact ⟨h2.os, h2.tape, h2.output, h2.size, fun k hk => h2.block k hk (by simp)⟩

/-- The vectors, the first k of them filled. -/
def filled (L : List Lin.V) (k : Nat) : List Lin.V := L.take k ++ List.replicate (L.length - k) Lin.zv
theorem filled_length (L : List Lin.V) (k : Nat) : (filled L k).length = L.length := by simp [filled]; omega
theorem filled_set {L : List Lin.V} {k : Nat} (hk : k < L.length) : (filled L k).set k L[k] = filled L (k + 1) := by
  have hl : (L.take k).length = k := by simp; omega
  unfold filled
  rw [List.set_append_right _ _ (by omega), hl, Nat.sub_self, show L.length - k = (L.length - (k + 1)) + 1 by omega, List.replicate_succ, List.set_cons_zero, List.take_succ_eq_append_getElem hk, List.append_assoc]
  rfl

set_option maxHeartbeats 1600000 in
set_option maxRecDepth 100000 in
theorem vectorsOf_any (v : Value) (xs : List (List Int)) (w : World) (h : L2 0 w v xs) (hl : xs.length ≤ 1048576) (hm : ∀ r ∈ xs, r.length ≤ 40) :
    Calls Try.prog 64 #[v] w (VsR (fun M => M = xs.map ofL) w) := by
  have HM := Lib.hid hm
  have H := Lib.hid h
  obtain ⟨ad, cap, rfl⟩ := Sl.shape h
  clear hm h
  obtain ⟨TS, hT⟩ : ∃ TS, TS = xs.map ofL := ⟨_, rfl⟩
  have HT := Lib.hid hT
  have HTL : Hid (TS.length = xs.length) := Lib.hid (by rw [hT, List.length_map])
  clear hT
  go_enter Try.func64, Try.ntmps64
  go_wp2_with (with_reducible refine wpList_makeV rfl (some 8) rfl (.tmp 7) rfl xs.length rfl hl ?_; intro W1 hw1 hb1; have HX1 := Lib.hid hw1; have HB1 := Lib.hid hb1; clear hw1 hb1)
  go_loopw [4, 5, 11] (fun _ _ i wr => ∃ (k : Nat), k ≤ xs.length ∧ i = .int .i64 k ∧ Hid (Below w.heap.size w wr) ∧ Hid (Ox w.heap.size wr w.heap.size xs.length (filled TS k))) (fun _ _ i _ => xs.length - (intOf i).toNat)
  case atStart => exact ⟨0, Nat.zero_le _, rfl, HB1, Lib.hid (by have := HX1.out; rw [filled, List.take_zero, HTL.out, Nat.sub_zero]; exact this)⟩
  case round =>
    clear HX1 HB1
    obtain ⟨k, hk, rfl, HB, HX⟩ := hrel
    by_cases hlt : k < xs.length
    · refine Sl.cases H.out (fun _ _ hx _ => absurd hlt (by simp [hx])) (fun b o cap2 hv _ _ hc => ?_)
      obtain ⟨rfl, rfl⟩ : ad = some ⟨b, o, none⟩ ∧ cap = cap2 := by simpa using hv
      obtain ⟨u, hu, hr⟩ := hc k hlt
      have hu2 := later HB.out (Nat.le_refl _) hu
      have HR := Lib.hid (hr.below HB.out)
      have hrl := HM.out _ (List.getElem_mem hlt)
      obtain ⟨r, hre⟩ : ∃ r, r = xs[k] := ⟨_, rfl⟩
      rw [← hre] at HR hrl
      have HTK : Hid (TS[k]'(by rw [HTL.out]; exact hlt) = ofL r) := Lib.hid (by simp only [HT.out, List.getElem_map, hre])
      clear hv hc hu hr hre
      go_wp2_with fail
      refine (vectorOf_any u r _ HR.out hrl).mono ?_
      rw [ints_ofL hrl]
      rintro e W2 ⟨rfl, hb2⟩
      have hkT : k < TS.length := by rw [HTL.out]; exact hlt
      have HP := Lib.hid ((HX.out.below hb2).put (k := k) (by rw [filled_length]; exact hkT) (ofL r))
      have HPX : Hid (Ox w.heap.size (W2.setCells w.heap.size (k * 40) (vl (ofL r))) w.heap.size xs.length (filled TS (k + 1))) := Lib.hid (by
        have e : (filled TS k).set k (ofL r) = filled TS (k + 1) := by
          rw [← HTK.out]
          exact filled_set hkT
        have h2 := HP.out.1
        rw [e] at h2
        exact h2)
      have HB2 : Hid (Below w.heap.size w (W2.setCells w.heap.size (k * 40) (vl (ofL r)))) := Lib.hid (below_setCells _ (Nat.le_refl _) _ _ _ (HB.out.trans (hb2.mono HB.out.size)))
      have HI := Lib.hid (Try.infoVl (ofL r))
      have HI2 : Hid ((Try.prog.info? 107).map (·.size) = some (vl (ofL r)).toArray.size) := Lib.hid (by have := HI.out; simpa using this)
      have HTH : Hid (W2.there w.heap.size (k * 40) (vl (ofL r)).toArray.size) := Lib.hid (by have := HP.out.2; simpa [vl_length] using this)
      clear hb2 HX HR
      go_wp2_with (with_reducible refine wpList_store_mid rfl 107 (.tmp 20) (.tmp 19) rfl w.heap.size (k * 40) (vl (ofL r)).toArray rfl rfl HTH.out HI2.out (vl_all _) ?_)
      go_roundw
      case rel => exact ⟨k + 1, by omega, by go_num, HB2, HPX⟩
      case measure => simp [intOf]; omega
    · have hkk : Hid (filled TS k = TS) := Lib.hid (by rw [filled, List.take_of_length_le (by rw [HTL.out]; omega), HTL.out, show xs.length - k = 0 by omega]; simp)
      go_wp2
      go_ret
      refine ⟨_, TS, rfl, HB.out, ?_, HT.out⟩
      have := HX.out.own
      rw [hkk.out, HTL.out] at this
      exact this
end Go.Proofs.Ytlbalcckjokeiaa
