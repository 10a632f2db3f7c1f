/-
  Rows of the first numbers of vectors: impl.rowsOf by its contract.
-/
import Derived.Test.YtlbalcckjokeiaaRow
import Derived.Test.YtlbalcckjokeiaaHeld
namespace Go.Proofs.Ytlbalcckjokeiaa
open Go.RowKit

/-- A table in blocks of its own, block for block. -/
structure TabI (W : World) (g r c : Nat) (Z : Nat → Nat → Int) : Prop where
  top : W.rowIs g 31 r (fun j => .slice (some ⟨g + 1 + j, 0, none⟩) c c)
  rows : ∀ j, j < r → W.rowIs (g + 1 + j) 2 c (fun i => .int .i64 (Z j i))
theorem Mat.tabI {w w' : World} {r c : Nat} {Z : Nat → Nat → Int} (h : Mat w w' r c Z) : TabI w' w.heap.size r c Z := ⟨h.top, h.rows⟩
theorem rowIs_below {W W' : World} {b : Nat} {t : TypeId} {n : Nat} {f : Nat → Value} (h : W.rowIs b t n f) (hb : Below W.heap.size W W') : W'.rowIs b t n f := h.of_block (hb.block b h.lt)
theorem TabI.below {W W' : World} {g r c : Nat} {Z : Nat → Nat → Int} (h : TabI W g r c Z) (hb : Below W.heap.size W W') : TabI W' g r c Z :=
  ⟨rowIs_below h.top hb, fun j hj => rowIs_below (h.rows j hj) hb⟩
theorem TabI.tab {W : World} {g r c : Nat} {Z : Nat → Nat → Int} (h : TabI W g r c Z) : TabW W g r c Z := by
  refine ⟨fun j hj => h.top.cell hj, fun j hj => ?_⟩
  by_cases hc : c = 0
  · subst hc
    exact Or.inl ⟨rfl, _, _, rfl⟩
  · refine Or.inr ⟨g + 1 + j, 0, c, by rw [rowZ_length], Nat.le_refl _, by omega, by rw [rowZ_length]; omega, fun i hi => ?_, fun i _ => (h.rows j hj).frozen _⟩
    have hi' : i < c := by rwa [rowZ_length] at hi
    refine ⟨_, by rw [Nat.zero_add]; exact (h.rows j hj).cell hi', ?_⟩
    simp only [IsI, rowZ, List.getElem_map, List.getElem_range]
/-- Row k is written anew, whole. -/
theorem TabI.write {W : World} {g r c k : Nat} {Z : Nat → Nat → Int} (h : TabI W g r c Z) (hk : k < r) (v : Lin.V) :
    TabI (W.setRow (g + 1 + k) ((toL c v).map (Value.int .i64)).toArray) g r c (fun j i => if j = k then v i else Z j i) := by
  obtain ⟨cur, hcur, hcs, _⟩ := h.rows k hk
  refine ⟨h.top.of_block (setRow_other _ _ _ _ (by omega)), fun j hj => ?_⟩
  by_cases e : j = k
  · subst e
    refine ⟨_, setRow_heap _ _ _ _ _ _ hcur, by simp [toL_length], fun i hi => ?_⟩
    simp [toL, hi]
  · exact ((h.rows j hj).of_block (setRow_other _ _ _ _ (by omega))).congr (fun i _ => by rw [if_neg e])
theorem below_setRow' {B : Nat} {w W : World} {b : Nat} (h : Below B w W) (hB : B ≤ b) (C : Array Value) : Below B w (W.setRow b C) := below_setRow h hB C

def RowsR (R : List (List Int)) (w : World) (e : Ending) (w' : World) : Prop := ∃ u, e = .returned u ∧ TW w.heap.size w'.heap.size w' u R ∧ Below w.heap.size w w'

/-- copy of the first numbers of a vector into a row. -/
theorem run_copy_vec (w : World) (ty : TypeId) (g vb n dCap sCap : Nat) (v : Lin.V) (cur : Array Value) (hg : w.heap[g]? = some (.cells cur 2 (0, 0))) (hc : cur.size = n) (hn : n ≤ 40) (hv : At w vb 0 v) :
    (Builtin.copy_ #[31, 31] ty #[.slice (some ⟨g, 0, none⟩) n dCap, .slice (some ⟨vb, 0, none⟩) n sCap]).run Try.prog w = .ok (goInt (n : Int)) (w.setRow g ((toL n v).map (Value.int .i64)).toArray) := by
  have hl : ((toL n v).map (Value.int .i64)).length = n := by rw [List.length_map, toL_length]
  have h := run_copy_row (P := Try.prog) w 31 31 ty 2 g 0 n dCap ⟨vb, 0, none⟩ n sCap cur 2 ((toL n v).map (Value.int .i64)) Try.underlying31 Try.infoI1 hg
    (by rw [hl]; simp) (fun j u hj => by
      have hj' : j < n := by rw [← hl]; exact (List.getElem?_eq_some_iff.1 hj).1
      rw [Addr.add_mid, hv.cell (k := j) (by omega)]
      simp [toL, hj'] at hj
      rw [← hj]) (by rw [hl]; omega) (fun u hu => by
      obtain ⟨x, _, rfl⟩ := List.mem_map.1 hu
      rfl)
  rw [hl] at h
  have e : cur.toList.take 0 ++ (toL n v).map (Value.int .i64) ++ cur.toList.drop (0 + n) = (toL n v).map (Value.int .i64) := by
    rw [List.take_zero, List.nil_append, List.drop_of_length_le (by simp [hc]), List.append_nil]
  rw [e] at h
  exact h
theorem hsliceV (b n : Nat) (hn : n ≤ 40) (w : World) : (Instr.sliceAt 107 (.pointer (some ⟨b, 0, none⟩)) none (some (.int .i64 n)) none).run Try.prog w = .ok (.slice (some ⟨b, 0, none⟩) n 40) w := by
  have hu : Try.prog.underlying 107 = some (.array (Try.prog.arrayLen 107) (Try.prog.elem 107)) := by kernel_rfl
  have hal : Try.prog.arrayLen 107 = 40 := by kernel_rfl
  have hel : Try.prog.elem 107 = 2 := by kernel_rfl
  obtain ⟨i, hi, _, hs, _⟩ := info_parts Try.infoI
  rw [run_sliceAt_array_h w 107 ⟨b, 0, none⟩ hu .i64 n (by omega) (by rw [hal]; omega), hal, hel]
  simp [sizeOf, typeInfo, hi, hs, slicedAt, Result.andThen, Addr.add]

set_option maxHeartbeats 3200000 in
set_option maxRecDepth 100000 in
theorem rowsOf_any (n : Nat) (s : Value) (L : List Lin.V) (w : World) (hs : Vs 0 w s L) (hn : n ≤ 40) (hl : L.length ≤ 1048576) :
    Calls Try.prog 62 #[s, .int .i64 n] w (RowsR (L.map (toL n)) w) := by
  have HVS0 := Lib.hid hs
  obtain ⟨ads, caps, rfl⟩ := Vs.shape hs
  clear hs
  go_enter Try.func62, Try.ntmps62
  go_wp2_with fail
  refine (zeroTable_any L.length n _ hl (by omega)).mono ?_
  rintro e w1 ⟨rfl, hm⟩
  have HT1 := Lib.hid hm.tabI
  have HB1 := Lib.hid hm.below
  have hg1 : w.heap.size + 1 + L.length = w1.heap.size := hm.size.symm
  clear hm
  go_wp2
  go_loopw [6, 7, 14] (fun _ _ i wr => ∃ (k : Nat), k ≤ L.length ∧ i = .int .i64 k ∧ Hid (Below w.heap.size w wr) ∧ Hid (w1.heap.size ≤ wr.heap.size) ∧ Hid (TabI wr w.heap.size L.length n (fun j i => if j < k then (L.getD j Lin.zv) i else 0))) (fun _ _ i _ => L.length - (intOf i).toNat)
  case atStart => exact ⟨0, Nat.zero_le _, rfl, HB1, Lib.hid (Nat.le_refl _), Lib.hid (by simpa using HT1.out)⟩
  case round =>
    clear HT1 HB1
    obtain ⟨k, hk, rfl, HB, HS, HT⟩ := hrel
    by_cases hlt : k < L.length
    · refine Vs.cases (HVS0.out.below HB.out) (fun _ _ hx _ => absurd hlt (by simp [hx])) (fun b o cap2 hv _ _ hc => ?_)
      obtain ⟨rfl, rfl⟩ : ads = some ⟨b, o, none⟩ ∧ caps = cap2 := by simpa using hv
      obtain ⟨v, hve⟩ : ∃ v, v = L[k] := ⟨_, rfl⟩
      have HVA : Hid (At wr b (o + k * 40) v) := Lib.hid (by rw [hve]; exact hc k hlt)
      have HI := Lib.hid (Try.infoVl v)
      have HI2 : Hid ((Try.prog.info? 107).map (·.size) = some (vl v).toArray.size) := Lib.hid (by have := HI.out; simpa using this)
      have HVE : Hid (L.getD k Lin.zv = v) := Lib.hid (by rw [getD_of_lt _ hlt, hve])
      have hsz : w1.heap.size ≤ wr.heap.size := HS.out
      clear hv hc hve
      go_upto_region 5 with (first | (with_reducible refine wpList_load_mid rfl 107 (.tmp 17) rfl b (o + k * 40) rfl (vl v) _ HVA.out.range Try.underlyingV rfl HI.out ?_) | (with_reducible refine wpList_allocV rfl (some 7) rfl rfl ?_; intro W2 hn2; have HN2 := Lib.hid hn2; have HT2 : Hid (W2.there wr.heap.size 0 (vl v).toArray.size) := (Lib.hid (by have := hn2.there; simpa [vl_length] using this)); clear hn2) | (with_reducible refine wpList_store_mid rfl 107 (.tmp 7) (.tmp 18) rfl wr.heap.size 0 (vl v).toArray rfl rfl HT2.out HI2.out (vl_all v) ?_))
      refine forget_wp (fun W => Hid (At W wr.heap.size 0 v ∧ Below wr.heap.size wr W)) (Lib.hid ?_) ?_
      · have hp2 := HN2.out.put v
        exact ⟨hp2.2.1, hp2.1⟩
      intro W3 HS3
      clear HN2 HT2 HI2 HVA HI
      have HB3 := Lib.hid (HB.out.trans (HS3.out.2.mono (by omega)))
      have HT3 := Lib.hid (HT.out.below HS3.out.2)
      have HA3 := Lib.hid HS3.out.1
      have hs3 : wr.heap.size ≤ W3.heap.size := HS3.out.2.size
      obtain ⟨cur, hcur, hcs, _⟩ := HT3.out.rows k hlt
      have hcp := fun ty dc sc => run_copy_vec W3.drew ty (w.heap.size + 1 + k) wr.heap.size n dc sc v cur hcur hcs hn HA3.out
      have hrow : W3.drew.cell? ⟨w.heap.size, k, none⟩ = some (.slice (some ⟨w.heap.size + 1 + k, 0, none⟩) n n) := HT3.out.top.cell hlt
      have HWR := Lib.hid (HT3.out.write hlt v)
      obtain ⟨W4, hW4⟩ : ∃ W4, W4 = W3.drew.setRow (w.heap.size + 1 + k) ((toL n v).map (Value.int .i64)).toArray := ⟨_, rfl⟩
      rw [← hW4] at hcp
      have HT4 : Hid (TabI W4 w.heap.size L.length n (fun j i => if j < k + 1 then (L.getD j Lin.zv) i else 0)) := Lib.hid (by
        rw [hW4]
        refine ⟨HWR.out.top, fun j hj => (HWR.out.rows j hj).congr (fun i _ => ?_)⟩
        by_cases e : j = k
        · subst e
          rw [if_pos rfl, if_pos (Nat.lt_succ_self _), HVE.out]
        · rw [if_neg e]
          by_cases h2 : j < k
          · rw [if_pos h2, if_pos (by omega)]
          · rw [if_neg h2, if_neg (by omega)])
      have HB4 : Hid (Below w.heap.size w W4) := Lib.hid (by rw [hW4]; exact below_setRow HB3.out.drew (by omega) _)
      have hsl := hsliceV wr.heap.size n hn
      have HS4 : Hid (w1.heap.size ≤ W4.heap.size) := Lib.hid (by rw [hW4]; simp; omega)
      clear hcur hcs hW4 HWR HA3 HS3 HB3 HT3 HB HS HT HVE
      simp only [Act.put]
      go_region_law (refine step_copy_run rfl _ _ 31 31 rfl _ _ (by simp [Act.eval]) (by simp [Act.eval]) (hcp _ _ _) ?_)
      clear hrow hcp hsl
      go_wp2
      go_roundw
      case rel => exact ⟨k + 1, by omega, by go_num, HB4, HS4, HT4⟩
      case measure => simp [intOf]; omega
    · have hkk : Hid (k = L.length) := Lib.hid (by omega)
      go_wp2
      go_ret
      refine ⟨_, rfl, Or.inr ⟨w.heap.size, L.length, n, fun j i => (L.getD j Lin.zv) i, Nat.le_refl _, by have := HS.out; omega, hl, by omega, rfl, ?_, HT.out.tab.congr (fun j hj => ?_)⟩, HB.out⟩
      · refine List.ext_getElem (by simp [tableOf]) fun j h1 h2 => ?_
        have hj : j < L.length := by simpa using h1
        simp only [tableOf, List.getElem_map, List.getElem_range, getD_of_lt Lin.zv hj]
        rfl
      · simp only [rowZ, if_pos (show j < k by have := hkk.out; omega)]
end Go.Proofs.Ytlbalcckjokeiaa
