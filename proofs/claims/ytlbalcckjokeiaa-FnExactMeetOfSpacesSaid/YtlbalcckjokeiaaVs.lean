/-
  Vectors as the program has them, arrays of MaxRows numbers, told by functions on places; impl.leadOf, inverseOf, unitLead, minusMultiple by their contracts.
-/
import Derived.Test.YtlbalcckjokeiaaLinD
import Derived.Test.YtlbalcckjokeiaaVec
import Derived.Test.YtlbalcckjokeiaaSpIs
import Derived.Deep.MidRow
namespace Go.Proofs.Ytlbalcckjokeiaa
open Go.RowKit

/-- The first n numbers. -/
def toL (n : Nat) (v : Lin.V) : List Int := (List.range n).map v
/-- The cells of a vector. -/
def vl (v : Lin.V) : List Value := (toL 40 v).map (Value.int .i64)
def vv (v : Lin.V) : Value := .agg (vl v).toArray
theorem toL_length (n : Nat) (v : Lin.V) : (toL n v).length = n := by simp [toL]
theorem toL_get {n k : Nat} (v : Lin.V) (h : k < (toL n v).length) : (toL n v)[k] = v k := by simp [toL]
theorem vl_length (v : Lin.V) : (vl v).length = 40 := by simp [vl, toL_length]
theorem vl_get (v : Lin.V) {k : Nat} (h : k < 40) : (vl v)[k]? = some (.int .i64 (v k)) := by
  have : k < (toL 40 v).length := by rw [toL_length]; exact h
  simp [vl, this, toL_get]
theorem vl_congr {v w : Lin.V} (h : ∀ i, i < 40 → v i = w i) : vl v = vl w := by
  unfold vl toL
  rw [List.map_congr_left (fun i hi => h i (List.mem_range.1 hi))]
theorem vl_one (v : Lin.V) : ∀ u ∈ vl v, u.oneCell' = true := fun u hu => by
  obtain ⟨x, _, rfl⟩ := List.mem_map.1 hu
  rfl
theorem vl_all (v : Lin.V) : (vl v).toArray.all (·.oneCell') = true := all_oneCell_toArray (vl_one v)
theorem vv_ints (v : Lin.V) : vv v = .agg (ints (toL 40 v)) := rfl
theorem toL_inj {v w : Lin.V} (hv : Lin.Wd 40 v) (hw : Lin.Wd 40 w) (h : toL 40 v = toL 40 w) : v = w := by
  funext i
  by_cases hi : i < 40
  · have h1 : (toL 40 v)[i]? = (toL 40 w)[i]? := by rw [h]
    simpa [toL, hi] using h1
  · rw [hv i (by omega), hw i (by omega)]
/-- Where a vector lies. -/
def At (w : World) (b o : Nat) (v : Lin.V) : Prop := w.rangeAt b o (vl v)
theorem At.range {w : World} {b o : Nat} {v : Lin.V} (h : At w b o v) : w.rangeAt b o (vl v) := h
theorem At.cell {w : World} {b o : Nat} {v : Lin.V} (h : At w b o v) {k : Nat} (hk : k < 40) : w.cell? ⟨b, o + k, none⟩ = some (.int .i64 (v k)) := h k _ (vl_get v hk)
theorem At.lt {w : World} {b o : Nat} {v : Lin.V} (h : At w b o v) : b < w.heap.size := cell_lt (h.cell (k := 0) (by omega))
theorem At.below {w w' : World} {b o B : Nat} {v : Lin.V} (h : At w b o v) (hb : Below B w w') (hB : b < B) : At w' b o v := fun j u hu => by
  rw [hb.cell (p := ⟨b, o + j, none⟩) hB]
  exact h j u hu
theorem At.later {w w' : World} {b o : Nat} {v : Lin.V} (h : At w b o v) (hb : Below w.heap.size w w') : At w' b o v := h.below hb h.lt
theorem at_of_block {w : World} {b : Nat} {v : Lin.V} {t : TypeId} {fr : Nat × Nat} (h : w.heap[b]? = some (.cells (vl v).toArray t fr)) : At w b 0 v := fun j u hu => by
  rw [cell_of_row w b (0 + j) _ t fr h]
  simpa using hu
theorem at_alloc (w : World) (v : Lin.V) (t : TypeId) : At (w.alloc (.cells (vl v).toArray t)) w.heap.size 0 v := at_of_block (heap_alloc_new w _)

theorem run_index_vv {P : Program} {t e : TypeId} {n : Nat} (ht : P.underlying t = some (.array 40 e)) (he : P.underlying e = some (.int .i64)) (hz : (P.info? e).map (·.size) = some n) (hn : n = 1) (v : Lin.V) {k : Nat} (hk : k < 40) (w : World) :
    (Instr.index t (.agg (vl v).toArray) (.int .i64 k)).run P w = .ok (.int .i64 (v k)) w := by
  obtain ⟨inf, hi, hs⟩ := Option.map_eq_some_iff.1 hz
  subst hn
  have hsz : (sizeOf e).run P w = .ok 1 w := by simp [sizeOf, typeInfo, hi, hs]
  have hp := run_part_int w he (vl v).toArray k (.int .i64 (v k)) (by simpa using vl_get v hk)
  have h2 : (0 : Int) ≤ (k : Int) ∧ (k : Int) < ((40 : Nat) : Int) := ⟨by omega, by omega⟩
  simp only [Instr.index, asIntOf, Sem.run_bind, Sem.run_pure, Result.andThen_ok, run_underlying ht, if_pos h2, hsz, Int.toNat_natCast, Nat.mul_one, hp]

theorem hidx (v : Lin.V) {k : Nat} (hk : k < 40) : ∀ w, (Instr.index 107 (.agg (vl v).toArray) (.int .i64 k)).run Try.prog w = .ok (.int .i64 (v k)) w :=
  fun w => run_index_vv Try.underlyingV Try.underlying2 Try.infoI1 rfl v hk w

theorem ld_lt {v : Lin.V} (hw : Lin.Wd 40 v) (hne : v ≠ Lin.zv) : Lin.ld v < 40 ∧ v (Lin.ld v) ≠ 0 ∧ ∀ j, j < Lin.ld v → v j = 0 := by
  obtain ⟨i, hi⟩ := Lin.ne_zv hne
  obtain ⟨h1, h2⟩ := Lin.ld_spec hi
  exact ⟨Classical.byContradiction fun hn => h1 (hw _ (by omega)), h1, h2⟩

theorem Try.infoVl (v : Lin.V) : (Try.prog.info? 107).map (·.size) = some (vl v).length := by rw [vl_length]; exact Try.infoV

set_option maxHeartbeats 800000 in
set_option maxRecDepth 100000 in
theorem leadOf_any (v : Lin.V) (w : World) (hw : Lin.Wd 40 v) (hne : v ≠ Lin.zv) : Calls Try.prog 118 #[vv v] w (BR (.int .i64 (Lin.ld v)) w) := by
  obtain ⟨h1, h2, h3⟩ := ld_lt hw hne
  have H3 := Lib.hid h3
  obtain ⟨d, hd⟩ : ∃ d, d = Lin.ld v := ⟨_, rfl⟩
  rw [← hd] at h1 h2 H3 ⊢
  have HD := Lib.hid hd
  have HAT := Lib.hid (at_alloc w v 107)
  have HB := Lib.hid (below_alloc1 w (.cells (vl v).toArray 107))
  have HI := Lib.hid (Try.infoVl v)
  clear h3 hd hw hne
  unfold vv
  go_enter Try.func118, Try.ntmps118
  go_wp2_with (with_reducible refine wpList_load_mid rfl 107 (.tmp 1) rfl w.heap.size 0 rfl (vl v) _ HAT.out.range Try.underlyingV rfl HI.out ?_)
  go_loop [6] (fun i => ∃ k : Nat, k ≤ d ∧ i = .int .i64 k) (fun i => d + 1 - (intOf i).toNat)
  case atStart => exact ⟨0, Nat.zero_le _, rfl⟩
  case round =>
    obtain ⟨k, hk, rfl⟩ := hrel
    have hk40 : k < 40 := by omega
    have hix := hidx v hk40
    obtain ⟨x, hx⟩ : ∃ x, x = v k := ⟨_, rfl⟩
    rw [← hx] at hix
    by_cases hlt : k < d
    · have hx0 : (x != 0) = false := by rw [hx, H3.out k hlt]; rfl
      have HX := Lib.hid hx
      clear hx
      go_wp2
      go_round
      case rel => exact ⟨k + 1, by omega, by go_num⟩
      case measure => simp [intOf]; omega
    · have hkd : k = d := by omega
      have hx0 : (x != 0) = true := by rw [hx, hkd]; simp [h2]
      have HX := Lib.hid hx
      have HKD := Lib.hid hkd
      clear hx hkd
      go_wp2
      go_ret
      exact ⟨ret_int (by rw [HKD.out]), HB.out⟩
end Go.Proofs.Ytlbalcckjokeiaa
