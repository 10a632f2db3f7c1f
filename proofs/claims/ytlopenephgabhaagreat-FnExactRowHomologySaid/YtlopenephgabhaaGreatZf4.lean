/-
  Texts that ProofRhl needs, part 4.
-/
import Derived.Test.YtlopenephgabhaaGreatZf3
import Derived.Deep.MidRow
import Derived.Deep.Cut
import Derived.Deep.CutRange
import Derived.Outline
import Derived.Great.Walk
import Derived.WideKeyArr
import Derived.Maps.OwnOps
import Derived.Maps.OwnSet
import Derived.Carry
import Derived.Great.BuildSlice
import Derived.Laws.CopyRow
import Derived.Lib.Overlaps
import Derived.Lib.AppendZerosOnto
import Derived.Lib.JoinLaws
import Derived.Deep.RegionLaw
import Derived.Deep.LoopGhost
import Derived.WalkMore
import Derived.OwnWalk
import Derived.Laws.AppendOwn
import Derived.Deep.AppendLies
import Derived.Lib.AppendZeros
import Derived.Deep.QuietTactic
import Derived.BigQuiet
namespace Go.Proofs.YtlopenephgabhaaGreat
open Go.RowKit

/-- The first n numbers. -/
def toL (n : Nat) (v : Lin.V) : List Int := (List.range n).map v
/-- The cells of a vector. -/
def vl (v : Lin.V) : List Value := (toL 40 v).map (Value.int .i64)
def vv (v : Lin.V) : Value := .agg (vl v).toArray
theorem toL_length (n : Nat) (v : Lin.V) : (toL n v).length = n := by simp [toL]
theorem toL_get {n k : Nat} (v : Lin.V) (h : k < (toL n v).length) : (toL n v)[k] = v k := by simp [toL]
theorem vl_length (v : Lin.V) : (vl v).length = 40 := by simp [vl, toL_length]
theorem vl_get (v : Lin.V) {k : Nat} (h : k < 40) : (vl v)[k]? = some (.int .i64 (v k)) := by
  have : k < (toL 40 v).length := by rw [toL_length]; exact h
  simp [vl, this, toL_get]
theorem vl_congr {v w : Lin.V} (h : ∀ i, i < 40 → v i = w i) : vl v = vl w := by
  unfold vl toL
  rw [List.map_congr_left (fun i hi => h i (List.mem_range.1 hi))]
theorem vl_one (v : Lin.V) : ∀ u ∈ vl v, u.oneCell' = true := fun u hu => by
  obtain ⟨x, _, rfl⟩ := List.mem_map.1 hu
  rfl
theorem vl_all (v : Lin.V) : (vl v).toArray.all (·.oneCell') = true := all_oneCell_toArray (vl_one v)
theorem toL_inj {v w : Lin.V} (hv : Lin.Wd 40 v) (hw : Lin.Wd 40 w) (h : toL 40 v = toL 40 w) : v = w := by
  funext i
  by_cases hi : i < 40
  · have h1 : (toL 40 v)[i]? = (toL 40 w)[i]? := by rw [h]
    simpa [toL, hi] using h1
  · rw [hv i (by omega), hw i (by omega)]
/-- Where a vector lies. -/
def At (w : World) (b o : Nat) (v : Lin.V) : Prop := w.rangeAt b o (vl v)
theorem At.range {w : World} {b o : Nat} {v : Lin.V} (h : At w b o v) : w.rangeAt b o (vl v) := h
theorem At.cell {w : World} {b o : Nat} {v : Lin.V} (h : At w b o v) {k : Nat} (hk : k < 40) : w.cell? ⟨b, o + k, none⟩ = some (.int .i64 (v k)) := h k _ (vl_get v hk)
theorem At.lt {w : World} {b o : Nat} {v : Lin.V} (h : At w b o v) : b < w.heap.size := cell_lt (h.cell (k := 0) (by omega))
theorem At.below {w w' : World} {b o B : Nat} {v : Lin.V} (h : At w b o v) (hb : Below B w w') (hB : b < B) : At w' b o v := fun j u hu => by
  rw [hb.cell (p := ⟨b, o + j, none⟩) hB]
  exact h j u hu
theorem At.later {w w' : World} {b o : Nat} {v : Lin.V} (h : At w b o v) (hb : Below w.heap.size w w') : At w' b o v := h.below hb h.lt
theorem at_of_block {w : World} {b : Nat} {v : Lin.V} {t : TypeId} {fr : Nat × Nat} (h : w.heap[b]? = some (.cells (vl v).toArray t fr)) : At w b 0 v := fun j u hu => by
  rw [cell_of_row w b (0 + j) _ t fr h]
  simpa using hu
theorem at_alloc (w : World) (v : Lin.V) (t : TypeId) : At (w.alloc (.cells (vl v).toArray t)) w.heap.size 0 v := at_of_block (heap_alloc_new w _)

theorem run_index_vv {P : Program} {t e : TypeId} {n : Nat} (ht : P.underlying t = some (.array 40 e)) (he : P.underlying e = some (.int .i64)) (hz : (P.info? e).map (·.size) = some n) (hn : n = 1) (v : Lin.V) {k : Nat} (hk : k < 40) (w : World) :
    (Instr.index t (.agg (vl v).toArray) (.int .i64 k)).run P w = .ok (.int .i64 (v k)) w := by
  obtain ⟨inf, hi, hs⟩ := Option.map_eq_some_iff.1 hz
  subst hn
  have hsz : (sizeOf e).run P w = .ok 1 w := by simp [sizeOf, typeInfo, hi, hs]
  have hp := run_part_int w he (vl v).toArray k (.int .i64 (v k)) (by simpa using vl_get v hk)
  have h2 : (0 : Int) ≤ (k : Int) ∧ (k : Int) < ((40 : Nat) : Int) := ⟨by omega, by omega⟩
  simp only [Instr.index, asIntOf, Sem.run_bind, Sem.run_pure, Result.andThen_ok, run_underlying ht, if_pos h2, hsz, Int.toNat_natCast, Nat.mul_one, hp]

theorem hidx (v : Lin.V) {k : Nat} (hk : k < 40) : ∀ w, (Instr.index 91 (.agg (vl v).toArray) (.int .i64 k)).run Tryz.prog w = .ok (.int .i64 (v k)) w :=
  fun w => run_index_vv Tryz.underlyingV Tryz.underlying2 Tryz.infoI1 rfl v hk w

theorem ld_lt {v : Lin.V} (hw : Lin.Wd 40 v) (hne : v ≠ Lin.zv) : Lin.ld v < 40 ∧ v (Lin.ld v) ≠ 0 ∧ ∀ j, j < Lin.ld v → v j = 0 := by
  obtain ⟨i, hi⟩ := Lin.ne_zv hne
  obtain ⟨h1, h2⟩ := Lin.ld_spec hi
  exact ⟨Classical.byContradiction fun hn => h1 (hw _ (by omega)), h1, h2⟩

theorem Tryz.infoVl (v : Lin.V) : (Tryz.prog.info? 91).map (·.size) = some (vl v).length := by rw [vl_length]; exact Tryz.infoV

set_option maxHeartbeats 800000 in
set_option maxRecDepth 100000 in
theorem leadOf_any (v : Lin.V) (w : World) (hw : Lin.Wd 40 v) (hne : v ≠ Lin.zv) : Calls Tryz.prog 99 #[vv v] w (BR (.int .i64 (Lin.ld v)) w) := by
  obtain ⟨h1, h2, h3⟩ := ld_lt hw hne
  have H3 := Lib.hid h3
  obtain ⟨d, hd⟩ : ∃ d, d = Lin.ld v := ⟨_, rfl⟩
  rw [← hd] at h1 h2 H3 ⊢
  have HD := Lib.hid hd
  have HAT := Lib.hid (at_alloc w v 91)
  have HB := Lib.hid (below_alloc1 w (.cells (vl v).toArray 91))
  have HI := Lib.hid (Tryz.infoVl v)
  clear h3 hd hw hne
  unfold vv
  go_enter Tryz.func99, Tryz.ntmps99
  go_wp2_with (with_reducible refine wpList_load_mid rfl 91 (.tmp 1) rfl w.heap.size 0 rfl (vl v) _ HAT.out.range Tryz.underlyingV rfl HI.out ?_)
  go_loop [6] (fun i => ∃ k : Nat, k ≤ d ∧ i = .int .i64 k) (fun i => d + 1 - (intOf i).toNat)
  case atStart => exact ⟨0, Nat.zero_le _, rfl⟩
  case round =>
    obtain ⟨k, hk, rfl⟩ := hrel
    have hk40 : k < 40 := by omega
    have hix := hidx v hk40
    obtain ⟨x, hx⟩ : ∃ x, x = v k := ⟨_, rfl⟩
    rw [← hx] at hix
    by_cases hlt : k < d
    · have hx0 : (x != 0) = false := by rw [hx, H3.out k hlt]; rfl
      have HX := Lib.hid hx
      clear hx
      go_wp2
      go_round
      case rel => exact ⟨k + 1, by omega, by go_num⟩
      case measure => simp [intOf]; omega
    · have hkd : k = d := by omega
      have hx0 : (x != 0) = true := by rw [hx, hkd]; simp [h2]
      have HX := Lib.hid hx
      have HKD := Lib.hid hkd
      clear hx hkd
      go_wp2
      go_ret
      exact ⟨ret_int (by rw [HKD.out]), HB.out⟩
end Go.Proofs.YtlopenephgabhaaGreat

namespace Go.Proofs.YtlopenephgabhaaGreat
open Go.RowKit

theorem inv_ex {p a : Int} (hp : IsP p) (h0 : 0 < a) (h1 : a < p) : ∃ k : Nat, 1 ≤ k ∧ (k : Int) < p ∧ (k : Int) * a % p = 1 := by
  rcases hp with rfl | rfl | rfl | rfl
  · obtain rfl : a = 1 := by omega
    exact ⟨1, by decide⟩
  · have : a = 1 ∨ a = 2 := by omega
    rcases this with rfl | rfl
    · exact ⟨1, by decide⟩
    · exact ⟨2, by decide⟩
  · have : a = 1 ∨ a = 2 ∨ a = 3 ∨ a = 4 := by omega
    rcases this with rfl | rfl | rfl | rfl
    · exact ⟨1, by decide⟩
    · exact ⟨3, by decide⟩
    · exact ⟨2, by decide⟩
    · exact ⟨4, by decide⟩
  · have : a = 1 ∨ a = 2 ∨ a = 3 ∨ a = 4 ∨ a = 5 ∨ a = 6 := by omega
    rcases this with rfl | rfl | rfl | rfl | rfl | rfl
    · exact ⟨1, by decide⟩
    · exact ⟨4, by decide⟩
    · exact ⟨5, by decide⟩
    · exact ⟨2, by decide⟩
    · exact ⟨3, by decide⟩
    · exact ⟨6, by decide⟩
theorem mul_bd {p a b : Int} (hp : IsP p) (ha0 : 0 ≤ a) (ha : a < p) (hb0 : 0 ≤ b) (hb : b ≤ p) : 0 ≤ a * b ∧ a * b ≤ 42 := by
  have hp7 : p ≤ 7 := by rcases hp with rfl | rfl | rfl | rfl <;> decide
  refine ⟨Int.mul_nonneg ha0 hb0, ?_⟩
  have h1 : a * b ≤ 6 * b := Int.mul_le_mul_of_nonneg_right (by omega) hb0
  omega
theorem IsP.lo1 {p : Int} (hp : IsP p) : 1 < p := by rcases hp with rfl | rfl | rfl | rfl <;> decide
theorem IsP.hi7 {p : Int} (hp : IsP p) : p ≤ 7 := by rcases hp with rfl | rfl | rfl | rfl <;> decide

def InvR (p a : Int) (w : World) (e : Ending) (w' : World) : Prop := ∃ k : Nat, e = .returned (.int .i64 (k : Int)) ∧ w = w' ∧ 1 ≤ k ∧ (k : Int) < p ∧ (k : Int) * a % p = 1

set_option maxHeartbeats 400000 in
theorem inverseOf_any (p a : Int) (w : World) (hp : IsP p) (h0 : 0 < a) (h1 : a < p) : Calls Tryz.prog 107 #[.int .i64 p, .int .i64 a] w (InvR p a w) := by
  obtain ⟨d, hd1, hdp, hd⟩ := inv_ex hp h0 h1
  have hp7 := hp.hi7
  have hp1 := hp.lo1
  have HD := Lib.hid hd
  have HP := Lib.hid hp
  clear hd hp
  go_enter Tryz.func107, Tryz.ntmps107
  go_wp2
  go_loop [5] (fun i => ∃ k : Nat, 1 ≤ k ∧ k ≤ d ∧ i = .int .i64 k) (fun i => d + 1 - (intOf i).toNat)
  case atStart => exact ⟨1, Nat.le_refl _, hd1, rfl⟩
  case round =>
    obtain ⟨k, hk1, hk, rfl⟩ := hrel
    obtain ⟨hm0, hm1⟩ := mul_bd HP.out (a := (k : Int)) (b := a) (by omega) (by omega) (by omega) (by omega)
    by_cases hq : (k : Int) * a % p = 1
    · have hx : ((k : Int) * a % p != 1) = false := by rw [hq]; rfl
      have HQ := Lib.hid hq
      clear hq
      go_wp2
      go_ret
      exact ⟨k, rfl, rfl, hk1, by omega, HQ.out⟩
    · have hx : ((k : Int) * a % p != 1) = true := by simp [hq]
      have hkd : k < d := by
        rcases Nat.lt_or_ge k d with h | h
        · exact h
        · have : k = d := by omega
          subst this
          exact absurd HD.out hq
      clear hq
      go_wp2
      go_round
      case rel => exact ⟨k + 1, by omega, by omega, by go_num⟩
      case measure => simp [intOf]; omega

theorem there_new (w : World) (C : Array Value) (t : TypeId) {n : Nat} (h : n ≤ C.size) : (w.alloc (.cells C t)).there w.heap.size 0 n := fun j hj => by
  have hb := heap_alloc_new w (.cells C t)
  constructor
  · rw [cell_of_row _ _ _ _ _ _ hb, Nat.zero_add, Array.getElem?_eq_getElem (by omega)]
    rfl
  · simp
theorem there_set {w : World} {b o n : Nat} (h : w.there b o n) (a : Addr) (u : Value) : (w.setCell a u).there b o n := fun j hj => by
  obtain ⟨h1, h2⟩ := h j hj
  refine ⟨?_, by rw [World.frozen?_setCell]; exact h2⟩
  obtain ⟨x, hx⟩ := Option.isSome_iff_exists.1 h1
  by_cases e : a = ⟨b, o + j, none⟩
  · rw [e, World.cell?_setCell_same _ _ _ hx]; rfl
  · rw [World.cell?_setCell_other _ _ _ _ e, hx]; rfl
theorem there_below {w w' : World} {b o n B : Nat} (h : w.there b o n) (hb : Below B w w') (hB : b < B) : w'.there b o n := fun j hj => by
  rw [hb.cell (p := ⟨b, o + j, none⟩) hB, hb.frozen (p := ⟨b, o + j, none⟩) hB]
  exact h j hj
theorem below_setCells {B : Nat} {w : World} (b : Nat) (hB : B ≤ b) : ∀ (vs : List Value) (o : Nat) (w' : World), Below B w w' → Below B w (w'.setCells b o vs) := by
  intro vs
  induction vs with
  | nil => intro o w' h; exact h
  | cons v vs ih => intro o w' h; exact ih (o + 1) _ (h.setCell hB v)
theorem addr_ne {b o o' : Nat} (h : o ≠ o') : (⟨b, o, none⟩ : Addr) ≠ ⟨b, o', none⟩ := fun e => h (by injection e)
theorem At.set {w : World} {b o : Nat} {v : Lin.V} (h : At w b o v) {k : Nat} (hk : k < 40) (x : Int) : At (w.setCell ⟨b, o + k, none⟩ (.int .i64 x)) b o (fun i => if i = k then x else v i) := fun j u hu => by
  have hj : j < 40 := by have := (List.getElem?_eq_some_iff.1 hu).1; rwa [vl_length] at this
  rw [vl_get _ hj] at hu
  by_cases e : j = k
  · subst e
    rw [World.cell?_setCell_same _ _ _ (h.cell hj)]
    simpa using hu
  · rw [World.cell?_setCell_other _ _ _ _ (addr_ne (by omega)), h.cell hj]
    simpa [e] using hu
theorem At.setOther {w : World} {b o : Nat} {v : Lin.V} (h : At w b o v) {a : Addr} (ha : a.block ≠ b) (u : Value) : At (w.setCell a u) b o v := fun j x hx => by
  rw [World.cell?_setCell_other _ _ _ _ (by intro e; exact ha (by rw [e]))]
  exact h j x hx
theorem At.congr {w : World} {b o : Nat} {v v' : Lin.V} (h : At w b o v) (e : ∀ i, i < 40 → v i = v' i) : At w b o v' := by
  unfold At
  rw [← vl_congr e]
  exact h
theorem at_setCells (w : World) (b o : Nat) (v : Lin.V) (ht : w.there b o 40) : At (w.setCells b o (vl v)) b o v := World.rangeAt_setCells_same w b o (vl v) (by rw [vl_length]; exact ht)
theorem results_cell_at {P : Program} {fn : Func} {p : Tmp} {ty : TypeId} (h : fn.results = #[.cell p ty]) (tmps : Array Value) (w : World) (g : Nat) (v : Lin.V) (d : TypeDesc)
    (hp : tmps.getD p undef = .pointer (some ⟨g, 0, none⟩)) (hg : At w g 0 v) (hu : P.underlying ty = some d) (hd : d.isRow = true) (hi : (P.info? ty).map (·.size) = some (vl v).length) :
    (results fn tmps).run P w = .ok (vv v) w := by
  have hp' : tmps[p]?.getD undef = .pointer (some ⟨g, 0, none⟩) := by simpa using hp
  simp [results, h, hp', asAddr, run_loadVar_mid w g 0 ty (vl v) d hg hu hd hi, vv]

/-- What stands before a piece of code: the world by what is known of it. -/
theorem forget_wp {P : Program} {c : Code} {Q : Exit → Act → World → Prop} {a : Act} {w : World} (S : World → Prop) (h : S w) (k : ∀ W, S W → Code.wp P c Q a W) : Code.wp P c Q a w := k w h
/-- A vector in a box, and a place for a vector. -/
structure Boxed (w W : World) (b g : Nat) (v : Lin.V) : Prop where
  below : Below w.heap.size w W
  lo : w.heap.size ≤ b ∧ w.heap.size ≤ g
  ne : b ≠ g
  at' : At W b 0 v
  there : W.there b 0 40
  res : W.there g 0 40
theorem Boxed.next {w W W' : World} {b g : Nat} {v : Lin.V} (h : Boxed w W b g v) (hb : Below W.heap.size W W') : Boxed w W' b g v := by
  have hg : g < W.heap.size := by
    obtain ⟨x, hx⟩ := Option.isSome_iff_exists.1 (h.res 0 (by omega)).1
    exact cell_lt hx
  exact ⟨h.below.trans (hb.mono h.below.size), h.lo, h.ne, h.at'.later hb, there_below h.there hb h.at'.lt, there_below h.res hb hg⟩
theorem Boxed.set {w W : World} {b g : Nat} {v : Lin.V} (h : Boxed w W b g v) {k : Nat} (hk : k < 40) (x : Int) : Boxed w (W.setCell ⟨b, k, none⟩ (.int .i64 x)) b g (fun i => if i = k then x else v i) := by
  have := h.at'.set hk x
  rw [Nat.zero_add] at this
  exact ⟨h.below.setCell h.lo.1 _, h.lo, h.ne, this, there_set h.there _ _, there_set h.res _ _⟩
theorem Boxed.congr {w W : World} {b g : Nat} {v v' : Lin.V} (h : Boxed w W b g v) (e : ∀ i, i < 40 → v i = v' i) : Boxed w W b g v' := ⟨h.below, h.lo, h.ne, h.at'.congr e, h.there, h.res⟩
theorem boxed_new (w : World) (v : Lin.V) (C : Array Value) (hC : 40 ≤ C.size) (t t' : TypeId) : Boxed w ((w.alloc (.cells (vl v).toArray t)).alloc (.cells C t')) w.heap.size (w.heap.size + 1) v := by
  have h1 := there_new w (vl v).toArray t (n := 40) (by simp [vl_length])
  have h2 := there_new (w.alloc (.cells (vl v).toArray t)) C t' hC
  exact ⟨below_two _ _ _, ⟨Nat.le_refl _, by omega⟩, by omega, (at_alloc w v t).later (below_alloc1 _ _), World.there_alloc h1 _, by simpa using h2⟩

def VR (P : Lin.V → Prop) (w : World) (e : Ending) (w' : World) : Prop := ∃ v, e = .returned (vv v) ∧ Below w.heap.size w w' ∧ P v

set_option maxHeartbeats 1600000 in
set_option maxRecDepth 100000 in
theorem unitLead_any (p : Int) (v : Lin.V) (w : World) (hp : IsP p) (hm : Lin.Md p v) (hw : Lin.Wd 40 v) (hne : v ≠ Lin.zv) : Calls Tryz.prog 101 #[.int .i64 p, vv v] w (VR (fun u => Lin.Unit p v u ∧ Lin.Wd 40 u) w) := by
  obtain ⟨h1, h2, h3⟩ := ld_lt hw hne
  have hres : Tryz.f101.results = #[.cell 4 91] := by kernel_rfl
  have HRES := Lib.hid hres
  have HI := Lib.hid (Tryz.infoVl v)
  have HP := Lib.hid hp
  have HM := Lib.hid hm
  have HW := Lib.hid hw
  have HNE := Lib.hid hne
  have hp7 := hp.hi7
  have hp1 := hp.lo1
  obtain ⟨d, hd⟩ : ∃ d, d = Lin.ld v := ⟨_, rfl⟩
  have HD := Lib.hid hd
  have hld := leadOf_any v
  have hd40 : d < 40 := by rw [hd]; exact h1
  have hx0 : v d ≠ 0 := by rw [hd]; exact h2
  obtain ⟨x, hx⟩ : ∃ x, x = v d := ⟨_, rfl⟩
  have hx1 : 0 < x ∧ x < p := by
    have := hm d
    rw [← hx] at this hx0
    omega
  have HX := Lib.hid hx
  clear hres h1 h2 h3 hp hm hw hne hd hx0 hx
  unfold vv at hld ⊢
  have HLD := Lib.hid hld
  clear hld
  go_enter Tryz.func101, Tryz.ntmps101
  go_upto_region 1 with fail
  refine forget_wp (fun W => Boxed w W w.heap.size (w.heap.size + 1) v) (boxed_new w v _ (by exact Nat.le_refl 40) _ _) ?_
  intro W HB0
  have HB := Lib.hid HB0
  clear HB0
  go_wp2_with (with_reducible refine wpList_load_mid rfl 91 (.tmp 3) rfl w.heap.size 0 rfl (vl v) _ HB.out.at'.range Tryz.underlyingV rfl HI.out ?_)
  refine (HLD.out _ HW.out HNE.out).mono ?_
  rw [← HD.out]
  rintro e w2 ⟨rfl, hb2⟩
  have HB2 := Lib.hid (HB.out.next hb2)
  have hc2 : w2.cell? ⟨w.heap.size, d, none⟩ = some (.int .i64 x) := by rw [HX.out]; have := HB2.out.at'.cell hd40; rwa [Nat.zero_add] at this
  clear hb2 HB
  go_wp2_with fail
  refine (inverseOf_any p x _ HP.out hx1.1 hx1.2).mono ?_
  rintro e w3 ⟨c, rfl, rfl, hc0, hcp, hcx⟩
  have HC := Lib.hid hcx
  clear hcx hc2
  go_wp2_with (with_reducible refine wpList_load_mid rfl 91 (.tmp 3) rfl w.heap.size 0 rfl (vl v) _ HB2.out.at'.range Tryz.underlyingV rfl HI.out ?_)
  go_loopw [15] (fun i wr => ∃ k : Nat, k ≤ 40 ∧ i = .int .i64 k ∧ Hid (Boxed w wr w.heap.size (w.heap.size + 1) (fun i => if i < k then (c : Int) * v i % p else v i))) (fun i _ => 40 - (intOf i).toNat)
  case atStart => exact ⟨0, Nat.zero_le _, rfl, Lib.hid (HB2.out.congr (fun i _ => by simp))⟩
  case round =>
    obtain ⟨k, hk, rfl, HR⟩ := hrel
    by_cases hlt : k < 40
    · have hix := hidx v hlt
      obtain ⟨y, hy⟩ : ∃ y, y = v k := ⟨_, rfl⟩
      have hyb := HM.out k
      rw [← hy] at hix hyb
      obtain ⟨hm0, hm1⟩ := mul_bd HP.out (a := (c : Int)) (b := y) (by omega) (by omega) (by omega) (by omega)
      have hcel := HR.out.at'.cell hlt
      have hfz := (HR.out.there k hlt).2
      rw [Nat.zero_add] at hcel hfz
      have HS := Lib.hid ((HR.out.set hlt ((c : Int) * y % p)).congr (v' := fun i => if i < k + 1 then (c : Int) * v i % p else v i) (fun i _ => by
        by_cases e : i = k
        · rw [if_pos e, if_pos (by omega), e, hy]
        · rw [if_neg e]
          by_cases e2 : i < k
          · rw [if_pos e2, if_pos (by omega)]
          · rw [if_neg e2, if_neg (by omega)]))
      clear hy HR
      go_wp2
      go_roundw
      case rel => exact ⟨k + 1, by omega, by go_num, HS⟩
      case measure => simp [intOf]; omega
    · have HF : Hid (Boxed w wr w.heap.size (w.heap.size + 1) (fun i => (c : Int) * v i % p)) := Lib.hid (HR.out.congr (fun i hi => by rw [if_pos (by omega)]))
      have HI2 := Lib.hid (Tryz.infoVl (fun i => (c : Int) * v i % p))
      have HU : Hid (Lin.Unit p v (fun i => (c : Int) * v i % p)) := Lib.hid (Lin.Unit.mk' hp1 HM.out HNE.out (by rw [← HD.out, ← HX.out]; exact HC.out))
      have HUW : Hid (Lin.Wd 40 (fun i => (c : Int) * v i % p)) := Lib.hid (fun i hi => by show (c : Int) * v i % p = 0; rw [HW.out i hi]; simp)
      obtain ⟨u, hu⟩ : ∃ u : Lin.V, u = fun i => (c : Int) * v i % p := ⟨_, rfl⟩
      rw [← hu] at HF HI2 HU HUW
      clear HR hu
      have HS : Hid (At (wr.setCells (w.heap.size + 1) 0 (vl u)) (w.heap.size + 1) 0 u) := Lib.hid (at_setCells _ _ _ _ HF.out.res)
      have HSB : Hid (Below w.heap.size w (wr.setCells (w.heap.size + 1) 0 (vl u))) := Lib.hid (below_setCells _ (by omega) _ _ _ HF.out.below)
      have HT : Hid (wr.there (w.heap.size + 1) 0 (vl u).toArray.size) := Lib.hid (by have := HF.out.res; simpa [vl_length] using this)
      have HI3 : Hid ((Tryz.prog.info? 91).map (·.size) = some (vl u).toArray.size) := Lib.hid (by have := HI2.out; simpa using this)
      go_wp2_with (first | (with_reducible refine wpList_load_mid rfl 91 (.tmp 3) rfl w.heap.size 0 rfl (vl u) _ HF.out.at'.range Tryz.underlyingV rfl HI2.out ?_) | (with_reducible refine wpList_store_mid rfl 91 (.tmp 4) (.tmp 27) rfl (w.heap.size + 1) 0 (vl u).toArray rfl rfl HT.out HI3.out (vl_all u) ?_))
      exact bodyPost_ret (v := vv u) (results_cell_at HRES.out _ _ (w.heap.size + 1) u _ rfl HS.out Tryz.underlyingV rfl HI2.out) rfl ⟨u, rfl, HSB.out, HU.out, HUW.out⟩

theorem boxed_new3 (w : World) (v u : Lin.V) (C : Array Value) (hC : 40 ≤ C.size) (t t' t2 : TypeId) : Boxed w (((w.alloc (.cells (vl v).toArray t)).alloc (.cells (vl u).toArray t')).alloc (.cells C t2)) w.heap.size (w.heap.size + 2) v ∧ At (((w.alloc (.cells (vl v).toArray t)).alloc (.cells (vl u).toArray t')).alloc (.cells C t2)) (w.heap.size + 1) 0 u := by
  have h1 := there_new w (vl v).toArray t (n := 40) (by simp [vl_length])
  have h2 := there_new ((w.alloc (.cells (vl v).toArray t)).alloc (.cells (vl u).toArray t')) C t2 hC
  have h3 := at_alloc (w.alloc (.cells (vl v).toArray t)) u t'
  refine ⟨⟨(below_two _ _ _).trans ((below_alloc1 _ _).mono (by simp; omega)), ⟨Nat.le_refl _, by omega⟩, by omega, ((at_alloc w v t).later (below_alloc1 _ _)).later (below_alloc1 _ _), World.there_alloc (World.there_alloc h1 _) _, by simpa using h2⟩, ?_⟩
  have := h3.later (below_alloc1 _ (.cells C t2))
  simpa using this

set_option maxHeartbeats 1600000 in
set_option maxRecDepth 100000 in
theorem minusMultiple_any (p f : Int) (v u : Lin.V) (w : World) (hp : IsP p) (hf0 : 0 ≤ f) (hf1 : f < p) (hm : Lin.Md p v) (hw : Lin.Wd 40 v) (hmu : Lin.Md p u) (hwu : Lin.Wd 40 u) : Calls Tryz.prog 98 #[.int .i64 p, vv v, .int .i64 f, vv u] w (BR (vv (Lin.add p v (-f) u)) w) := by
  have hres : Tryz.f98.results = #[.cell 8 91] := by kernel_rfl
  have HRES := Lib.hid hres
  have HI := Lib.hid (Tryz.infoVl u)
  have HP := Lib.hid hp
  have HM := Lib.hid hm
  have HW := Lib.hid hw
  have HMU := Lib.hid hmu
  have HWU := Lib.hid hwu
  have hp7 := hp.hi7
  have hp1 := hp.lo1
  clear hres hp hm hw hmu hwu
  unfold vv
  go_enter Tryz.func98, Tryz.ntmps98
  go_upto_region 1 with fail
  refine forget_wp (fun W => Boxed w W w.heap.size (w.heap.size + 2) v ∧ At W (w.heap.size + 1) 0 u) (boxed_new3 w v u _ (by exact Nat.le_refl 40) _ _ _) ?_
  rintro W ⟨HB0, HU0⟩
  have HB := Lib.hid HB0
  have HU := Lib.hid HU0
  clear HB0 HU0
  go_wp2_with (with_reducible refine wpList_load_mid rfl 91 (.tmp 7) rfl (w.heap.size + 1) 0 rfl (vl u) _ HU.out.range Tryz.underlyingV rfl HI.out ?_)
  go_loopw [12] (fun i wr => ∃ k : Nat, k ≤ 40 ∧ i = .int .i64 k ∧ Hid (Boxed w wr w.heap.size (w.heap.size + 2) (fun i => if i < k then Lin.add p v (-f) u i else v i))) (fun i _ => 40 - (intOf i).toNat)
  case atStart => exact ⟨0, Nat.zero_le _, rfl, Lib.hid (HB.out.congr (fun i _ => by simp))⟩
  case round =>
    obtain ⟨k, hk, rfl, HR⟩ := hrel
    by_cases hlt : k < 40
    · have hix := hidx u hlt
      obtain ⟨y, hy⟩ : ∃ y, y = u k := ⟨_, rfl⟩
      have hyb := HMU.out k
      rw [← hy] at hix hyb
      obtain ⟨x, hx⟩ : ∃ x, x = v k := ⟨_, rfl⟩
      have hxb := HM.out k
      rw [← hx] at hxb
      obtain ⟨hm0, hm1⟩ := mul_bd HP.out (a := y) (b := p - f) (by omega) (by omega) (by omega) (by omega)
      rw [Int.mul_comm] at hm0 hm1
      have hcel := HR.out.at'.cell hlt
      have hfz := (HR.out.there k hlt).2
      rw [Nat.zero_add] at hcel hfz
      rw [if_neg (by omega), ← hx] at hcel
      have hval : Hid ((x + (p - f) * y) % p = Lin.add p v (-f) u k) := Lib.hid (by
        rw [Lin.add, ← hx, ← hy]
        exact Lin.cg y (by grind))
      have HS := Lib.hid ((HR.out.set hlt ((x + (p - f) * y) % p)).congr (v' := fun i => if i < k + 1 then Lin.add p v (-f) u i else v i) (fun i _ => by
        by_cases e : i = k
        · rw [if_pos e, if_pos (by omega), e, hval.out]
        · rw [if_neg e]
          by_cases e2 : i < k
          · rw [if_pos e2, if_pos (by omega)]
          · rw [if_neg e2, if_neg (by omega)]))
      clear hy hx HR
      go_wp2
      go_roundw
      case rel => exact ⟨k + 1, by omega, by go_num, HS⟩
      case measure => simp [intOf]; omega
    · have HF : Hid (Boxed w wr w.heap.size (w.heap.size + 2) (Lin.add p v (-f) u)) := Lib.hid (HR.out.congr (fun i hi => by rw [if_pos (by omega)]))
      have HI2 := Lib.hid (Tryz.infoVl (Lin.add p v (-f) u))
      obtain ⟨r, hr⟩ : ∃ r : Lin.V, r = Lin.add p v (-f) u := ⟨_, rfl⟩
      rw [← hr] at HF HI2
      have HRE := Lib.hid hr
      clear HR hr
      have HS : Hid (At (wr.setCells (w.heap.size + 2) 0 (vl r)) (w.heap.size + 2) 0 r) := Lib.hid (at_setCells _ _ _ _ HF.out.res)
      have HSB : Hid (Below w.heap.size w (wr.setCells (w.heap.size + 2) 0 (vl r))) := Lib.hid (below_setCells _ (by omega) _ _ _ HF.out.below)
      have HT : Hid (wr.there (w.heap.size + 2) 0 (vl r).toArray.size) := Lib.hid (by have := HF.out.res; simpa [vl_length] using this)
      have HI3 : Hid ((Tryz.prog.info? 91).map (·.size) = some (vl r).toArray.size) := Lib.hid (by have := HI2.out; simpa using this)
      go_wp2_with (first | (with_reducible refine wpList_load_mid rfl 91 (.tmp 5) rfl w.heap.size 0 rfl (vl r) _ HF.out.at'.range Tryz.underlyingV rfl HI2.out ?_) | (with_reducible refine wpList_store_mid rfl 91 (.tmp 8) (.tmp 30) rfl (w.heap.size + 2) 0 (vl r).toArray rfl rfl HT.out HI3.out (vl_all r) ?_))
      exact bodyPost_ret (v := vv r) (results_cell_at HRES.out _ _ (w.heap.size + 2) r _ rfl HS.out Tryz.underlyingV rfl HI2.out) rfl ⟨by rw [HRE.out]; rfl, HSB.out⟩
end Go.Proofs.YtlopenephgabhaaGreat

namespace Go.Proofs.YtlopenephgabhaaGreat
open Go.RowKit

/-- The slice s reads as the vectors L, its cells in blocks from lo on. -/
def Vs (lo : Nat) (w : World) (s : Value) (L : List Lin.V) : Prop :=
  (L = [] ∧ ∃ ad cap, s = .slice ad 0 cap) ∨
  ∃ b o cap, s = .slice (some ⟨b, o, none⟩) L.length cap ∧ lo ≤ b ∧ 0 < L.length ∧ ∀ k (h : k < L.length), At w b (o + k * 40) L[k]
theorem Vs.keep {lo : Nat} {w w' : World} {s : Value} {L : List Lin.V} (h : Vs lo w s L) (hk : Keep lo w w') : Vs lo w' s L := by
  rcases h with h | ⟨b, o, cap, hs, hlo, hpos, hc⟩
  · exact Or.inl h
  · refine Or.inr ⟨b, o, cap, hs, hlo, hpos, fun k h j u hu => ?_⟩
    have h1 := hc k h j u hu
    rw [hk.2 b _ hlo (cell_lt h1)]
    exact h1
theorem Vs.below {lo : Nat} {w w' : World} {s : Value} {L : List Lin.V} (h : Vs lo w s L) (hb : Below w.heap.size w w') : Vs lo w' s L := h.keep (Keep.of_below hb)
theorem Vs.lower {lo lo' : Nat} (hl : lo' ≤ lo) {w : World} {s : Value} {L : List Lin.V} (h : Vs lo w s L) : Vs lo' w s L := by
  rcases h with h | ⟨b, o, cap, hs, hlo, hpos, hc⟩
  · exact Or.inl h
  · exact Or.inr ⟨b, o, cap, hs, by omega, hpos, hc⟩
theorem Vs.shape {lo : Nat} {w : World} {s : Value} {L : List Lin.V} (h : Vs lo w s L) : ∃ ad cap, s = .slice ad L.length cap := by
  rcases h with ⟨h, ad, cap, hs⟩ | ⟨b, o, cap, hs, _⟩
  · exact ⟨ad, cap, by rw [hs, h]; rfl⟩
  · exact ⟨_, cap, hs⟩
theorem Vs.cases {lo : Nat} {w : World} {s : Value} {L : List Lin.V} (h : Vs lo w s L) {C : Prop} (h0 : ∀ ad cap, L = [] → s = .slice ad 0 cap → C)
    (h1 : ∀ b o cap, s = .slice (some ⟨b, o, none⟩) L.length cap → lo ≤ b → 0 < L.length → (∀ k (h : k < L.length), At w b (o + k * 40) L[k]) → C) : C := by
  rcases h with ⟨h, ad, cap, hs⟩ | ⟨b, o, cap, hs, hlo, hpos, hc⟩
  · exact h0 ad cap h hs
  · exact h1 b o cap hs hlo hpos hc

/-- The making of a vector's box. -/
structure NewV (w W : World) : Prop where
  below : Below w.heap.size w W
  size : W.heap.size = w.heap.size + 1
  there : W.there w.heap.size 0 40
set_option maxRecDepth 100000 in
theorem alloc_run (ρ : Operand → Value) (o : Oper) (w : World) : (execOp ρ { o with op := .alloc 91 }).run Tryz.prog w = .ok (.value (.pointer (some ⟨w.heap.size, 0, none⟩))) (w.alloc (.cells zl.toArray 91)) := by kernel_rfl
theorem wpList_allocV {ops : Array Oper} {rest : List Oper} {o : Oper} {a : Act} {w : World} {Q : Exit → Act → World → Prop} (hg : o.guard = none) (dst : Option Tmp) (hdst : o.dst = dst) (ho : o.op = .alloc 91)
    (h : ∀ W, NewV w W → wpList Tryz.prog ops Q rest (a.put dst (.pointer (some ⟨w.heap.size, 0, none⟩))) W) : wpList Tryz.prog ops Q (o :: rest) a w := by
  refine Great.wpList_runTo hg dst hdst (.pointer (some ⟨w.heap.size, 0, none⟩)) (w.alloc (.cells zl.toArray 91)) ?_ (h _ ⟨below_alloc1 _ _, by simp, there_new w zl.toArray _ (by simp [zl_length])⟩)
  have := alloc_run a.eval o w
  rw [← ho] at this
  exact this

theorem hload (w : World) {b o : Nat} {x : Int} (h : w.cell? ⟨b, o, none⟩ = some (.int .i64 x)) : (Instr.loadAt 2 (.pointer (some ⟨b, o, none⟩))).run Tryz.prog w = .ok (.int .i64 x) w := by go_simp
theorem hindexV (b : Nat) {k : Nat} (hk : k < 40) (w : World) : (Instr.indexAt 91 (.pointer (some ⟨b, 0, none⟩)) (.int .i64 k)).run Tryz.prog w = .ok (.pointer (some ⟨b, k, none⟩)) w := by
  have h2 : (0 : Int) ≤ (k : Int) := by omega
  have h3 : (k : Int) < 40 := by omega
  have h4 : ¬ (40 : Int) ≤ (k : Int) := by omega
  go_simp

end Go.Proofs.YtlopenephgabhaaGreat

namespace Go.Proofs.YtlopenephgabhaaGreat
open Go.RowKit

theorem mapM_some {α β : Type} {f : α → Option β} {g : α → β} : ∀ l : List α, (∀ x ∈ l, f x = some (g x)) → l.mapM f = some (l.map g) := by
  intro l
  induction l with
  | nil => intro _; rfl
  | cons x l ih => intro h; rw [List.mapM_cons, h x (List.mem_cons_self ..), ih (fun y hy => h y (List.mem_cons_of_mem _ hy))]; rfl
theorem arrKey_of (P : Program) {k e : TypeId} (hu : P.underlying k = some (.array 40 e)) (he : P.underlying e = some (.int .i64)) (h1 : P.cellsOf e = 1) (h40 : P.cellsOf k = 40) : WideMaps.ArrKey P k e 40 :=
  ⟨hu, by unfold Program.plainKey; rw [he], h1, h40⟩
theorem Tryz.cellsV : Tryz.prog.cellsOf 91 = 40 := by kernel_rfl
theorem Tryz.cellsI' : Tryz.prog.cellsOf 2 = 1 := by kernel_rfl
theorem Tryz.arrKey : WideMaps.ArrKey Tryz.prog 91 2 40 := arrKey_of _ Tryz.underlyingV Tryz.underlying2 Tryz.cellsI' Tryz.cellsV
theorem Tryz.keyed : Maps.Keyed Tryz.prog 91 := Maps.Keyed.of_law Tryz.arrKey.law
/-- The key's datum. -/
def keyLit (v : Lin.V) : Lit := .string (keyBytes ((List.range 40).map fun i => .int .i64 (v i)))
theorem small_wf {x : Int} (h0 : 0 ≤ x) (h1 : x ≤ 7) : (Lit.int .i64 x).wf = true := WalkArith.wf_i64 (by omega)
theorem flatten_single {α : Type} (l : List α) : (l.map fun x => [x]).flatten = l := by
  induction l with
  | nil => rfl
  | cons x l ih => simp [ih]
theorem Tryz.typesSize : ∃ m, Tryz.prog.types.size = m + 1 := ⟨Tryz.prog.types.size - 1, by
  have : 0 < Tryz.prog.types.size := of_decide_eq_true (by kernel_rfl)
  omega⟩
theorem keyOf_vv (v : Lin.V) (h : ∀ i, 0 ≤ v i ∧ v i ≤ 7) : keyOf Tryz.prog 91 (vv v) = some (keyLit v) := by
  have hkt := Tryz.arrKey.keyType Tryz.typesSize
  obtain ⟨m, hm⟩ := Tryz.typesSize
  have hu := Tryz.underlyingV
  have he := Tryz.underlying2
  unfold keyOf vv
  simp only [hu]
  rw [if_pos (by simp [hkt, Value.formed, hu, Tryz.cellsV, vl_length]), hm]
  unfold Program.keyLits
  simp only [hu, Value.cells, List.toList_toArray]
  rw [if_pos (by rw [Tryz.cellsV, vl_length])]
  have hmm : (List.range 40).mapM (fun i => Tryz.prog.keyLits (m + 1) 2 (((vl v).drop (i * Tryz.prog.cellsOf 2)).take (Tryz.prog.cellsOf 2))) = some ((List.range 40).map fun i => [Lit.int .i64 (v i)]) := by
    refine mapM_some _ (fun i hi => ?_)
    have hi40 := List.mem_range.1 hi
    have hd : ((vl v).drop (i * 1)).take 1 = [.int .i64 (v i)] := by
      have h1 := vl_get v hi40
      obtain ⟨hlt, hge⟩ := List.getElem?_eq_some_iff.1 h1
      rw [Nat.mul_one, List.drop_eq_getElem_cons hlt, hge]
      rfl
    unfold Program.keyLits
    simp only [he, Tryz.cellsI', hd]
    rw [if_pos ⟨trivial, small_wf (h i).1 (h i).2⟩]
  rw [hmm]
  simp only [Option.map_some]
  rw [show ((List.range 40).map fun i => [Lit.int .i64 (v i)]) = ((List.range 40).map fun i => Lit.int .i64 (v i)).map (fun x => [x]) by rw [List.map_map]; rfl, flatten_single]
  rfl
theorem keyLit_inj {u v : Lin.V} (hu : ∀ i, 0 ≤ u i ∧ u i ≤ 7) (hv : ∀ i, 0 ≤ v i ∧ v i ≤ 7) (h : keyLit u = keyLit v) : vv u = vv v := by
  have h1 := keyOf_vv u hu
  have h2 := keyOf_vv v hv
  rw [← h] at h2
  exact Tryz.keyed.inj h1 h2
theorem vv_inj {u v : Lin.V} (hu : Lin.Wd 40 u) (hv : Lin.Wd 40 v) (h : vv u = vv v) : u = v := by
  unfold vv at h
  injection h with h
  have h2 : vl u = vl v := by have := congrArg Array.toList h; simpa using this
  refine toL_inj hu hv ?_
  unfold vl at h2
  exact (List.map_inj_right (fun a b e => by injection e)).1 h2

/-- The map in block b bears true at vectors of M alone. -/
def Seen (w : World) (b n : Nat) (M : List Lin.V) : Prop := ∃ D : DataW Unit, w.ownsMap Tryz.prog 91 (plainElem Tryz.prog 4) b n D ∧ Maps.IsMap D ∧
  ∀ v : Lin.V, (∀ i, 0 ≤ v i ∧ v i ≤ 7) → D.atKey (keyLit v) (.lit (.bool false)) = .lit (.bool true) → ∃ u ∈ M, vv u = vv v
theorem Seen.made (w : World) : Seen (w.alloc (.map #[] 0)) w.heap.size 0 [] := ⟨.map [], World.ownsMap_made _ _ _ _, ⟨[], rfl⟩, fun v _ h => by
  have : (DataW.map [] : DataW Unit).atKey (keyLit v) (.lit (.bool false)) = .lit (.bool false) := rfl
  rw [this] at h
  cases h⟩
theorem Seen.lt {w : World} {b n : Nat} {M : List Lin.V} (h : Seen w b n M) : b < w.heap.size := by obtain ⟨D, hd, _⟩ := h; exact hd.lt
theorem Seen.block {w w' : World} {b n : Nat} {M : List Lin.V} (h : Seen w b n M) (hb : w'.heap[b]? = w.heap[b]?) : Seen w' b n M := by
  obtain ⟨D, ⟨es, clock, h1, F, h2, h3⟩, r⟩ := h
  exact ⟨D, ⟨es, clock, hb.trans h1, F, h2, h3⟩, r⟩
theorem Seen.below {w w' : World} {b n : Nat} {M : List Lin.V} (h : Seen w b n M) (hb : Below w.heap.size w w') : Seen w' b n M := h.block (hb.block b h.lt)
theorem Seen.more {w : World} {b n n' : Nat} {M M' : List Lin.V} (h : Seen w b n M) (hn : n ≤ n') (hM : ∀ u ∈ M, u ∈ M') : Seen w b n' M' := by
  obtain ⟨D, h1, h2, h3⟩ := h
  exact ⟨D, h1.mono hn, h2, fun v hv h => by obtain ⟨u, hu, e⟩ := h3 v hv h; exact ⟨u, hM u hu, e⟩⟩

section
variable {ops : Array Oper} {rest : List Oper} {o : Oper} {a : Act} {w : World} {Q : Exit → Act → World → Prop}
theorem zeroB (w : World) : (zeroValue 4).run Tryz.prog w = .ok (.bool false) w := by kernel_rfl
theorem plainBool_inv {P : Program} {e : TypeId} (he : P.underlying e = some .bool) {v : Value} {z : DataW Unit × List MemPlace} (h : plainElem P e v = some z) : ∃ x, v = .bool x ∧ z.1 = .lit (.bool x) := by
  unfold plainElem at h
  rw [he] at h
  cases v <;> simp at h
  exact ⟨_, rfl, by rw [← h]⟩
theorem wpList_lookup_seen (hg : o.guard = none) (m x : Operand) (hop : o.op = .lookup 115 m x false) (b n : Nat) (M : List Lin.V) (hm : a.eval m = .map (some b)) (hs : Seen w b n M) (v : Lin.V) (hx : a.eval x = .agg (vl v).toArray) (hv : ∀ i, 0 ≤ v i ∧ v i ≤ 7)
    (h : ∀ r : Bool, (r = true → ∃ u ∈ M, vv u = vv v) → wpList Tryz.prog ops Q rest (a.put o.dst (.bool r)) w) : wpList Tryz.prog ops Q (o :: rest) a w := by
  obtain ⟨D, h1, _, h3⟩ := hs
  obtain ⟨u, ps, hrun, hu⟩ := h1.lookup Tryz.keyed Tryz.underlying115 (zeroB w) (plainElem_bool Tryz.underlying4 false) (keyOf_vv v hv)
  obtain ⟨r, rfl, hr⟩ := plainBool_inv Tryz.underlying4 hu
  refine wpList_plain hg fun K hK => ?_
  unfold Oper.wp
  have hx' : a.eval x = vv v := hx
  simp only [execOp, hop, hm, hx', Sem.run_bind, hrun, Result.andThen_ok]
  exact hK _ _ (h r (fun e => h3 v hv (by rw [← e]; exact hr)))
theorem wpList_update_seen (hg : o.guard = none) (hdst : o.dst = none) (m x : Operand) (hop : o.op = .mapUpdate 115 m x (.const (.bool true))) (b n : Nat) (M : List Lin.V) (hm : a.eval m = .map (some b)) (hs : Seen w b n M) (hn : n < maxLen) (v : Lin.V) (hx : a.eval x = .agg (vl v).toArray) (hv : ∀ i, 0 ≤ v i ∧ v i ≤ 7)
    (h : ∀ w', Seen w' b (n + 1) (M ++ [v]) → w.grownBy w' (some b) → wpList Tryz.prog ops Q rest a w') : wpList Tryz.prog ops Q (o :: rest) a w := by
  obtain ⟨D, h1, hD, h3⟩ := hs
  obtain ⟨w', hrun, h4, h5⟩ := h1.update Tryz.keyed Tryz.underlying115 hn (keyOf_vv v hv) (plainElem_bool Tryz.underlying4 true)
  refine wpList_plain hg fun K hK => ?_
  unfold Oper.wp
  have hx' : a.eval x = vv v := hx
  have hc : a.eval (.const (.bool true)) = .bool true := rfl
  simp only [execOp, hop, hm, hx', hc, Sem.run_bind, hrun, Result.andThen_ok]
  refine hK _ _ ?_
  rw [hdst]
  refine h w' ⟨_, h4, hD.put _ _, fun u hu hat => ?_⟩ h5
  by_cases e : keyLit u = keyLit v
  · exact ⟨v, by simp, (keyLit_inj hu hv e).symm⟩
  · rw [Maps.atKey_put_other e] at hat
    obtain ⟨x, hx, e2⟩ := h3 u hu hat
    exact ⟨x, by simp [hx], e2⟩
end
end Go.Proofs.YtlopenephgabhaaGreat

namespace Go.Proofs.YtlopenephgabhaaGreat
open Go.RowKit

/-- The cells of a list of vectors, one behind the other. -/
def cellsOf (L : List Lin.V) : List Value := L.flatMap vl
theorem cellsOf_length (L : List Lin.V) : (cellsOf L).length = L.length * 40 := by
  induction L with
  | nil => rfl
  | cons v L ih => rw [cellsOf, List.flatMap_cons, List.length_append, vl_length]; unfold cellsOf at ih; rw [ih, List.length_cons]; omega
theorem cellsOf_at {L : List Lin.V} : ∀ {k : Nat} (h : k < L.length) {j : Nat}, j < 40 → (cellsOf L)[k * 40 + j]? = some (.int .i64 (L[k] j)) := by
  induction L with
  | nil => intro k h; simp at h
  | cons v L ih =>
    intro k h j hj
    rw [cellsOf, List.flatMap_cons]
    cases k with
    | zero =>
      rw [List.getElem?_append_left (by rw [vl_length]; omega)]
      simp only [Nat.zero_mul, Nat.zero_add, List.getElem_cons_zero]
      exact vl_get v hj
    | succ k =>
      rw [List.getElem?_append_right (by rw [vl_length]; omega), vl_length, show (k + 1) * 40 + j - 40 = k * 40 + j by omega]
      simp only [List.getElem_cons_succ]
      exact ih (by simpa using h) hj
theorem cellsOf_append (L M : List Lin.V) : cellsOf (L ++ M) = cellsOf L ++ cellsOf M := by simp [cellsOf]
theorem cellsOf_one (v : Lin.V) : cellsOf [v] = vl v := by simp [cellsOf]
/-- A slice of vectors that the call has made, in blocks from base on. -/
def Ow (base : Nat) (w : World) (s : Value) (L : List Lin.V) : Prop := w.ownsRow base 91 40 s L.length (cellsOf L)
theorem Ow.nil (base : Nat) (w : World) : Ow base w (.slice none 0 0) [] := ⟨rfl, Or.inl ⟨rfl, rfl⟩⟩
theorem Ow.below {base : Nat} {w w' : World} {s : Value} {L : List Lin.V} (h : Ow base w s L) (hb : Below w.heap.size w w') : Ow base w' s L := owns_below h hb
theorem Ow.vs {base : Nat} {w : World} {s : Value} {L : List Lin.V} (h : Ow base w s L) : Vs base w s L := by
  obtain ⟨_, h2⟩ := h
  rcases h2 with ⟨hs, h0⟩ | ⟨g, cap, cur, hs, hg, hb, hn, _, hcur, ht⟩
  · exact Or.inl ⟨List.eq_nil_of_length_eq_zero h0, none, 0, by rw [hs]⟩
  · by_cases h0 : L.length = 0
    · exact Or.inl ⟨List.eq_nil_of_length_eq_zero h0, _, cap, by rw [hs, h0]⟩
    · refine Or.inr ⟨g, 0, cap, hs, hg, by omega, fun k hk j u hu => ?_⟩
      have hj : j < 40 := by have := (List.getElem?_eq_some_iff.1 hu).1; rwa [vl_length] at this
      rw [vl_get _ hj] at hu
      rw [cell_of_row _ _ _ _ _ _ hb, Nat.zero_add]
      have h1 := cellsOf_at hk hj
      rw [← ht, List.getElem?_take] at h1
      have h2 : k * 40 + j < L.length * 40 := by
        have : (k + 1) * 40 ≤ L.length * 40 := Nat.mul_le_mul_right 40 hk
        omega
      rw [if_pos h2] at h1
      rw [← hu, ← h1]
      simp
theorem Ow.shape {base : Nat} {w : World} {s : Value} {L : List Lin.V} (h : Ow base w s L) : ∃ ad cap, s = .slice ad L.length cap := h.vs.shape

theorem Tryz.infoVz : (Tryz.prog.info? 91).map (fun i => (i.zero, i.size, i.bytes)) = some (some (.agg zl.toArray), 40, 320) := by kernel_rfl
theorem Tryz.underlyingSV : Tryz.prog.underlying 69 = some (.slice 91) := by kernel_rfl

section
variable {ops : Array Oper} {rest : List Oper} {o : Oper} {a : Act} {w : World} {Q : Exit → Act → World → Prop}
/-- A slice of one vector, as append is handed it. -/
structure OneV (w W : World) (v : Lin.V) : Prop where
  below : Below w.heap.size w W
  size : W.heap.size = w.heap.size + 1
  at' : At W w.heap.size 0 v
  block : W.heap[w.heap.size]? = some (.cells (vl v).toArray 91)
set_option maxRecDepth 100000 in
theorem builtOne (v : Lin.V) : Tryz.prog.builtSlice 91 1 [(0, .agg (vl v).toArray)] = some (vl v).toArray := by kernel_rfl
theorem wpList_oneV (hg : o.guard = none) (dst : Option Tmp) (hdst : o.dst = dst) (x : Operand) (ho : o.op = .buildSlice 69 1 #[(0, x)]) (v : Lin.V) (hx : a.eval x = .agg (vl v).toArray)
    (h : ∀ W, OneV w W v → wpList Tryz.prog ops Q rest (a.put dst (.slice (some ⟨w.heap.size, 0, none⟩) 1 1)) W) : wpList Tryz.prog ops Q (o :: rest) a w :=
  Great.wpList_buildSliceTo hg 69 91 1 #[(0, x)] ho w.heap.size rfl dst hdst Tryz.underlyingSV (vl v).toArray (by
    have : (#[(0, x)].map fun (i, x) => (i, a.eval x)).toList = [(0, Value.agg (vl v).toArray)] := by simp [hx]
    rw [this]
    exact builtOne v) (h _ ⟨below_alloc1 _ _, by simp, at_alloc _ _ _, heap_alloc_new _ _⟩)
theorem wpList_appendV (hg : o.guard = none) (dst : Option Tmp) (hdst : o.dst = dst) (s x : Operand) (ho : o.op = .call { callee := .builtin .append, args := #[s, x], argTypes := #[69, 69] })
    (base : Nat) (sv : Value) (L : List Lin.V) (hs : a.eval s = sv) (hown : Ow base w sv L) (b : Nat) (c : Nat) (v : Lin.V) (hx : a.eval x = .slice (some ⟨b, 0, none⟩) 1 c) (hv : At w b 0 v) (hl : L.length ≤ 1048576) (hbase : base ≤ w.heap.size)
    (h : ∀ s' w', Ow base w' s' (L ++ [v]) → w.grownBy w' sv.ownBlock → wpList Tryz.prog ops Q rest (a.put dst s') w') : wpList Tryz.prog ops Q (o :: rest) a w := by
  obtain ⟨i0, hi, hz0, hz1, hz2⟩ := info_parts Tryz.infoVz
  subst hdst
  refine wpList_append_own w hg s x 69 ho base 91 i0 (.agg zl.toArray) 40 320 Tryz.underlyingSV hi hz0 hz1 hz2 (by simp [Value.cells, zl_length]) (by omega) sv L.length (cellsOf L) hs hown ⟨b, 0, none⟩ 1 c (vl v) hx (by rw [vl_length])
    (fun j u hu => by rw [Addr.add_mid]; exact hv j u hu) (vl_one v) (by unfold maxLen; omega) (by omega) hbase (fun s' w' h1 h2 _ => h s' w' ?_ h2)
  unfold Ow
  rw [cellsOf_append, cellsOf_one, List.length_append]
  exact h1
set_option maxRecDepth 100000 in
theorem buildZ_run (ρ : Operand → Value) (o : Oper) (w : World) : (execOp ρ { o with op := .build 91 #[] }).run Tryz.prog w = .ok (.value (.agg (vl Lin.zv).toArray)) w := by kernel_rfl
theorem wpList_buildZ (hg : o.guard = none) (dst : Option Tmp) (hdst : o.dst = dst) (ho : o.op = .build 91 #[]) (h : wpList Tryz.prog ops Q rest (a.put dst (.agg (vl Lin.zv).toArray)) w) : wpList Tryz.prog ops Q (o :: rest) a w := by
  refine Great.wpList_runTo hg dst hdst _ _ ?_ h
  have := buildZ_run a.eval o w
  rw [← ho] at this
  exact this
end
theorem heq_run (v : Lin.V) (w : World) : (binOp .eql 91 (.agg (vl v).toArray) (.agg (vl Lin.zv).toArray)).run Tryz.prog w = .ok (.bool (decide (toL 40 v = toL 40 Lin.zv))) w :=
  run_eql_ints w (toL 40 v) (toL 40 Lin.zv) Tryz.underlyingV Tryz.underlying2 Tryz.infoI1 (toL_length _ _) (toL_length _ _)
theorem heq_yes (w : World) : (binOp .eql 91 (.agg (vl Lin.zv).toArray) (.agg (vl Lin.zv).toArray)).run Tryz.prog w = .ok (.bool true) w := by rw [heq_run, decide_eq_true rfl]
theorem heq_no {v : Lin.V} (hw : Lin.Wd 40 v) (hne : v ≠ Lin.zv) (w : World) : (binOp .eql 91 (.agg (vl v).toArray) (.agg (vl Lin.zv).toArray)).run Tryz.prog w = .ok (.bool false) w := by
  rw [heq_run, decide_eq_false (fun e => hne (toL_inj hw (Lin.zv_wd 40) e))]
end Go.Proofs.YtlopenephgabhaaGreat

namespace Go.Proofs.YtlopenephgabhaaGreat
open Go.RowKit

def VsR (P : List Lin.V → Prop) (w : World) (e : Ending) (w' : World) : Prop := ∃ s L, e = .returned s ∧ Below w.heap.size w w' ∧ Ow w.heap.size w' s L ∧ P L

theorem NewV.put {w W : World} (h : NewV w W) (v : Lin.V) : Below w.heap.size w (W.setCells w.heap.size 0 (vl v)) ∧ At (W.setCells w.heap.size 0 (vl v)) w.heap.size 0 v ∧ (W.setCells w.heap.size 0 (vl v)).heap.size = w.heap.size + 1 := by
  refine ⟨below_setCells _ (Nat.le_refl _) _ _ _ h.below, at_setCells _ _ _ _ h.there, ?_⟩
  have key : ∀ (vs : List Value) (o : Nat) (W : World), (W.setCells w.heap.size o vs).heap.size = W.heap.size := by
    intro vs
    induction vs with
    | nil => intro o W; rfl
    | cons x vs ih => intro o W; rw [World.setCells, ih]; simp
  rw [key, h.size]
theorem At.grown {w w' : World} {b o : Nat} {v : Lin.V} {row : Option Nat} (h : At w b o v) (hg : w.grownBy w' row) (hne : some b ≠ row) : At w' b o v := fun j u hu => by
  rw [World.cell?_of_block (w := w) (a := ⟨b, o + j, none⟩) (hg.block b h.lt hne)]
  exact h j u hu
theorem Ow.grown {base : Nat} {w w' : World} {s : Value} {L : List Lin.V} {row : Option Nat} (h : Ow base w s L) (hg : w.grownBy w' row) (hne : s.ownBlock = none ∨ s.ownBlock ≠ row) : Ow base w' s L := by
  refine ⟨h.1, ?_⟩
  rcases h.2 with h2 | ⟨g, cap, cur, hv, hgb, hh, r⟩
  · exact Or.inl h2
  · refine Or.inr ⟨g, cap, cur, hv, hgb, ?_, r⟩
    rw [hg.block g (Array.getElem?_eq_some_iff.1 hh).1 (by
      rw [hv] at hne
      simpa [Value.ownBlock] using hne)]
    exact hh
/-- The map's block is no row of vectors. -/
theorem seen_apart {w : World} {b n base : Nat} {M L : List Lin.V} {s : Value} (h : Seen w b n M) (ho : Ow base w s L) : some b ≠ s.ownBlock := by
  obtain ⟨D, ⟨es, clock, h1, _⟩, _⟩ := h
  rcases ho.2 with ⟨rfl, _⟩ | ⟨g, cap, cur, rfl, _, hh, _⟩
  · simp [Value.ownBlock]
  · intro e
    simp [Value.ownBlock] at e
    subst e
    rw [h1] at hh
    cases hh

set_option maxHeartbeats 3200000 in
set_option maxRecDepth 100000 in
theorem unitLines_any (p : Int) (s : Value) (L : List Lin.V) (w : World) (hp : IsP p) (hs : Vs 0 w s L) (hLm : ∀ u ∈ L, Lin.Md p u) (hLw : ∀ u ∈ L, Lin.Wd 40 u) (hl : L.length ≤ 1048576) :
    Calls Tryz.prog 97 #[.int .i64 p, s] w (VsR (fun M => Lin.Lines p L M ∧ M.length ≤ L.length) w) := by
  have HP := Lib.hid hp
  have HS := Lib.hid hs
  have HLM := Lib.hid hLm
  have HLW := Lib.hid hLw
  obtain ⟨ad, cap, rfl⟩ := Vs.shape hs
  have hp7 := hp.hi7
  have hp1 := hp.lo1
  have hmm := @run_makeMap Tryz.prog
  clear hp hs hLm hLw
  go_enter Tryz.func97, Tryz.ntmps97
  go_wp2
  clear hmm
  have HSE0 := Lib.hid (Seen.made w)
  have HB0 := Lib.hid (below_alloc1 w (.map #[] 0))
  go_loopw [5, 13] (fun sv i wr => ∃ (k : Nat) (M : List Lin.V), k ≤ L.length ∧ i = .int .i64 k ∧ Hid (Below w.heap.size w wr) ∧ Hid (Ow w.heap.size wr sv M) ∧ Hid (Seen wr w.heap.size k M) ∧ Hid (Lin.Lines p (L.take k) M ∧ M.length ≤ k)) (fun _ i _ => L.length - (intOf i).toNat)
  case atStart => exact ⟨0, [], Nat.zero_le _, rfl, HB0, Lib.hid (Ow.nil _ _), HSE0, Lib.hid ⟨Lin.Lines.nil p, by simp⟩⟩
  case round =>
    obtain ⟨k, M, hk, rfl, HB, HO, HSE, HL⟩ := hrel
    by_cases hlt : k < L.length
    · refine Vs.cases HS.out (fun _ _ hx _ => absurd hlt (by simp [hx])) (fun b o cap2 hv _ _ hc => ?_)
      obtain ⟨rfl, rfl⟩ : ad = some ⟨b, o, none⟩ ∧ cap = cap2 := by simpa using hv
      obtain ⟨v, hve⟩ : ∃ v, v = L[k] := ⟨_, rfl⟩
      have HV : Hid (At wr b (o + k * 40) v) := Lib.hid (by rw [hve]; exact (hc k hlt).below HB.out (hc k hlt).lt)
      have HI := Lib.hid (Tryz.infoVl v)
      have HI2 : Hid ((Tryz.prog.info? 91).map (·.size) = some (vl v).toArray.size) := Lib.hid (by have := HI.out; simpa using this)
      have HVM : Hid (Lin.Md p v) := Lib.hid (by rw [hve]; exact HLM.out _ (List.getElem_mem hlt))
      have HVW : Hid (Lin.Wd 40 v) := Lib.hid (by rw [hve]; exact HLW.out _ (List.getElem_mem hlt))
      have HTK : Hid (L.take (k + 1) = L.take k ++ [v]) := Lib.hid (by rw [hve]; exact List.take_succ_eq_append_getElem hlt)
      have HTM : Hid (∀ u ∈ L.take k, Lin.Md p u) := Lib.hid (fun u hu => HLM.out u (List.mem_of_mem_take hu))
      obtain ⟨ado, capo, rfl⟩ := HO.out.shape
      have hsz : w.heap.size ≤ wr.heap.size := HB.out.size
      have hlt2 : w.heap.size < wr.heap.size := HSE.out.lt
      clear hv hc hve
      by_cases hz : v = Lin.zv
      · subst hz
        have heq := heq_yes
        go_wp2_with (first | (with_reducible refine wpList_load_mid rfl 91 (.tmp 15) rfl b (o + k * 40) rfl (vl Lin.zv) _ HV.out.range Tryz.underlyingV rfl HI.out ?_) | (with_reducible refine wpList_allocV rfl (some 8) rfl rfl ?_; intro W2 hn2; have HN2 := Lib.hid hn2; have HT2 : Hid (W2.there wr.heap.size 0 (vl Lin.zv).toArray.size) := (Lib.hid (by have := hn2.there; simpa [vl_length] using this)); clear hn2) | (with_reducible refine wpList_store_mid rfl 91 (.tmp 8) (.tmp 16) rfl wr.heap.size 0 (vl Lin.zv).toArray rfl rfl HT2.out HI2.out (vl_all _) ?_) | (with_reducible refine wpList_load_mid rfl 91 (.tmp 8) rfl wr.heap.size 0 rfl (vl Lin.zv) _ (at_setCells _ _ _ _ HN2.out.there).range Tryz.underlyingV rfl HI.out ?_) | (with_reducible refine wpList_buildZ rfl (some 18) rfl rfl ?_))
        have HP2 := Lib.hid (HN2.out.put Lin.zv)
        go_roundw
        case rel => exact ⟨k + 1, M, by omega, by go_num, Lib.hid (HB.out.trans (HP2.out.1.mono hsz)), Lib.hid (HO.out.below HP2.out.1), Lib.hid ((HSE.out.below HP2.out.1).more (Nat.le_succ _) (fun _ h => h)), Lib.hid ⟨by rw [HTK.out]; exact HL.out.1.skip (by omega) HTM.out .zero, by have := HL.out.2; omega⟩⟩
        case measure => simp [intOf]; omega
      · have heq := heq_no HVW.out hz
        have HZ := Lib.hid hz
        clear hz
        go_wp2_with (first | (with_reducible refine wpList_load_mid rfl 91 (.tmp 15) rfl b (o + k * 40) rfl (vl v) _ HV.out.range Tryz.underlyingV rfl HI.out ?_) | (with_reducible refine wpList_allocV rfl (some 8) rfl rfl ?_; intro W2 hn2; have HN2 := Lib.hid hn2; have HT2 : Hid (W2.there wr.heap.size 0 (vl v).toArray.size) := (Lib.hid (by have := hn2.there; simpa [vl_length] using this)); clear hn2) | (with_reducible refine wpList_store_mid rfl 91 (.tmp 8) (.tmp 16) rfl wr.heap.size 0 (vl v).toArray rfl rfl HT2.out HI2.out (vl_all _) ?_) | (with_reducible refine wpList_load_mid rfl 91 (.tmp 8) rfl wr.heap.size 0 rfl (vl v) _ (at_setCells _ _ _ _ HN2.out.there).range Tryz.underlyingV rfl HI.out ?_) | (with_reducible refine wpList_buildZ rfl (some 18) rfl rfl ?_))
        have HP2 := Lib.hid (HN2.out.put v)
        clear heq
        refine (unitLead_any p v _ HP.out HVM.out HVW.out HZ.out).mono ?_
        rintro e W3 ⟨u, rfl, hb3, hUU, hUW⟩
        have HB3 := Lib.hid (HP2.out.1.trans (hb3.mono (by rw [HP2.out.2.2]; omega)))
        have HUU := Lib.hid hUU
        have HUW := Lib.hid hUW
        have HI3 := Lib.hid (Tryz.infoVl u)
        have HI4 : Hid ((Tryz.prog.info? 91).map (·.size) = some (vl u).toArray.size) := Lib.hid (by have := HI3.out; simpa using this)
        have hu7 : Hid (∀ i, 0 ≤ u i ∧ u i ≤ 7) := Lib.hid (fun i => by have := hUU.md i; omega)
        have hs3 : wr.heap.size ≤ W3.heap.size := HB3.out.size
        clear hb3 hUU hUW
        unfold vv
        go_upto_region 8 with (first | (with_reducible refine wpList_allocV rfl (some 9) rfl rfl ?_; intro W4 hn4; have HN4 := Lib.hid hn4; have HT4 : Hid (W4.there W3.heap.size 0 (vl u).toArray.size) := (Lib.hid (by have := hn4.there; simpa [vl_length] using this)); clear hn4) | (with_reducible refine wpList_store_mid rfl 91 (.tmp 9) (.tmp 22) rfl W3.heap.size 0 (vl u).toArray rfl rfl HT4.out HI4.out (vl_all _) ?_))
        have HP4 := Lib.hid (HN4.out.put u)
        refine forget_wp (fun W => Hid (Below wr.heap.size wr W ∧ At W W3.heap.size 0 u ∧ W.heap.size = W3.heap.size + 1)) (Lib.hid ⟨HB3.out.trans (HP4.out.1.mono hs3), HP4.out.2.1, HP4.out.2.2⟩) ?_
        intro W5 HB5
        clear HP4 HN4 HT4 HN2 HT2 HP2
        have HS5 := Lib.hid (HSE.out.below HB5.out.1)
        have HO5 := Lib.hid (HO.out.below HB5.out.1)
        have hne : Hid (some W3.heap.size ≠ some w.heap.size) := Lib.hid (fun e => by injection e with e; omega)
        have hmax : Hid (k < maxLen) := Lib.hid (by unfold maxLen; omega)
        have hapart := Lib.hid (seen_apart HS5.out HO5.out)
        have hml : Hid (M.length ≤ 1048576) := Lib.hid (by have := HL.out.2; omega)
        have hs5 : w.heap.size ≤ W5.heap.size := by have := HB5.out.1.size; omega
        go_wp2_with (first | (with_reducible refine wpList_load_mid rfl 91 (.tmp 9) rfl W3.heap.size 0 rfl (vl u) _ HB5.out.2.1.range Tryz.underlyingV rfl HI3.out ?_) | (with_reducible refine wpList_lookup_seen rfl (.tmp 23) (.tmp 24) rfl w.heap.size k M rfl HS5.out u rfl hu7.out ?_; intro rr hrr; have HRR := Lib.hid hrr; clear hrr; cases rr) | (with_reducible refine wpList_update_seen rfl rfl (.tmp 27) (.tmp 28) rfl w.heap.size k M rfl HS5.out hmax.out u rfl hu7.out ?_; intro W6 hs6 hg6; have HS6 := Lib.hid hs6; have HG6 := Lib.hid hg6; have HA6 := Lib.hid (HB5.out.2.1.grown hg6 hne.out); have HO6 := Lib.hid (HO5.out.grown hg6 (Or.inr hapart.out.symm)); clear hs6 hg6) | (with_reducible refine wpList_load_mid rfl 91 (.tmp 9) rfl W3.heap.size 0 rfl (vl u) _ HA6.out.range Tryz.underlyingV rfl HI3.out ?_) | (with_reducible refine wpList_oneV rfl (some 31) rfl (.tmp 30) rfl u rfl ?_; intro W7 hn7; have HN7 := Lib.hid hn7; have HZ7 : Hid (w.heap.size ≤ W7.heap.size) := (Lib.hid (by have := HG6.out.size; have := hn7.size; omega)); have HO7 := Lib.hid (HO6.out.below hn7.below); clear hn7) | (at_builtin; with_reducible refine wpList_appendV rfl (some 32) rfl (.tmp 29) (.tmp 31) rfl w.heap.size (.slice ado M.length capo) M rfl HO7.out W6.heap.size 1 u rfl HN7.out.at' hml.out HZ7.out ?_; intro s8 W8 ho8 hg8; have HO8 := Lib.hid ho8; have HG8 := Lib.hid hg8; clear ho8 hg8))
        · have HS7 := Lib.hid (HS6.out.below HN7.out.below)
          have hap8 := Lib.hid (seen_apart HS7.out HO7.out)
          have HS8 : Hid (Seen W8 w.heap.size (k + 1) (M ++ [u])) := Lib.hid (HS7.out.block (HG8.out.block _ HS7.out.lt hap8.out))
          have HB7 : Hid (Below w.heap.size w W7) := Lib.hid (((HB.out.trans (HB5.out.1.mono hsz)).grown HG6.out (by omega) (fun g hg => by injection hg with hg; omega)).trans (HN7.out.below.mono (by have := HG6.out.size; omega)))
          have HB8 : Hid (Below w.heap.size w W8) := Lib.hid (HB7.out.grown HG8.out (by have := HB7.out.size; omega) (fun g hg => ((HO7.out.lt) g hg).1))
          go_roundw
          case rel => exact ⟨k + 1, M ++ [u], by omega, by go_num, HB8, HO8, HS8, Lib.hid ⟨by rw [HTK.out]; exact HL.out.1.add (by omega) HTM.out HVM.out HUU.out HUW.out, by have := HL.out.2; simp; omega⟩⟩
          case measure => simp [intOf]; omega
        · have HIN : Hid (u ∈ M) := Lib.hid (by
            obtain ⟨x, hx, e⟩ := HRR.out rfl
            rw [← vv_inj (HL.out.1.wd x hx) HUW.out e]
            exact hx)
          go_roundw
          case rel => exact ⟨k + 1, M, by omega, by go_num, Lib.hid (HB.out.trans (HB5.out.1.mono hsz)), HO5, Lib.hid (HS5.out.more (Nat.le_succ _) (fun _ h => h)), Lib.hid ⟨by rw [HTK.out]; exact HL.out.1.skip (by omega) HTM.out (HUU.out.inside (by omega) HIN.out), by have := HL.out.2; omega⟩⟩
          case measure => simp [intOf]; omega
    · have hkk : Hid (L.take k = L) := Lib.hid (List.take_of_length_le (by omega))
      obtain ⟨ado, capo, rfl⟩ := HO.out.shape
      go_wp2
      go_ret
      exact ⟨_, M, rfl, HB.out, HO.out, by rw [← hkk.out]; simpa [hkk.out] using HL.out.1, by have := HL.out.2; omega⟩
end Go.Proofs.YtlopenephgabhaaGreat

namespace Go.Proofs.YtlopenephgabhaaGreat
open Go.RowKit

theorem ins_room {A X : List Value} {k d m : Nat} (hX : X.length = d) (hk : k ≤ m) (hm : m + d ≤ A.length) :
    ((A.take (k + d) ++ (A.take m).drop k ++ A.drop (m + d)).take k ++ X ++ (A.take (k + d) ++ (A.take m).drop k ++ A.drop (m + d)).drop (k + d)).take (m + d) = (A.take m).take k ++ (X ++ (A.take m).drop k) := by
  have h1 : (A.take (k + d)).length = k + d := by rw [List.length_take]; omega
  have h2 : (A.take (k + d) ++ (A.take m).drop k ++ A.drop (m + d)).take k = A.take k := by
    rw [List.append_assoc, List.take_append_of_le_length (by omega), List.take_take, Nat.min_eq_left (by omega)]
  have h3 : (A.take (k + d) ++ (A.take m).drop k ++ A.drop (m + d)).drop (k + d) = (A.take m).drop k ++ A.drop (m + d) := by
    rw [List.append_assoc, List.drop_append_of_le_length (by omega), List.drop_of_length_le (by omega), List.nil_append]
  rw [h2, h3, ← List.append_assoc, List.take_append_of_le_length (by simp; omega), List.take_of_length_le (by simp; omega), List.take_take, Nat.min_eq_left hk, List.append_assoc]
theorem ins_grow {R X Y : List Value} {k d m : Nat} (hX : X.length = d) (hY : Y.length = m - k) (hk : k ≤ m) (hm : m + d ≤ R.length) :
    ((R.take k ++ X ++ R.drop (k + d)).take (k + d) ++ Y ++ (R.take k ++ X ++ R.drop (k + d)).drop (m + d)).take (m + d) = R.take k ++ (X ++ Y) := by
  have h1 : (R.take k ++ X ++ R.drop (k + d)).take (k + d) = R.take k ++ X := by
    rw [List.take_append_of_le_length (by simp; omega), List.take_of_length_le (by simp; omega)]
  rw [h1, List.take_append_of_le_length (by simp; omega), List.take_of_length_le (by simp; omega), List.append_assoc]
theorem cellsOf_cons (v : Lin.V) (L : List Lin.V) : cellsOf (v :: L) = vl v ++ cellsOf L := by simp [cellsOf]
theorem cellsOf_take (L : List Lin.V) : ∀ i, cellsOf (L.take i) = (cellsOf L).take (i * 40) := by
  induction L with
  | nil => intro i; simp [cellsOf]
  | cons v L ih =>
    intro i
    cases i with
    | zero => simp [cellsOf]
    | succ i =>
      rw [List.take_succ_cons, cellsOf_cons, cellsOf_cons, ih, List.take_append, vl_length, List.take_of_length_le (l := vl v) (by rw [vl_length]; omega), show (i + 1) * 40 - 40 = i * 40 by omega]
theorem cellsOf_drop (L : List Lin.V) : ∀ i, cellsOf (L.drop i) = (cellsOf L).drop (i * 40) := by
  induction L with
  | nil => intro i; simp [cellsOf]
  | cons v L ih =>
    intro i
    cases i with
    | zero => simp
    | succ i =>
      rw [List.drop_succ_cons, cellsOf_cons, ih, List.drop_append, vl_length, List.drop_of_length_le (l := vl v) (by rw [vl_length]; omega), show (i + 1) * 40 - 40 = i * 40 by omega, List.nil_append]
theorem cellsOf_ins (L : List Lin.V) (u : Lin.V) (i : Nat) : cellsOf (L.take i ++ u :: L.drop i) = (cellsOf L).take (i * 40) ++ (vl u ++ (cellsOf L).drop (i * 40)) := by
  rw [cellsOf_append, cellsOf_cons, cellsOf_take, cellsOf_drop]
theorem cellsOf_one' (L : List Lin.V) : ∀ u ∈ cellsOf L, u.oneCell' = true := fun u hu => by
  obtain ⟨v, _, h⟩ := List.mem_flatMap.1 hu
  exact vl_one v u h

/-- copy of elements of 40 cells into a block. -/
theorem run_copyV (w : World) (ty : TypeId) (g o dLen dCap : Nat) (a : Addr) (sLen sCap : Nat) (cur : Array Value) (t : TypeId) (cs : List Value)
    (hg : w.heap[g]? = some (.cells cur t (0, 0))) (hn : cs.length = Nat.min sLen dLen * 40)
    (hsrc : ∀ j v, cs[j]? = some v → w.cell? (a.add j) = some v) (hfit : o + cs.length ≤ cur.size) (h1 : ∀ v ∈ cs, v.oneCell' = true) :
    (Builtin.copy_ #[69, 69] ty #[.slice (some ⟨g, o, none⟩) dLen dCap, .slice (some a) sLen sCap]).run Tryz.prog w =
      .ok (goInt (Nat.min sLen dLen)) (w.setRow g (cur.toList.take o ++ cs ++ cur.toList.drop (o + cs.length)).toArray) := by
  have hl := run_loadCells_list (P := Tryz.prog) w a cs hsrc
  have hst := run_storeCells_at Tryz.prog g o t cs 0 cur w hg (by simpa using hfit) h1
  obtain ⟨i, hi, _, hs, _⟩ := info_parts Tryz.infoVz
  simp [Builtin.copy_, run_underlying Tryz.underlyingSV, Builtin.lenOf, Builtin.firstCells, sizeOf, typeInfo, hi, hs, ← hn, hl, hst]

theorem step_copy_run {P : Program} {ops : Array Oper} {o : Oper} {a : Act} {w : World} {K : Act → World → Prop} {Q : Exit → Act → World → Prop} {E : Prop}
    (hg : o.guard = none) (d x : Operand) (dT sT : TypeId) (hop : o.op = Op.call { callee := Callee.builtin Builtin.copy, args := #[d, x], argTypes := #[dT, sT] })
    (v u : Value) (hd : a.eval d = v) (hx : a.eval x = u) {v' : Value} {w' : World} (hr : (Builtin.copy_ #[dT, sT] o.type #[v, u]).run P w = .ok v' w') (hK : K (a.put o.dst v') w') :
    if Region.wanted o (yielded ops a.tmps) = true then Oper.wp P o a w K Q else E := by
  have hw : Region.wanted o (yielded ops a.tmps) = true := by simp [Region.wanted, hg]
  rw [if_pos hw]
  unfold Oper.wp
  simp [execOp, hop, resolve, invoke, builtin, hd, hx, hr, Result.andThen]
  exact hK

theorem hoverlaps (w : World) (b g : Nat) (hne : b ≠ g) (C : Array Value) (tA : TypeId) (cur : Array Value) (t : TypeId) (hb : w.heap[b]? = some (.cells C tA (0, 0))) (hg : w.heap[g]? = some (.cells cur t (0, 0))) (h0 : cur.size ≠ 0) (o la lb ca cb : Nat) :
    (callFunc 110 #[.slice (some ⟨b, 0, none⟩) la ca, .slice (some ⟨g, o, none⟩) lb cb]).run Tryz.prog w = .ok (.value (.bool false)) w := by
  obtain ⟨i, hi, _, hs, _⟩ := info_parts Tryz.infoVz
  have hz : ∀ w, (sizeOf 91).run Tryz.prog w = .ok 40 w := fun w => by simp [sizeOf, typeInfo, hi, hs]
  rw [run_callFunc_extern Tryz.func110 (by kernel_rfl) (by kernel_rfl) (by kernel_rfl) (e := Extern.SlicesOverlaps.overlaps #[69, 69] #[4]) (by kernel_rfl),
    Lib.run_overlaps_apart w 69 4 91 Tryz.underlyingSV 40 hz ⟨b, 0, none⟩ ⟨g, o, none⟩ la ca lb cb hne tA t C.size cur.size (by simp [World.shape?, hb]) (by simp [World.shape?, hg]) h0 (by simp [World.frozen?, hb]) (by simp [World.frozen?, hb])]
  rfl

def InsR (base : Nat) (s : Value) (L : List Lin.V) (w : World) (e : Ending) (w' : World) : Prop := ∃ s', e = .returned s' ∧ Ow base w' s' L ∧ w.grownBy w' s.ownBlock

set_option maxHeartbeats 3200000 in
set_option maxRecDepth 100000 in
theorem insert_room (base g n c b i : Nat) (cur : Array Value) (L : List Lin.V) (u : Lin.V) (w : World) (hgb : base ≤ g) (hg : w.heap[g]? = some (.cells cur 91 (0, 0))) (hn : L.length = n) (hi : i < n) (hc : n + 1 ≤ c) (hcm : c ≤ maxLen) (hcs : cur.size = c * 40)
    (htk : cur.toList.take (n * 40) = cellsOf L) (hb : w.heap[b]? = some (.cells (vl u).toArray 91 (0, 0))) (hne : b ≠ g) :
    Calls Tryz.prog 106 #[.slice (some ⟨g, 0, none⟩) n c, .int .i64 i, .slice (some ⟨b, 0, none⟩) 1 1] w (InsR base (.slice (some ⟨g, 0, none⟩) n c) (L.take i ++ u :: L.drop i) w) := by
  have hz2 : ¬ ((i : Int) = (n : Int)) := by omega
  have hcm2 : c ≤ 9223372036854775807 := hcm
  have hw1 : IntKind.i64.wrap ((i : Int) + 1) = (i : Int) + 1 := by rw [IntKind.wrap_i64]; omega
  have hb1 : (0 : Int) ≤ (i : Int) + 1 := by omega
  have hin : i ≤ n := by omega
  have htn : ((i : Int) + 1).toNat = i + 1 := by omega
  have hb2 : ¬ (c = i + 1) := by omega
  have hb3 : (i : Int) ≤ (n : Int) + 1 := by omega
  have hb4 : ¬ (c = i) := by omega
  go_enter Tryz.func106, Tryz.ntmps106
  obtain ⟨Y, hY⟩ : ∃ Y, Y = (cur.toList.take (n * 40)).drop (i * 40) := ⟨_, rfl⟩
  have hsz : cur.toList.length = c * 40 := by simpa using hcs
  have hYl : Y.length = (n - i) * 40 := by rw [hY, List.length_drop, List.length_take, hsz]; omega
  have hY1 : ∀ v ∈ Y, v.oneCell' = true := fun v hv => cellsOf_one' L v (by rw [← htk]; rw [hY] at hv; exact List.mem_of_mem_drop hv)
  obtain ⟨R, hR⟩ : ∃ R : Array Value, R = (cur.toList.take ((i + 1) * 40) ++ Y ++ cur.toList.drop ((i + 1) * 40 + Y.length)).toArray := ⟨_, rfl⟩
  have hgd : w.drew.heap[g]? = some (.cells cur 91 (0, 0)) := hg
  have hcp1 : ∀ ty dc sc, (Builtin.copy_ #[69, 69] ty #[.slice (some ⟨g, (i + 1) * 40, none⟩) (n - i) dc, .slice (some ⟨g, i * 40, none⟩) (n + 1 - i) sc]).run Tryz.prog w.drew = .ok (goInt ((n - i : Nat) : Int)) (w.drew.setRow g R) := fun ty dc sc => by
    have h := run_copyV w.drew ty g ((i + 1) * 40) (n - i) dc ⟨g, i * 40, none⟩ (n + 1 - i) sc cur 91 Y hgd (by rw [hYl]; congr 1; simp only [Nat.min_def]; split <;> omega)
      (fun j v hj => by
        rw [Addr.add_mid, cell_of_row _ _ _ _ _ _ hgd]
        rw [hY, List.getElem?_drop, List.getElem?_take] at hj
        split at hj
        · simpa using hj
        · cases hj) (by rw [hYl, hcs]; omega) hY1
    rw [show Nat.min (n + 1 - i) (n - i) = n - i by simp only [Nat.min_def]; split <;> omega] at h
    rw [hR]
    exact h
  obtain ⟨W1, hW1⟩ : ∃ W1, W1 = w.drew.setRow g R := ⟨_, rfl⟩
  have hg1 : W1.heap[g]? = some (.cells R 91 (0, 0)) := by rw [hW1]; exact setRow_heap _ _ _ _ _ _ hgd
  have hb1' : W1.heap[b]? = some (.cells (vl u).toArray 91 (0, 0)) := by rw [hW1, setRow_other _ _ _ _ hne]; exact hb
  have hRl : R.toList.length = c * 40 := by rw [hR]; simp only [List.length_append, List.length_take, List.length_drop, hYl, hsz]; omega
  obtain ⟨R2, hR2⟩ : ∃ R2 : Array Value, R2 = (R.toList.take (i * 40) ++ vl u ++ R.toList.drop (i * 40 + (vl u).length)).toArray := ⟨_, rfl⟩
  have hcp2 : ∀ ty dl dc sc, 1 ≤ dl → (Builtin.copy_ #[69, 69] ty #[.slice (some ⟨g, i * 40, none⟩) dl dc, .slice (some ⟨b, 0, none⟩) 1 sc]).run Tryz.prog W1 = .ok (goInt 1) (W1.setRow g R2) := fun ty dl dc sc hdl => by
    have hmin : Nat.min 1 dl = 1 := by simp only [Nat.min_def]; split <;> omega
    have h := run_copyV W1 ty g (i * 40) dl dc ⟨b, 0, none⟩ 1 sc R 91 (vl u) hg1 (by rw [hmin, vl_length])
      (fun j v hj => by
        rw [Addr.add_mid, cell_of_row _ _ _ _ _ _ hb1']
        simpa using hj) (by rw [vl_length]; have : R.size = c * 40 := by simpa using hRl
                            omega) (vl_one u)
    rw [hmin] at h
    rw [hR2]
    exact h
  have HFIN : Hid (Ow base (W1.setRow g R2) (.slice (some ⟨g, 0, none⟩) (n + 1) c) (L.take i ++ u :: L.drop i) ∧ w.grownBy (W1.setRow g R2) (some g)) := Lib.hid (by
    have hlen : (L.take i ++ u :: L.drop i).length = n + 1 := by simp [hn]; omega
    refine ⟨⟨cellsOf_length _, Or.inr ⟨g, c, R2, by rw [hlen], hgb, setRow_heap _ _ _ _ _ _ hg1, by omega, hcm, ?_, ?_⟩⟩, ?_⟩
    · have : R2.toList.length = c * 40 := by rw [hR2]; simp only [List.length_append, List.length_take, List.length_drop, vl_length, hRl]; omega
      simpa using this
    · rw [hlen, cellsOf_ins, ← htk, ← hY, hR2, hR]
      have h := ins_room (A := cur.toList) (X := vl u) (k := i * 40) (d := 40) (m := n * 40) (vl_length u) (by omega) (by rw [hsz]; omega)
      rw [← hY] at h
      simp only [vl_length, hYl]
      rw [show (i + 1) * 40 = i * 40 + 40 by omega, show i * 40 + 40 + (n - i) * 40 = n * 40 + 40 by omega, show (n + 1) * 40 = n * 40 + 40 by omega]
      exact h
    · refine ⟨by rw [hW1]; rfl, by rw [hW1]; rfl, by rw [hW1]; rfl, by rw [hW1]; simp, fun k hk hkg => ?_⟩
      have hkg' : k ≠ g := fun e => hkg (by rw [e])
      rw [setRow_other _ _ _ _ hkg', hW1, setRow_other _ _ _ _ hkg']
      rfl)
  rw [← hW1] at hcp1
  have hov := fun o la lb ca cb => hoverlaps w b g hne _ _ cur _ hb hg (by rw [hcs]; omega) o la lb ca cb
  clear hY hsz hYl hY1 hR hgd hW1 hg1 hb1' hRl hR2 htk hg hb
  go_wp2_with (simp only [hov])
  go_region_law (refine step_copy_run rfl _ _ 69 69 rfl _ _ (by simp [Act.eval, Act.put]) (by simp [Act.eval, Act.put]) (hcp1 _ _ _) ?_)
  have hcp3 := hcp2 3 (n + 1 - i) (c - i) 1 (by omega)
  clear hcp1 hcp2
  go_wp2
  go_ret
  exact ⟨_, rfl, HFIN.out.1, HFIN.out.2⟩
set_option maxHeartbeats 3200000 in
set_option maxRecDepth 100000 in
theorem insert_grow (base g n b i : Nat) (cur : Array Value) (L : List Lin.V) (u : Lin.V) (w : World) (hbw : base ≤ w.heap.size) (hg : w.heap[g]? = some (.cells cur 91 (0, 0))) (hn : L.length = n) (hi : i < n) (hn2 : n ≤ 1048576) (hcs : cur.size = n * 40)
    (htk : cur.toList.take (n * 40) = cellsOf L) (hb : w.heap[b]? = some (.cells (vl u).toArray 91 (0, 0))) :
    Calls Tryz.prog 106 #[.slice (some ⟨g, 0, none⟩) n n, .int .i64 i, .slice (some ⟨b, 0, none⟩) 1 1] w (InsR base (.slice (some ⟨g, 0, none⟩) n n) (L.take i ++ u :: L.drop i) w) := by
  have hz2 : ¬ ((i : Int) = (n : Int)) := by omega
  have hw1 : IntKind.i64.wrap ((i : Int) + 1) = (i : Int) + 1 := by rw [IntKind.wrap_i64]; omega
  have hb1 : (0 : Int) ≤ (i : Int) + 1 := by omega
  have hin : i ≤ n := by omega
  have htn : ((i : Int) + 1).toNat = i + 1 := by omega
  have hb3 : (i : Int) ≤ (n : Int) + 1 := by omega
  have hci : ¬ (n = i) := by omega
  have hgw : g < w.heap.size := (Array.getElem?_eq_some_iff.1 hg).1
  have hbw2 : b < w.heap.size := (Array.getElem?_eq_some_iff.1 hb).1
  obtain ⟨i0, hi0, hz0, hzs, hzb⟩ := info_parts Tryz.infoVz
  have hgd : w.drew.heap[g]? = some (.cells cur 91 (0, 0)) := hg
  have hsz : cur.toList.length = n * 40 := by simpa using hcs
  obtain ⟨X, hX⟩ : ∃ X, X = cur.toList.take (i * 40) := ⟨_, rfl⟩
  have hXl : X.length = i * 40 := by rw [hX, List.length_take, hsz]; omega
  obtain ⟨Y, hY⟩ : ∃ Y, Y = (cur.toList.take (n * 40)).drop (i * 40) := ⟨_, rfl⟩
  have hYl : Y.length = (n - i) * 40 := by rw [hY, List.length_drop, List.length_take, hsz]; omega
  have hY1 : ∀ v ∈ Y, v.oneCell' = true := fun v hv => cellsOf_one' L v (by rw [← htk]; rw [hY] at hv; exact List.mem_of_mem_drop hv)
  have hold : (Builtin.firstCells i0.size i (.slice (some ⟨g, 0, none⟩) i n)).run Tryz.prog w.drew = .ok X.toArray w.drew := by
    rw [hzs]
    exact run_firstCells_some w.drew 40 i ⟨g, 0, none⟩ i n X hXl (fun j v hj => by
      rw [Addr.add_mid, cell_of_row _ _ _ _ _ _ hgd]
      rw [hX, List.getElem?_take] at hj
      split at hj
      · simpa using hj
      · cases hj)
  have hik : i + (n + 1 - i) = n + 1 := by omega
  have hkk : (n : Int) + 1 - (i : Int) = ((n + 1 - i : Nat) : Int) := by omega
  obtain ⟨G, hG⟩ : ∃ G, G = grownCap w (n + 1) n 91 := ⟨_, rfl⟩
  have hGn : n + 1 ≤ G := by rw [hG]; exact grownCap_ge w _ _ _
  have hGm : G ≤ maxLen := by rw [hG]; exact grownCap_le_maxLen w (n + 1) n _ (by unfold maxLen; omega)
  obtain ⟨ROW, hROW⟩ : ∃ ROW : Array Value, ROW = X.toArray ++ Builtin.zeroCells (Value.agg zl.toArray).cells (n + 1 - i) ++ Builtin.zeroCells (Value.agg zl.toArray).cells (G - (n + 1)) := ⟨_, rfl⟩
  have hrz : ∀ ty, (Builtin.append_ #[69, 3] ty #[.slice (some ⟨g, 0, none⟩) i n, .int .i64 ((n : Int) + 1 - (i : Int))]).run Tryz.prog w = .ok (.slice (some ⟨w.heap.size, 0, none⟩) (n + 1) G) (w.drew.alloc (.cells ROW 91)) := fun ty => by
    have h := Lib.run_append_grow_zeros w 69 3 ty 91 i0 _ .i64 .i64 Tryz.underlyingSV Tryz.underlying3 hi0 hz0 (some ⟨g, 0, none⟩) i n X hold (n + 1 - i) (by omega) (by omega) (by omega) (by omega) (by rw [hzb]; omega) (by rw [hzb, hik]; exact growslice_fits (by omega) (by omega))
    rw [hik] at h
    rw [hkk, hROW, hG]
    exact h
  have hRl : ROW.toList.length = G * 40 := by
    rw [hROW]
    have : (zl.toArray).size = 40 := by simp [zl_length]
    simp [Builtin.zeroCells, Value.cells, hXl, zl_length]
    omega
  have hRt : ROW.toList.take (i * 40) = X := by
    rw [hROW]
    simp [hXl]
  obtain ⟨W1, hW1⟩ : ∃ W1, W1 = w.drew.alloc (.cells ROW 91) := ⟨_, rfl⟩
  have hN1 : W1.heap[w.heap.size]? = some (.cells ROW 91 (0, 0)) := by rw [hW1]; exact heap_alloc_new w.drew _
  have hO1 : ∀ k, k < w.heap.size → W1.heap[k]? = w.heap[k]? := fun k hk => by rw [hW1]; exact heap_alloc_old w.drew _ (r := k) hk
  obtain ⟨R2, hR2⟩ : ∃ R2 : Array Value, R2 = (ROW.toList.take (i * 40) ++ vl u ++ ROW.toList.drop (i * 40 + (vl u).length)).toArray := ⟨_, rfl⟩
  have hR2l : R2.toList.length = G * 40 := by rw [hR2]; simp only [List.length_append, List.length_take, List.length_drop, vl_length, hRl]; omega
  have hcp1 : ∀ ty dl dc sc, 1 ≤ dl → (Builtin.copy_ #[69, 69] ty #[.slice (some ⟨w.heap.size, i * 40, none⟩) dl dc, .slice (some ⟨b, 0, none⟩) 1 sc]).run Tryz.prog W1 = .ok (goInt 1) (W1.setRow w.heap.size R2) := fun ty dl dc sc hdl => by
    have hmin : Nat.min 1 dl = 1 := by simp only [Nat.min_def]; split <;> omega
    have h := run_copyV W1 ty w.heap.size (i * 40) dl dc ⟨b, 0, none⟩ 1 sc ROW 91 (vl u) hN1 (by rw [hmin, vl_length])
      (fun j v hj => by
        rw [Addr.add_mid, cell_of_row _ _ _ _ _ _ ((hO1 b hbw2).trans hb)]
        simpa using hj) (by rw [vl_length]; have : ROW.size = G * 40 := by simpa using hRl
                            omega) (vl_one u)
    rw [hmin] at h
    rw [hR2]
    exact h
  obtain ⟨W2, hW2⟩ : ∃ W2, W2 = W1.setRow w.heap.size R2 := ⟨_, rfl⟩
  have hN2 : W2.heap[w.heap.size]? = some (.cells R2 91 (0, 0)) := by rw [hW2]; exact setRow_heap _ _ _ _ _ _ hN1
  have hO2 : ∀ k, k < w.heap.size → W2.heap[k]? = w.heap[k]? := fun k hk => by
    rw [hW2]
    show (W1.setRow w.heap.size R2).heap[k]? = _
    rw [setRow_other _ _ _ _ (by omega)]
    exact hO1 k hk
  obtain ⟨R3, hR3⟩ : ∃ R3 : Array Value, R3 = (R2.toList.take ((i + 1) * 40) ++ Y ++ R2.toList.drop ((i + 1) * 40 + Y.length)).toArray := ⟨_, rfl⟩
  have hcp2 : ∀ ty dc sc, (Builtin.copy_ #[69, 69] ty #[.slice (some ⟨w.heap.size, (i + 1) * 40, none⟩) (n - i) dc, .slice (some ⟨g, i * 40, none⟩) (n - i) sc]).run Tryz.prog W2.drew = .ok (goInt ((n - i : Nat) : Int)) (W2.drew.setRow w.heap.size R3) := fun ty dc sc => by
    have h := run_copyV W2.drew ty w.heap.size ((i + 1) * 40) (n - i) dc ⟨g, i * 40, none⟩ (n - i) sc R2 91 Y hN2 (by rw [hYl]; congr 1; simp)
      (fun j v hj => by
        rw [Addr.add_mid]
        show W2.cell? _ = _
        rw [cell_of_row _ _ _ _ _ _ ((hO2 g hgw).trans hg)]
        rw [hY, List.getElem?_drop, List.getElem?_take] at hj
        split at hj
        · simpa using hj
        · cases hj) (by rw [hYl]; have : R2.size = G * 40 := by simpa using hR2l
                        omega) hY1
    rw [show Nat.min (n - i) (n - i) = n - i by simp] at h
    rw [hR3]
    exact h
  have HFIN : Hid (Ow base (W2.drew.setRow w.heap.size R3) (.slice (some ⟨w.heap.size, 0, none⟩) (n + 1) G) (L.take i ++ u :: L.drop i) ∧ w.grownBy (W2.drew.setRow w.heap.size R3) (some g)) := Lib.hid (by
    have hlen : (L.take i ++ u :: L.drop i).length = n + 1 := by simp [hn]; omega
    refine ⟨⟨cellsOf_length _, Or.inr ⟨w.heap.size, G, R3, by rw [hlen], hbw, setRow_heap _ _ _ _ _ _ hN2, by omega, hGm, ?_, ?_⟩⟩, ?_⟩
    · have : R3.toList.length = G * 40 := by rw [hR3]; simp only [List.length_append, List.length_take, List.length_drop, hYl, hR2l]; omega
      simpa using this
    · rw [hlen, cellsOf_ins, ← htk, ← hY, hR3, hR2]
      have h := ins_grow (R := ROW.toList) (X := vl u) (Y := Y) (k := i * 40) (d := 40) (m := n * 40) (vl_length u) (by rw [hYl]; omega) (by omega) (by rw [hRl]; omega)
      simp only [vl_length, hYl]
      rw [show (i + 1) * 40 = i * 40 + 40 by omega, show i * 40 + 40 + (n - i) * 40 = n * 40 + 40 by omega, show (n + 1) * 40 = n * 40 + 40 by omega]
      rw [h, hRt, hX, List.take_take, Nat.min_eq_left (by omega)]
    · have hs2 : W2.heap.size = w.heap.size + 1 := by
        rw [hW2]
        show (W1.setRow w.heap.size R2).heap.size = _
        rw [setRow_size, hW1]
        simp
      refine ⟨by rw [hW2, hW1]; rfl, by rw [hW2, hW1]; rfl, by rw [hW2, hW1]; rfl, by rw [setRow_size]; show _ ≤ W2.heap.size; rw [hs2]; omega, fun k hk _ => ?_⟩
      rw [setRow_other _ _ _ _ (by omega)]
      exact hO2 k hk)
  rw [← hW1] at hrz
  rw [← hW2] at hcp1
  have hcp3 := hcp1 3 (n + 1 - i) (G - i) 1 (by omega)
  have hGi : ¬ (G = i) := by omega
  have hGim : ¬ (G = i + 1) := by omega
  unfold maxLen at hGm
  clear hY hsz hYl hY1 hgd hRl hRt hN1 hO1 hW1 hW2 hR2 hR2l hN2 hO2 hR3 htk hg hb hX hXl hold hik hkk hG hROW hcp1 hi0 hz0 hzs hzb hcs
  go_enter Tryz.func106, Tryz.ntmps106
  go_wp2_with (at_builtin; refine Lib.wpList_append_run _ rfl _ _ _ _ rfl _ _ rfl rfl _ _ (hrz _) ?_)
  go_region_law (refine step_copy_run rfl _ _ 69 69 rfl _ _ (by simp [Act.eval, Act.put]) (by simp [Act.eval, Act.put]) (hcp2 _ _ _) ?_)
  go_wp2
  go_ret
  exact ⟨_, rfl, HFIN.out.1, HFIN.out.2⟩
set_option maxHeartbeats 3200000 in
set_option maxRecDepth 100000 in
theorem insert_end (base b : Nat) (s : Value) (L : List Lin.V) (u : Lin.V) (w : World) (hbw : base ≤ w.heap.size) (hs : Ow base w s L) (hl : L.length ≤ 1048576) (hb : At w b 0 u) :
    Calls Tryz.prog 106 #[s, .int .i64 (L.length : Int), .slice (some ⟨b, 0, none⟩) 1 1] w (InsR base s (L ++ [u]) w) := by
  have HS := Lib.hid hs
  have HB := Lib.hid hb
  obtain ⟨n, hn⟩ : ∃ n, n = L.length := ⟨_, rfl⟩
  have HN := Lib.hid hn
  have hnl : n ≤ 1048576 := by omega
  rcases hs.2 with ⟨rfl, h0⟩ | ⟨g, c, cur, rfl, _, _, hnc, hcm, _⟩
  · rw [h0]
    clear hs hb hn
    go_enter Tryz.func106, Tryz.ntmps106
    go_wp2_with (at_builtin; refine wpList_appendV rfl (some 25) rfl (.tmp 23) (.tmp 24) rfl base _ L rfl HS.out b _ u rfl HB.out hl hbw ?_; intro s' w' hw' hgr; have HW := Lib.hid hw'; have HG := Lib.hid hgr; clear hw' hgr)
    go_ret
    exact ⟨_, rfl, HW.out, HG.out⟩
  · rw [← hn] at hnc HS ⊢
    have hcm2 : c ≤ 9223372036854775807 := hcm
    have hbn : ((n : Int) == (n : Int)) = true := by simp
    clear hs hb hcm hn
    by_cases hcn : c = n
    · subst hcn
      go_enter Tryz.func106, Tryz.ntmps106
      go_wp2_with (at_builtin; refine wpList_appendV rfl (some 25) rfl (.tmp 23) (.tmp 24) rfl base _ L rfl HS.out b _ u rfl HB.out hl hbw ?_; intro s' w' hw' hgr; have HW := Lib.hid hw'; have HG := Lib.hid hgr; clear hw' hgr)
      go_ret
      exact ⟨_, rfl, HW.out, HG.out⟩
    · have hcn2 : ¬ (c ≤ n) := by omega
      go_enter Tryz.func106, Tryz.ntmps106
      go_wp2_with (at_builtin; refine wpList_appendV rfl (some 25) rfl (.tmp 23) (.tmp 24) rfl base _ L rfl HS.out b _ u rfl HB.out hl hbw ?_; intro s' w' hw' hgr; have HW := Lib.hid hw'; have HG := Lib.hid hgr; clear hw' hgr)
      go_ret
      exact ⟨_, rfl, HW.out, HG.out⟩

theorem insert_any (base b i : Nat) (s : Value) (L : List Lin.V) (u : Lin.V) (w : World) (hbw : base ≤ w.heap.size) (hs : Ow base w s L) (hl : L.length ≤ 1048576) (hi : i ≤ L.length) (hb : w.heap[b]? = some (.cells (vl u).toArray 91 (0, 0))) (hne : some b ≠ s.ownBlock) :
    Calls Tryz.prog 106 #[s, .int .i64 (i : Int), .slice (some ⟨b, 0, none⟩) 1 1] w (InsR base s (L.take i ++ u :: L.drop i) w) := by
  by_cases hin : i = L.length
  · subst hin
    rw [List.take_length, List.drop_length]
    exact insert_end base b s L u w hbw hs hl (at_of_block hb)
  · rcases hs.2 with ⟨rfl, h0⟩ | ⟨g, c, cur, rfl, hg, hh, hnc, hcm, hcs, htk⟩
    · omega
    · by_cases hroom : L.length + 1 ≤ c
      · exact insert_room base g L.length c b i cur L u w hg hh rfl (by omega) hroom hcm hcs htk hb (fun e => hne (by rw [e]; rfl))
      · obtain rfl : c = L.length := by omega
        exact insert_grow base g L.length b i cur L u w hbw hh rfl (by omega) hl hcs htk hb
end Go.Proofs.YtlopenephgabhaaGreat

namespace Go.Proofs.YtlopenephgabhaaGreat
open Go.RowKit

theorem block_setCell' {w : World} {g i : Nat} {cs : Array Value} {t : TypeId} {fr : Nat × Nat} (h : w.heap[g]? = some (.cells cs t fr)) (v : Value) : (w.setCell ⟨g, i, none⟩ v).heap[g]? = some (.cells (cs.setIfInBounds i v) t fr) := by
  rw [setCell_eq_setRow w g i cs t fr v h]
  exact setRow_heap w g _ _ t _ h
theorem setCells_row (g : Nat) (t : TypeId) (fr : Nat × Nat) : ∀ (vs : List Value) (o : Nat) (cur : Array Value) (w : World), w.heap[g]? = some (.cells cur t fr) → o + vs.length ≤ cur.size →
    (w.setCells g o vs).heap[g]? = some (.cells (cur.toList.take o ++ vs ++ cur.toList.drop (o + vs.length)).toArray t fr)
  | [], o, cur, w, h, _ => by simpa [World.setCells] using h
  | v :: rest, o, cur, w, h, hl => by
    have ih := setCells_row g t fr rest (o + 1) (cur.setIfInBounds o v) (w.setCell ⟨g, o, none⟩ v) (block_setCell' h v) (by simp at hl ⊢; omega)
    rw [World.setCells, ih]
    congr 3
    have e := list_seg_step cur.toList o v rest (by simp at hl ⊢; omega)
    simpa [Array.toList_setIfInBounds] using e
theorem setCells_other (g k : Nat) (h : k ≠ g) : ∀ (vs : List Value) (o : Nat) (w : World), (w.setCells g o vs).heap[k]? = w.heap[k]?
  | [], _, _ => rfl
  | v :: rest, o, w => by
    rw [World.setCells, setCells_other g k h rest (o + 1)]
    exact Below.heap_setCell w ⟨g, o, none⟩ v k h
theorem setCells_rest (g : Nat) : ∀ (vs : List Value) (o : Nat) (w : World), (w.setCells g o vs).os = w.os ∧ (w.setCells g o vs).tape = w.tape ∧ (w.setCells g o vs).output = w.output ∧ (w.setCells g o vs).heap.size = w.heap.size
  | [], _, _ => ⟨rfl, rfl, rfl, rfl⟩
  | v :: rest, o, w => by
    rw [World.setCells]
    obtain ⟨h1, h2, h3, h4⟩ := setCells_rest g rest (o + 1) (w.setCell ⟨g, o, none⟩ v)
    exact ⟨h1, h2, h3, h4.trans (by simp [World.setCell])⟩
theorem grown_setCells (w : World) (g o : Nat) (vs : List Value) : w.grownBy (w.setCells g o vs) (some g) := by
  obtain ⟨h1, h2, h3, h4⟩ := setCells_rest g vs o w
  exact ⟨h1, h2, h3, by omega, fun k _ hne => setCells_other g k (fun e => hne (by rw [e])) vs o w⟩
theorem grown_trans {a b c : World} {row : Option Nat} (h : a.grownBy b row) (k : b.grownBy c row) : a.grownBy c row :=
  ⟨k.os.trans h.os, k.tape.trans h.tape, k.output.trans h.output, Nat.le_trans h.size k.size, fun i hi hne => (k.block i (Nat.lt_of_lt_of_le hi h.size) hne).trans (h.block i hi hne)⟩
theorem grown_refl (w : World) (row : Option Nat) : w.grownBy w row := ⟨rfl, rfl, rfl, Nat.le_refl _, fun _ _ _ => rfl⟩
theorem grown_below {a b c : World} {row : Option Nat} (h : a.grownBy b row) (k : Below b.heap.size b c) : a.grownBy c row :=
  ⟨k.os.trans h.os, k.tape.trans h.tape, k.output.trans h.output, Nat.le_trans h.size k.size, fun i hi hne => (k.block i (Nat.lt_of_lt_of_le hi h.size)).trans (h.block i hi hne)⟩
/-- An owned slice of vectors that is not empty. -/
structure Ox (base : Nat) (w : World) (g cap : Nat) (L : List Lin.V) : Prop where
  lo : base ≤ g
  own : Ow base w (.slice (some ⟨g, 0, none⟩) L.length cap) L
theorem Ox.lt {base : Nat} {w : World} {g cap : Nat} {L : List Lin.V} (h : Ox base w g cap L) : g < w.heap.size := by
  rcases h.own.2 with ⟨h0, _⟩ | ⟨g', c', cur, hv, _, hh, _⟩
  · cases h0
  · injection hv with e1 _ _
    injection e1 with e1
    injection e1 with e1
    subst e1
    exact (Array.getElem?_eq_some_iff.1 hh).1
theorem Ox.at' {base : Nat} {w : World} {g cap : Nat} {L : List Lin.V} (h : Ox base w g cap L) {k : Nat} (hk : k < L.length) : At w g (k * 40) L[k] := by
  rcases h.own.vs with ⟨h0, _⟩ | ⟨b, o, c, hv, _, _, hc⟩
  · rw [h0] at hk; exact absurd hk (Nat.not_lt_zero _)
  · injection hv with e1 _ _
    injection e1 with e1
    injection e1 with e1 e2
    subst e1 e2
    have := hc k hk
    rwa [Nat.zero_add] at this
theorem Ox.below {base : Nat} {w w' : World} {g cap : Nat} {L : List Lin.V} (h : Ox base w g cap L) (hb : Below w.heap.size w w') : Ox base w' g cap L := ⟨h.lo, h.own.below hb⟩
theorem cellsOf_set {L : List Lin.V} {k : Nat} (hk : k < L.length) (x : Lin.V) : cellsOf (L.set k x) = (cellsOf L).take (k * 40) ++ vl x ++ (cellsOf L).drop (k * 40 + 40) := by
  rw [List.set_eq_take_append_cons_drop, if_pos hk, cellsOf_append, cellsOf_cons, cellsOf_take, cellsOf_drop, show (k + 1) * 40 = k * 40 + 40 by omega, List.append_assoc]
theorem Ox.put {base : Nat} {w : World} {g cap : Nat} {L : List Lin.V} (h : Ox base w g cap L) {k : Nat} (hk : k < L.length) (x : Lin.V) : Ox base (w.setCells g (k * 40) (vl x)) g cap (L.set k x) ∧ w.there g (k * 40) 40 := by
  rcases h.own.2 with ⟨h0, _⟩ | ⟨g', c', cur, hv, hlo, hh, hnc, hcm, hcs, htk⟩
  · cases h0
  · injection hv with e1 _ e3
    injection e1 with e1
    injection e1 with e1
    subst e1 e3
    have hkc : k * 40 + 40 ≤ cap * 40 := by
      have : (k + 1) * 40 ≤ cap * 40 := Nat.mul_le_mul_right 40 (by omega)
      omega
    have hb := setCells_row g 91 (0, 0) (vl x) (k * 40) cur w hh (by rw [vl_length, hcs]; exact hkc)
    refine ⟨⟨h.lo, ⟨cellsOf_length _, Or.inr ⟨g, cap, _, rfl, hlo, hb, by simpa using hnc, hcm, ?_, ?_⟩⟩⟩, fun j hj => ⟨?_, by simp [World.frozen?, hh]⟩⟩
    · have hsz : cur.toList.length = cap * 40 := by simpa using hcs
      simp only [List.size_toArray, List.length_append, List.length_take, List.length_drop, vl_length, hsz]
      omega
    · rw [cellsOf_set hk, ← htk]
      have hkn : k * 40 + 40 ≤ L.length * 40 := by
        have : (k + 1) * 40 ≤ L.length * 40 := Nat.mul_le_mul_right 40 hk
        omega
      have hnc' : L.length * 40 ≤ cap * 40 := Nat.mul_le_mul_right 40 hnc
      have hsz : cur.toList.length = cap * 40 := by simpa using hcs
      rw [List.length_set, vl_length, List.take_take, Nat.min_eq_left (by omega), List.drop_take]
      simp only [List.append_assoc]
      rw [List.take_append, List.take_append, List.length_take, vl_length, hsz, Nat.min_eq_left (by omega), List.take_of_length_le (l := cur.toList.take (k * 40)) (by rw [List.length_take]; omega), List.take_of_length_le (l := vl x) (by rw [vl_length]; omega),
        show L.length * 40 - k * 40 - 40 = L.length * 40 - (k * 40 + 40) by omega]
    · rw [cell_of_row _ _ _ _ _ _ hh, Array.getElem?_eq_getElem (by rw [hcs]; omega)]
      rfl
theorem Ow.cases {base : Nat} {w : World} {s : Value} {L : List Lin.V} (h : Ow base w s L) {C : Prop} (h0 : s = .slice none 0 0 → L = [] → C) (h1 : ∀ g cap, s = .slice (some ⟨g, 0, none⟩) L.length cap → Ox base w g cap L → C) : C := by
  rcases h.2 with ⟨hs, hl⟩ | ⟨g, cap, cur, hs, hlo, r⟩
  · exact h0 hs (List.eq_nil_of_length_eq_zero hl)
  · exact h1 g cap hs ⟨hlo, by rw [← hs]; exact h⟩
theorem hindexS (g : Nat) {k n : Nat} (cap : Nat) (hk : k < n) (w : World) : (Instr.indexAt 69 (.slice (some ⟨g, 0, none⟩) n cap) (.int .i64 k)).run Tryz.prog w = .ok (.pointer (some ⟨g, k * 40, none⟩)) w := by
  have h2 : (0 : Int) ≤ (k : Int) := by omega
  have h3 : (k : Int) < (n : Int) := by omega
  go_simp

/-- The rows, the first k of them cleared at the new row's lead. -/
noncomputable def clr (p : Int) (u : Lin.V) (x : Lin.V) : Lin.V := Lin.add p x (-(x (Lin.ld u))) u
noncomputable def part (p : Int) (u : Lin.V) (L : List Lin.V) (k : Nat) : List Lin.V := (L.take k).map (clr p u) ++ L.drop k
theorem part_length (p : Int) (u : Lin.V) (L : List Lin.V) (k : Nat) : (part p u L k).length = L.length := by simp [part]; omega
theorem part_get (p : Int) (u : Lin.V) (L : List Lin.V) {k : Nat} (hk : k < L.length) : (part p u L k)[k]'(by rw [part_length]; exact hk) = L[k] := by
  have hl : ((L.take k).map (clr p u)).length = k := by simp; omega
  simp only [part]
  rw [List.getElem_append_right (by omega)]
  simp only [hl, Nat.sub_self, List.getElem_drop, Nat.add_zero]
theorem part_set (p : Int) (u : Lin.V) (L : List Lin.V) {k : Nat} (hk : k < L.length) : (part p u L k).set k (clr p u L[k]) = part p u L (k + 1) := by
  have hl : ((L.take k).map (clr p u)).length = k := by simp; omega
  unfold part
  rw [List.set_append_right _ _ (by omega), hl, Nat.sub_self, List.drop_eq_getElem_cons hk, List.set_cons_zero, List.take_succ_eq_append_getElem hk, List.map_append, List.append_assoc]
  rfl

def InrR (p : Int) (base : Nat) (s : Value) (L : List Lin.V) (u : Lin.V) (w : World) (e : Ending) (w' : World) : Prop :=
  ∃ s' k, e = .returned s' ∧ Ow base w' s' (Lin.put p L k u) ∧ w.grownBy w' s.ownBlock ∧ k ≤ L.length ∧ (∀ x ∈ L.take k, Lin.ld x < Lin.ld u) ∧ ∀ x ∈ L.drop k, ¬ Lin.ld x < Lin.ld u

set_option maxHeartbeats 3200000 in
set_option maxRecDepth 100000 in
theorem insertRow_any (p : Int) (base : Nat) (s : Value) (L : List Lin.V) (u : Lin.V) (w : World) (hp : IsP p) (hbw : base ≤ w.heap.size) (hs : Ow base w s L) (hL : Lin.Red p L) (hLw : ∀ x ∈ L, Lin.Wd 40 x) (hl : L.length ≤ 1048575)
    (hm : Lin.Md p u) (hw : Lin.Wd 40 u) (hne : u ≠ Lin.zv) : Calls Tryz.prog 100 #[.int .i64 p, s, vv u] w (InrR p base s L u w) := by
  have HP := Lib.hid hp
  have HM := Lib.hid hm
  have HW := Lib.hid hw
  have HNE := Lib.hid hne
  have HL := Lib.hid hL
  have HLW := Lib.hid hLw
  have hp7 := hp.hi7
  have hp1 := hp.lo1
  obtain ⟨d, hd⟩ : ∃ d, d = Lin.ld u := ⟨_, rfl⟩
  have hd40 : d < 40 := by rw [hd]; exact (ld_lt hw hne).1
  have HD := Lib.hid hd
  have HI := Lib.hid (Tryz.infoVl u)
  have HAT := Lib.hid (at_alloc w u 91)
  have HB0 := Lib.hid (below_alloc1 w (.cells (vl u).toArray 91))
  refine Ow.cases hs (fun hs0 hL0 => ?_) (fun g cap hs0 hox => ?_)
  · subst hs0 hL0
    clear hp hm hw hne hL hLw hd
    unfold vv
    go_enter Tryz.func100, Tryz.ntmps100
    go_wp2_with (with_reducible refine wpList_load_mid rfl 91 (.tmp 5) rfl w.heap.size 0 rfl (vl u) _ HAT.out.range Tryz.underlyingV rfl HI.out ?_)
    refine (leadOf_any u _ HW.out HNE.out).mono ?_
    rw [← HD.out]
    rintro e w2 ⟨rfl, hb2⟩
    have HAT2 := Lib.hid (HAT.out.later hb2)
    have HG2 : Hid (w.grownBy w2 none) := Lib.hid (grown_below (grown_below (grown_refl w _) HB0.out) hb2)
    have hsz2 : w.heap.size < w2.heap.size := by have := hb2.size; simp at this; omega
    clear hb2
    go_wp2
    refine wp_loop_rounds 1 ?_
    rw [rounds_succ]
    go_wp2_with (first | (with_reducible refine wpList_load_mid rfl 91 (.tmp 5) rfl w.heap.size 0 rfl (vl u) _ HAT2.out.range Tryz.underlyingV rfl HI.out ?_) | (with_reducible refine wpList_oneV rfl (some 40) rfl (.tmp 39) rfl u rfl ?_; intro W7 hn7; have HN7 := Lib.hid hn7; clear hn7))
    refine (insert_any base w2.heap.size 0 (.slice none 0 0) [] u W7 (by have := HN7.out.size; omega) (Ow.nil _ _) (by simp) (Nat.le_refl _) HN7.out.block (by simp [Value.ownBlock])).mono ?_
    rintro e W8 ⟨s8, rfl, ho8, hg8⟩
    have HO8 := Lib.hid ho8
    have HG8 : Hid (w.grownBy W8 none) := Lib.hid (grown_trans (grown_below HG2.out HN7.out.below) hg8)
    clear ho8 hg8
    go_wp2
    go_ret
    exact ⟨s8, 0, rfl, HO8.out, HG8.out, Nat.le_refl _, by simp, by simp⟩
  · subst hs0
    clear hp hm hw hne hL hLw hd
    unfold vv
    go_enter Tryz.func100, Tryz.ntmps100
    go_wp2_with (with_reducible refine wpList_load_mid rfl 91 (.tmp 5) rfl w.heap.size 0 rfl (vl u) _ HAT.out.range Tryz.underlyingV rfl HI.out ?_)
    refine (leadOf_any u _ HW.out HNE.out).mono ?_
    rw [← HD.out]
    rintro e w2 ⟨rfl, hb2⟩
    have HAT2 := Lib.hid (HAT.out.later hb2)
    have HOX2 : Hid (Ox base w2 g cap (part p u L 0)) := Lib.hid (by
      have := (hox.below HB0.out).below hb2
      simpa [part] using this)
    have HGR2 : Hid (w.grownBy w2 (some g)) := Lib.hid (grown_below (grown_below (grown_refl w _) HB0.out) hb2)
    have hgw : g < w.heap.size := hox.lt
    have hsz2 : w.heap.size < w2.heap.size := by have := hb2.size; simp at this; omega
    clear hb2 hox hs
    go_wp2
    go_loopw [8, 9, 10, 15] (fun pl _ _ i wr => ∃ (k P : Nat), k ≤ L.length ∧ i = .int .i64 k ∧ pl = .int .i64 P ∧ P ≤ k ∧ Hid (Ox base wr g cap (part p u L k)) ∧ Hid (At wr w.heap.size 0 u) ∧ Hid (w.grownBy wr (some g)) ∧ w.heap.size < wr.heap.size ∧ Hid (∀ j (h : j < L.length), j < P → Lin.ld L[j] < d) ∧ Hid (∀ j (h : j < L.length), P ≤ j → j < k → ¬ Lin.ld L[j] < d)) (fun _ _ _ i _ => L.length - (intOf i).toNat)
    case atStart => exact ⟨0, 0, Nat.zero_le _, rfl, rfl, Nat.le_refl _, HOX2, HAT2, HGR2, hsz2, Lib.hid (fun _ _ h => absurd h (Nat.not_lt_zero _)), Lib.hid (fun _ _ _ h => absurd h (Nat.not_lt_zero _))⟩
    case round =>
      obtain ⟨k, P, hk, rfl, rfl, hPk, HOX, HA, HG, hsw, HLO, HHI⟩ := hrel
      clear HOX2 HAT2 HGR2 hsz2
      by_cases hlt : k < L.length
      · obtain ⟨x, hx⟩ : ∃ x, x = L[k] := ⟨_, rfl⟩
        have HXE := Lib.hid hx
        have HXA : Hid (At wr g (k * 40) x) := Lib.hid (by
          have := HOX.out.at' (k := k) (by rw [part_length]; exact hlt)
          rwa [part_get p u L hlt, ← hx] at this)
        have HIX := Lib.hid (Tryz.infoVl x)
        have HI2 : Hid ((Tryz.prog.info? 91).map (·.size) = some (vl x).toArray.size) := Lib.hid (by have := HIX.out; simpa using this)
        have HXM : Hid (Lin.Md p x) := Lib.hid (by rw [hx]; exact HL.out.md _ (List.getElem_mem hlt))
        have HXW : Hid (Lin.Wd 40 x) := Lib.hid (by rw [hx]; exact HLW.out _ (List.getElem_mem hlt))
        have HXN : Hid (x ≠ Lin.zv) := Lib.hid (by rw [hx]; exact HL.out.ne (List.getElem_mem hlt))
        have hadd : (0 : Nat) + k * 40 = k * 40 := Nat.zero_add _
        clear hx
        go_upto_region 5 with (first | (with_reducible refine wpList_load_mid rfl 91 (.tmp 18) rfl g (k * 40) rfl (vl x) _ HXA.out.range Tryz.underlyingV rfl HIX.out ?_) | (with_reducible refine wpList_allocV rfl (some 10) rfl rfl ?_; intro W2 hn2; have HN2 := Lib.hid hn2; have HT2 : Hid (W2.there wr.heap.size 0 (vl x).toArray.size) := (Lib.hid (by have := hn2.there; simpa [vl_length] using this)); clear hn2) | (with_reducible refine wpList_store_mid rfl 91 (.tmp 10) (.tmp 19) rfl wr.heap.size 0 (vl x).toArray rfl rfl HT2.out HI2.out (vl_all x) ?_))
        have HP2 := Lib.hid (HN2.out.put x)
        refine forget_wp (fun W => Hid (Below wr.heap.size wr W ∧ At W wr.heap.size 0 x ∧ W.heap.size = wr.heap.size + 1)) (Lib.hid HP2.out) ?_
        intro W3 HB3
        clear HP2 HN2 HT2 HI2
        obtain ⟨dx, hdx⟩ : ∃ dx, dx = Lin.ld x := ⟨_, rfl⟩
        have HDX := Lib.hid hdx
        obtain ⟨f, hf⟩ : ∃ f, f = x d := ⟨_, rfl⟩
        have hfb : 0 ≤ f ∧ f < p := by rw [hf]; exact HXM.out d
        have HFE := Lib.hid hf
        have HCL : Hid (clr p u x = Lin.add p x (-f) u) := Lib.hid (by unfold clr; rw [← HD.out, ← hf])
        clear hdx hf
        simp only [Act.put]
        go_wp2_with (with_reducible refine wpList_load_mid rfl 91 (.tmp 10) rfl wr.heap.size 0 rfl (vl x) _ HB3.out.2.1.range Tryz.underlyingV rfl HIX.out ?_)
        refine (leadOf_any x _ HXW.out HXN.out).mono ?_
        rw [← HDX.out]
        rintro e W4 ⟨rfl, hb4⟩
        have HB4 : Hid (Below wr.heap.size wr W4 ∧ At W4 wr.heap.size 0 x ∧ wr.heap.size < W4.heap.size) := Lib.hid ⟨HB3.out.1.trans (hb4.mono (by have := HB3.out.2.2; omega)), HB3.out.2.1.later hb4, by have := HB3.out.2.2; have := hb4.size; omega⟩
        clear hb4 HB3
        obtain ⟨M, hM⟩ : ∃ M, M = part p u L k := ⟨_, rfl⟩
        have HME := Lib.hid hM
        have HOX4 : Hid (Ox base W4 g cap M) := Lib.hid (by rw [hM]; exact HOX.out.below HB4.out.1)
        clear hM
        have HS4 : Hid (At W4 w.heap.size 0 u ∧ At W4 wr.heap.size 0 x ∧ Hid (Ox base W4 g cap M ∧ w.grownBy W4 (some g) ∧ w.heap.size < W4.heap.size)) := Lib.hid ⟨HA.out.later HB4.out.1, HB4.out.2.1, Lib.hid ⟨HOX4.out, grown_below HG.out HB4.out.1, by have := HB4.out.2.2; omega⟩⟩
        have HSN : Hid (∀ W W', (At W w.heap.size 0 u ∧ At W wr.heap.size 0 x ∧ Hid (Ox base W g cap M ∧ w.grownBy W (some g) ∧ w.heap.size < W.heap.size)) → Below W.heap.size W W' → (At W' w.heap.size 0 u ∧ At W' wr.heap.size 0 x ∧ Hid (Ox base W' g cap M ∧ w.grownBy W' (some g) ∧ w.heap.size < W'.heap.size))) := Lib.hid (fun W W' h hb => ⟨h.1.later hb, h.2.1.later hb, Lib.hid ⟨h.2.2.out.1.below hb, grown_below h.2.2.out.2.1 hb, by have := h.2.2.out.2.2; have := hb.size; omega⟩⟩)
        have hcellS : ∀ W, (At W w.heap.size 0 u ∧ At W wr.heap.size 0 x ∧ Hid (Ox base W g cap M ∧ w.grownBy W (some g) ∧ w.heap.size < W.heap.size)) → W.cell? ⟨wr.heap.size, d, none⟩ = some (.int .i64 f) := fun W h => by rw [HFE.out]; have := h.2.1.cell hd40; rwa [Nat.zero_add] at this
        obtain ⟨y, hy⟩ : ∃ y, y = Lin.add p x (-f) u := ⟨_, rfl⟩
        have HYE := Lib.hid hy
        have HMM := Lib.hid (minusMultiple_any p f x u · HP.out hfb.1 hfb.2 HXM.out HXW.out HM.out HW.out)
        rw [← hy] at HMM
        have HI5 : Hid ((Tryz.prog.info? 91).map (·.size) = some (vl y).toArray.size) := Lib.hid (by have := Tryz.infoVl y; simpa using this)
        have hkM : k < M.length := by rw [HME.out, part_length]; exact hlt
        have HPUT : Hid (∀ W, Ox base W g cap M → Ox base (W.setCells g (k * 40) (vl y)) g cap (part p u L (k + 1)) ∧ W.there g (k * 40) (vl y).toArray.size) := Lib.hid (fun W h => by
          have h2 := h.put hkM y
          refine ⟨?_, by simpa [vl_length] using h2.2⟩
          have h3 := h2.1
          rw [HYE.out, ← HCL.out, HXE.out] at h3
          rw [HYE.out, ← HCL.out, HXE.out]
          have e := part_set p u L hlt
          rw [← HME.out] at e
          rwa [e] at h3)
        clear hy HOX4 HB4 HOX HA HG
        by_cases hlx : dx < d
        · have hlxi : decide ((dx : Int) < (d : Int)) = true := by simp; exact hlx
          have HNX : Hid (∀ j (h : j < L.length), j < k + 1 → Lin.ld L[j] < d) := Lib.hid (fun j h hj => by
            by_cases e : j = k
            · subst e; rw [← HXE.out, ← HDX.out]; exact hlx
            · have := List.pairwise_iff_getElem.1 HL.out.inc j k h hlt (by omega)
              rw [← HXE.out, ← HDX.out] at this
              omega)
          have hw1 : IntKind.i64.wrap ((k : Int) + 1) = (k : Int) + 1 := IntWalk.i64_in _ (by omega)
          go_upto_region 7 with fail
          refine wp_region_last (fun W => At W w.heap.size 0 u ∧ At W wr.heap.size 0 x ∧ Hid (Ox base W g cap M ∧ w.grownBy W (some g) ∧ w.heap.size < W.heap.size)) 10 (by kernel_rfl) rfl (by kernel_rfl) ?_
          have S1 := HSN.out _ _ HS4.out (Below.refl _ _).drew
          refine held_take (i := 0) (v := .slice (some ⟨g, 0, none⟩) L.length cap) (some 26) rfl rfl (by kernel_rfl) (by kernel_rfl) (by kernel_rfl) (fun _ _ _ h => h) (yieldsIf_move (by kernel_rfl) rfl (by kernel_rfl)) S1 ?_
          refine held_take (i := 1) (v := .int .i64 (k : Int)) (some 27) rfl rfl (by kernel_rfl) (by kernel_rfl) (by kernel_rfl) (fun _ _ _ h => h) (yieldsIf_move (by kernel_rfl) rfl (by kernel_rfl)) S1 ?_
          refine held_take (i := 2) (v := .int .i64 p) (some 28) rfl rfl (by kernel_rfl) (by kernel_rfl) (by kernel_rfl) (fun _ _ _ h => h) (yieldsIf_move (by kernel_rfl) rfl (by kernel_rfl)) S1 ?_
          refine held_take (i := 3) (v := .agg (vl x).toArray) (some 29) rfl rfl (by kernel_rfl) (by kernel_rfl) (by kernel_rfl) (fun _ _ _ h => h) (yieldsIf_load_mid (by kernel_rfl) 91 (.tmp 10) (by kernel_rfl) wr.heap.size 0 (by kernel_rfl) (vl x) _ (fun W h => h.2.1) Tryz.underlyingV rfl HIX.out) S1 ?_
          refine held_take (i := 4) (v := .int .i64 (d : Int)) (some 30) rfl rfl (by kernel_rfl) (by kernel_rfl) (by kernel_rfl) (fun _ _ _ h => h) (yieldsIf_move (by kernel_rfl) rfl (by kernel_rfl)) S1 ?_
          refine held_take (i := 5) (v := .pointer (some ⟨wr.heap.size, d, none⟩)) (some 31) rfl rfl (by kernel_rfl) (by kernel_rfl) (by kernel_rfl) (fun _ _ _ h => h) (yieldsIf_index (by kernel_rfl) rfl (by kernel_rfl) (by kernel_rfl) (hindexV wr.heap.size hd40)) S1 ?_
          refine held_take (i := 6) (v := .int .i64 f) (some 32) rfl rfl (by kernel_rfl) (by kernel_rfl) (by kernel_rfl) (fun _ _ _ h => h) (yieldsIf_cell (by kernel_rfl) rfl (by kernel_rfl) (fun W h => hload W (hcellS W h))) S1 ?_
          refine held_take (i := 7) (v := .agg (vl u).toArray) (some 33) rfl rfl (by kernel_rfl) (by kernel_rfl) (by kernel_rfl) (fun _ _ _ h => h) (yieldsIf_load_mid (by kernel_rfl) 91 (.tmp 5) (by kernel_rfl) w.heap.size 0 (by kernel_rfl) (vl u) _ (fun W h => h.1) Tryz.underlyingV rfl HI.out) S1 ?_
          refine held_enter (i := 8) (some 34) (f := 98) (args := #[.int .i64 p, vv x, .int .i64 f, vv u]) (by kernel_rfl) rfl rfl rfl (by kernel_rfl) (HMM.out _) ?_ (fun c w' h => by cases h.1) (fun w' h => by cases h.1)
          rintro e5 W5 ⟨he5, hb5⟩
          injection he5 with he5
          subst he5
          have S5 := HSN.out _ _ S1 hb5
          refine ⟨S5, ?_⟩
          clear hb5 S1 HS4
          refine held_take (i := 9) (v := .pointer (some ⟨g, k * 40, none⟩)) (some 35) rfl rfl (by kernel_rfl) (by kernel_rfl) (by kernel_rfl) (fun _ _ _ h => h) (yieldsIf_index (by kernel_rfl) rfl (by kernel_rfl) (by kernel_rfl) (hindexS g cap hlt)) S5 ?_
          refine held_none (i := 10) (v := .bool false) rfl rfl (by kernel_rfl) (by kernel_rfl) (by kernel_rfl) (fun _ _ _ h => h) (yieldsIf_move (by kernel_rfl) rfl (by kernel_rfl)) S5 ?_
          have hput := HPUT.out _ S5.2.2.out.1
          refine wpAnyH_done (by kernel_rfl) (lastQ_store rfl (by kernel_rfl) (by kernel_rfl) 91 (.tmp 35) (.tmp 34) (by kernel_rfl) g (k * 40) (vl y).toArray (by kernel_rfl) (by kernel_rfl) hput.2 HI5.out (vl_all _) ?_) _
          simp only [Act.put, List.setIfInBounds_toArray, List.set_cons_zero, List.set_cons_succ]
          have hgs := grown_setCells W5 g (k * 40) (vl y)
          have hgn : w.heap.size ≠ g := by omega
          have HA6 : Hid (At (W5.setCells g (k * 40) (vl y)) w.heap.size 0 u) := Lib.hid (S5.1.grown hgs (by simp; omega))
          have HG6 : Hid (w.grownBy (W5.setCells g (k * 40) (vl y)) (some g)) := Lib.hid (grown_trans S5.2.2.out.2.1 hgs)
          have HO6 : Hid (Ox base (W5.setCells g (k * 40) (vl y)) g cap (part p u L (k + 1))) := Lib.hid hput.1
          have hs6 : w.heap.size < (W5.setCells g (k * 40) (vl y)).heap.size := by have := hgs.size; have := S5.2.2.out.2.2; omega
          obtain ⟨W6, hW6⟩ : ∃ W6, W6 = W5.setCells g (k * 40) (vl y) := ⟨_, rfl⟩
          rw [show W5.setCells g (k * 40) (vl y).toArray.toList = W6 by rw [hW6]]
          rw [← hW6] at HA6 HG6 HO6 hs6
          clear hW6 S5 hcellS hput hgs
          go_wp2
          go_roundw
          case rel => exact ⟨k + 1, k + 1, by omega, by go_num, by go_num, by omega, HO6, HA6, HG6, hs6, HNX, Lib.hid (fun j h h1 h2 => absurd h2 (by omega))⟩
          case measure => simp [intOf]; omega
        · have hlxi : decide ((dx : Int) < (d : Int)) = false := by simp; omega
          go_upto_region 7 with fail
          refine wp_region_last (fun W => At W w.heap.size 0 u ∧ At W wr.heap.size 0 x ∧ Hid (Ox base W g cap M ∧ w.grownBy W (some g) ∧ w.heap.size < W.heap.size)) 10 (by kernel_rfl) rfl (by kernel_rfl) ?_
          have S1 := HSN.out _ _ HS4.out (Below.refl _ _).drew
          refine held_take (i := 0) (v := .slice (some ⟨g, 0, none⟩) L.length cap) (some 26) rfl rfl (by kernel_rfl) (by kernel_rfl) (by kernel_rfl) (fun _ _ _ h => h) (yieldsIf_move (by kernel_rfl) rfl (by kernel_rfl)) S1 ?_
          refine held_take (i := 1) (v := .int .i64 (k : Int)) (some 27) rfl rfl (by kernel_rfl) (by kernel_rfl) (by kernel_rfl) (fun _ _ _ h => h) (yieldsIf_move (by kernel_rfl) rfl (by kernel_rfl)) S1 ?_
          refine held_take (i := 2) (v := .int .i64 p) (some 28) rfl rfl (by kernel_rfl) (by kernel_rfl) (by kernel_rfl) (fun _ _ _ h => h) (yieldsIf_move (by kernel_rfl) rfl (by kernel_rfl)) S1 ?_
          refine held_take (i := 3) (v := .agg (vl x).toArray) (some 29) rfl rfl (by kernel_rfl) (by kernel_rfl) (by kernel_rfl) (fun _ _ _ h => h) (yieldsIf_load_mid (by kernel_rfl) 91 (.tmp 10) (by kernel_rfl) wr.heap.size 0 (by kernel_rfl) (vl x) _ (fun W h => h.2.1) Tryz.underlyingV rfl HIX.out) S1 ?_
          refine held_take (i := 4) (v := .int .i64 (d : Int)) (some 30) rfl rfl (by kernel_rfl) (by kernel_rfl) (by kernel_rfl) (fun _ _ _ h => h) (yieldsIf_move (by kernel_rfl) rfl (by kernel_rfl)) S1 ?_
          refine held_take (i := 5) (v := .pointer (some ⟨wr.heap.size, d, none⟩)) (some 31) rfl rfl (by kernel_rfl) (by kernel_rfl) (by kernel_rfl) (fun _ _ _ h => h) (yieldsIf_index (by kernel_rfl) rfl (by kernel_rfl) (by kernel_rfl) (hindexV wr.heap.size hd40)) S1 ?_
          refine held_take (i := 6) (v := .int .i64 f) (some 32) rfl rfl (by kernel_rfl) (by kernel_rfl) (by kernel_rfl) (fun _ _ _ h => h) (yieldsIf_cell (by kernel_rfl) rfl (by kernel_rfl) (fun W h => hload W (hcellS W h))) S1 ?_
          refine held_take (i := 7) (v := .agg (vl u).toArray) (some 33) rfl rfl (by kernel_rfl) (by kernel_rfl) (by kernel_rfl) (fun _ _ _ h => h) (yieldsIf_load_mid (by kernel_rfl) 91 (.tmp 5) (by kernel_rfl) w.heap.size 0 (by kernel_rfl) (vl u) _ (fun W h => h.1) Tryz.underlyingV rfl HI.out) S1 ?_
          refine held_enter (i := 8) (some 34) (f := 98) (args := #[.int .i64 p, vv x, .int .i64 f, vv u]) (by kernel_rfl) rfl rfl rfl (by kernel_rfl) (HMM.out _) ?_ (fun c w' h => by cases h.1) (fun w' h => by cases h.1)
          rintro e5 W5 ⟨he5, hb5⟩
          injection he5 with he5
          subst he5
          have S5 := HSN.out _ _ S1 hb5
          refine ⟨S5, ?_⟩
          clear hb5 S1 HS4
          refine held_take (i := 9) (v := .pointer (some ⟨g, k * 40, none⟩)) (some 35) rfl rfl (by kernel_rfl) (by kernel_rfl) (by kernel_rfl) (fun _ _ _ h => h) (yieldsIf_index (by kernel_rfl) rfl (by kernel_rfl) (by kernel_rfl) (hindexS g cap hlt)) S5 ?_
          refine held_none (i := 10) (v := .bool false) rfl rfl (by kernel_rfl) (by kernel_rfl) (by kernel_rfl) (fun _ _ _ h => h) (yieldsIf_move (by kernel_rfl) rfl (by kernel_rfl)) S5 ?_
          have hput := HPUT.out _ S5.2.2.out.1
          refine wpAnyH_done (by kernel_rfl) (lastQ_store rfl (by kernel_rfl) (by kernel_rfl) 91 (.tmp 35) (.tmp 34) (by kernel_rfl) g (k * 40) (vl y).toArray (by kernel_rfl) (by kernel_rfl) hput.2 HI5.out (vl_all _) ?_) _
          simp only [Act.put, List.setIfInBounds_toArray, List.set_cons_zero, List.set_cons_succ]
          have hgs := grown_setCells W5 g (k * 40) (vl y)
          have hgn : w.heap.size ≠ g := by omega
          have HA6 : Hid (At (W5.setCells g (k * 40) (vl y)) w.heap.size 0 u) := Lib.hid (S5.1.grown hgs (by simp; omega))
          have HG6 : Hid (w.grownBy (W5.setCells g (k * 40) (vl y)) (some g)) := Lib.hid (grown_trans S5.2.2.out.2.1 hgs)
          have HO6 : Hid (Ox base (W5.setCells g (k * 40) (vl y)) g cap (part p u L (k + 1))) := Lib.hid hput.1
          have hs6 : w.heap.size < (W5.setCells g (k * 40) (vl y)).heap.size := by have := hgs.size; have := S5.2.2.out.2.2; omega
          obtain ⟨W6, hW6⟩ : ∃ W6, W6 = W5.setCells g (k * 40) (vl y) := ⟨_, rfl⟩
          rw [show W5.setCells g (k * 40) (vl y).toArray.toList = W6 by rw [hW6]]
          rw [← hW6] at HA6 HG6 HO6 hs6
          clear hW6 S5 hcellS hput hgs
          go_wp2
          go_roundw
          case rel => exact ⟨k + 1, P, by omega, by go_num, by go_num, by omega, HO6, HA6, HG6, hs6, HLO, Lib.hid (fun j h h1 h2 => by
            by_cases e : j = k
            · subst e; rw [← HXE.out, ← HDX.out]; exact hlx
            · exact HHI.out j h h1 (by omega))⟩
          case measure => simp [intOf]; omega
      · obtain rfl : k = L.length := by omega
        obtain ⟨M, hM⟩ : ∃ M, M = part p u L L.length := ⟨_, rfl⟩
        have HML : Hid (M.length = L.length) := Lib.hid (by rw [hM, part_length])
        have HOW : Hid (Ow base wr (.slice (some ⟨g, 0, none⟩) L.length cap) M) := Lib.hid (by have := HOX.out.own; rwa [← hM, HML.out] at this)
        have hgr : g < wr.heap.size := HOX.out.lt
        have HPUT : Hid (M.take P ++ u :: M.drop P = Lin.put p L P u) := Lib.hid (by
          rw [hM, part, List.take_length, List.drop_length, List.append_nil, ← List.map_take, ← List.map_drop]
          rfl)
        have HLO2 : Hid (∀ x ∈ L.take P, Lin.ld x < Lin.ld u) := Lib.hid (fun x hx => by
          obtain ⟨j, hj, rfl⟩ := List.getElem_of_mem hx
          rw [List.getElem_take, ← HD.out]
          rw [List.length_take] at hj
          exact HLO.out j (by omega) (by omega))
        have HHI2 : Hid (∀ x ∈ L.drop P, ¬ Lin.ld x < Lin.ld u) := Lib.hid (fun x hx => by
          obtain ⟨j, hj, rfl⟩ := List.getElem_of_mem hx
          rw [List.getElem_drop, ← HD.out]
          rw [List.length_drop] at hj
          exact HHI.out (P + j) (by omega) (by omega) (by omega))
        clear hM HOX HLO HHI
        go_wp2_with (first | (with_reducible refine wpList_load_mid rfl 91 (.tmp 5) rfl w.heap.size 0 rfl (vl u) _ HA.out.range Tryz.underlyingV rfl HI.out ?_) | (with_reducible refine wpList_oneV rfl (some 40) rfl (.tmp 39) rfl u rfl ?_; intro W7 hn7; have HN7 := Lib.hid hn7; clear hn7))
        refine (insert_any base wr.heap.size P (.slice (some ⟨g, 0, none⟩) L.length cap) M u W7 (by have := HN7.out.size; omega) (HOW.out.below HN7.out.below) (by rw [HML.out]; omega) (by rw [HML.out]; exact hPk) HN7.out.block (by simp [Value.ownBlock]; omega)).mono ?_
        rintro e W8 ⟨s8, rfl, ho8, hg8⟩
        have HO8 := Lib.hid ho8
        have HG8 : Hid (w.grownBy W8 (some g)) := Lib.hid (grown_trans (grown_below HG.out HN7.out.below) hg8)
        clear ho8 hg8
        go_wp2
        go_ret
        exact ⟨s8, P, rfl, by rw [← HPUT.out]; exact HO8.out, HG8.out, hPk, HLO2.out, HHI2.out⟩
end Go.Proofs.YtlopenephgabhaaGreat

namespace Go.Proofs.YtlopenephgabhaaGreat
open Go.RowKit

/-- A reduced list that a call is gathering, a vector in a box of its own. -/
structure Inn (w1 W : World) (sv : Value) (R : List Lin.V) (vb : Nat) (r : Lin.V) : Prop where
  below : Below w1.heap.size w1 W
  own : Ow w1.heap.size W sv R
  lo : w1.heap.size ≤ vb
  at' : At W vb 0 r
  there : W.there vb 0 40
  ne : some vb ≠ sv.ownBlock
theorem Inn.next {w1 W W' : World} {sv : Value} {R : List Lin.V} {vb : Nat} {r : Lin.V} (h : Inn w1 W sv R vb r) (hb : Below W.heap.size W W') : Inn w1 W' sv R vb r :=
  ⟨h.below.trans (hb.mono h.below.size), h.own.below hb, h.lo, h.at'.later hb, there_below h.there hb h.at'.lt, h.ne⟩
theorem Inn.put {w1 W : World} {sv : Value} {R : List Lin.V} {vb : Nat} {r : Lin.V} (h : Inn w1 W sv R vb r) (x : Lin.V) : Inn w1 (W.setCells vb 0 (vl x)) sv R vb x :=
  ⟨below_setCells _ h.lo _ _ _ h.below, h.own.grown (grown_setCells W vb 0 (vl x)) (Or.inr h.ne.symm), h.lo, at_setCells _ _ _ _ h.there, World.there_setCells h.there _ _ _, h.ne⟩
theorem Ow.apart {base : Nat} {w : World} {s : Value} {L : List Lin.V} (h : Ow base w s L) {b : Nat} (hb : w.heap.size ≤ b) : some b ≠ s.ownBlock := fun e => by
  have := ((World.ownsRow.lt h) b e.symm).1
  have := ((World.ownsRow.lt h) b e.symm).2
  omega

/-- What a reduced list has to do with a list. -/
structure RedOf (p : Int) (R T : List Lin.V) : Prop where
  red : Lin.Red p R
  wd : ∀ u ∈ R, Lin.Wd 40 u
  eqv : Lin.Eqv p R T
theorem RedOf.nil (p : Int) : RedOf p [] [] := ⟨Lin.Red.nil p, by simp, Lin.Eqv.refl _ _⟩
theorem RedOf.skip {p : Int} (hp : 0 < p) {R T : List Lin.V} (h : RedOf p R T) {v : Lin.V} (hT : ∀ w ∈ T, Lin.Md p w) (hv : Lin.Md p v) (hr : Lin.Rest p R v R.length Lin.zv) : RedOf p R (T ++ [v]) :=
  ⟨h.red, h.wd, Lin.skip_eqv hp h.red hT hv h.eqv hr⟩
theorem RedOf.put {p : Int} (hp : 1 < p) {R T : List Lin.V} (h : RedOf p R T) {v r u : Lin.V} {k : Nat} (hT : ∀ w ∈ T, Lin.Md p w) (hv : Lin.Md p v) (hr : Lin.Rest p R v R.length r) (hne : r ≠ Lin.zv) (hu : Lin.Unit p r u) (huw : Lin.Wd 40 u) (hk : k ≤ R.length)
    (hlo : ∀ w ∈ R.take k, Lin.ld w < Lin.ld u) (hhi : ∀ w ∈ R.drop k, ¬ Lin.ld w < Lin.ld u) : RedOf p (Lin.put p R k u) (T ++ [v]) := by
  have hf := Lin.fits_of hr hne hu hk hlo hhi
  refine ⟨hf.red hp h.red, fun x hx => ?_, Lin.put_eqv hp h.red hT hv h.eqv hr hu hf⟩
  rcases Lin.put_mem.1 hx with rfl | ⟨y, hy, rfl⟩
  · exact huw
  · exact Lin.add_wd _ (h.wd y hy) huw
theorem put_length (p : Int) (R : List Lin.V) (k : Nat) (u : Lin.V) (hk : k ≤ R.length) : (Lin.put p R k u).length = R.length + 1 := by simp [Lin.put]; omega

set_option maxHeartbeats 6400000 in
set_option maxRecDepth 100000 in
theorem reducedList_any (p : Int) (s : Value) (L : List Lin.V) (w : World) (hp : IsP p) (hs : Vs 0 w s L) (hLm : ∀ u ∈ L, Lin.Md p u) (hLw : ∀ u ∈ L, Lin.Wd 40 u) (hl : L.length ≤ 1048575) :
    Calls Tryz.prog 82 #[.int .i64 p, s] w (VsR (fun R => RedOf p R L ∧ R.length ≤ L.length) w) := by
  have HP := Lib.hid hp
  have hul := unitLines_any p s L w hp hs hLm hLw (by omega)
  have HUL := Lib.hid hul
  have hp7 := hp.hi7
  have hp1 := hp.lo1
  obtain ⟨ads, caps, hsv⟩ := Vs.shape hs
  subst hsv
  clear hp hs hLm hLw hul
  go_enter Tryz.func82, Tryz.ntmps82
  go_wp2
  go_step3
  go_wp2
  go_step3
  go_wp2_with fail
  refine HUL.out.mono ?_
  rintro e w1 ⟨sl, M, rfl, hb1, ho1, hli, hml⟩
  have HB1 := Lib.hid hb1
  have HLI := Lib.hid hli
  have HVS := Lib.hid ho1.vs
  obtain ⟨adl, capl, rfl⟩ := ho1.shape
  have hs1 : w.heap.size ≤ w1.heap.size := hb1.size
  clear hb1 ho1 hli HUL
  go_wp2
  go_loopg [5, 7, 9, 14, 20] M.length (fun g s5 _ _ s14 _ wx => ∃ (k : Nat) (R : List Lin.V), k + g = M.length ∧ s14 = .int .i64 k ∧ Hid (Below w1.heap.size w1 wx) ∧ Hid (Ow w1.heap.size wx s5 R) ∧ Hid (RedOf p R (M.take k)) ∧ R.length ≤ k)
  case atStart => exact ⟨0, [], by omega, rfl, Lib.hid (Below.refl _ _), Lib.hid (Ow.nil _ _), Lib.hid (by rw [List.take_zero]; exact RedOf.nil p), Nat.le_refl _⟩
  case round =>
    obtain ⟨k, R, hkg, rfl, HB, HO, HR, hRk⟩ := hrel
    cases gk with
    | zero =>
      have HTK : Hid (M.take k = M) := Lib.hid (List.take_of_length_le (by omega))
      have hkz : ¬ ((k : Int) < (M.length : Int)) := by omega
      obtain ⟨adr, capr, rfl⟩ := HO.out.shape
      go_wp2
      try rw [Exit.noGoto_ret]
      go_ret
      refine ⟨_, R, rfl, HB1.out.trans (HB.out.mono hs1), ?_, ?_, by omega⟩
      · exact ⟨HO.out.1, HO.out.2.imp id (fun ⟨g, cap, cur, h1, h2, h3⟩ => ⟨g, cap, cur, h1, by omega, h3⟩)⟩
      · have := HR.out
        rw [HTK.out] at this
        exact ⟨this.red, this.wd, this.eqv.trans HLI.out.eqv⟩
    | succ g =>
      have hlt : k < M.length := by omega
      refine Vs.cases HVS.out (fun _ _ hx _ => absurd hlt (by simp [hx])) (fun b o cap2 hv _ _ hc => ?_)
      obtain ⟨rfl, rfl⟩ : adl = some ⟨b, o, none⟩ ∧ capl = cap2 := by simpa using hv
      obtain ⟨v, hve⟩ : ∃ v, v = M[k] := ⟨_, rfl⟩
      have HV : Hid (At wr b (o + k * 40) v) := Lib.hid (by rw [hve]; exact (hc k hlt).below HB.out (hc k hlt).lt)
      have HI := Lib.hid (Tryz.infoVl v)
      have HI2 : Hid ((Tryz.prog.info? 91).map (·.size) = some (vl v).toArray.size) := Lib.hid (by have := HI.out; simpa using this)
      have HVM : Hid (Lin.Md p v) := Lib.hid (by rw [hve]; exact HLI.out.md _ (List.getElem_mem hlt))
      have HVW : Hid (Lin.Wd 40 v) := Lib.hid (by rw [hve]; exact HLI.out.wd _ (List.getElem_mem hlt))
      have HVN : Hid (v ≠ Lin.zv) := Lib.hid (by rw [hve]; exact HLI.out.ne _ (List.getElem_mem hlt))
      have HTK : Hid (M.take (k + 1) = M.take k ++ [v]) := Lib.hid (by rw [hve]; exact List.take_succ_eq_append_getElem hlt)
      have HTM : Hid (∀ x ∈ M.take k, Lin.Md p x) := Lib.hid (fun x hx => HLI.out.md x (List.mem_of_mem_take hx))
      obtain ⟨adr, capr, rfl⟩ := HO.out.shape
      have hapart := HO.out.apart (Nat.le_refl _)
      have HAP := Lib.hid hapart
      have hsz : w1.heap.size ≤ wr.heap.size := HB.out.size
      have hR5 : R.length ≤ 1048575 := by omega
      clear hv hc hve hapart
      go_upto_region 5 with (first | (with_reducible refine wpList_load_mid rfl 91 (.tmp 16) rfl b (o + k * 40) rfl (vl v) _ HV.out.range Tryz.underlyingV rfl HI.out ?_) | (with_reducible refine wpList_allocV rfl (some 7) rfl rfl ?_; intro W2 hn2; have HN2 := Lib.hid hn2; have HT2 : Hid (W2.there wr.heap.size 0 (vl v).toArray.size) := (Lib.hid (by have := hn2.there; simpa [vl_length] using this)); clear hn2) | (with_reducible refine wpList_store_mid rfl 91 (.tmp 7) (.tmp 17) rfl wr.heap.size 0 (vl v).toArray rfl rfl HT2.out HI2.out (vl_all v) ?_))
      refine forget_wp (fun W => Hid (Inn w1 W (.slice adr R.length capr) R wr.heap.size v)) (Lib.hid ?_) ?_
      · have hp2 := HN2.out.put v
        exact ⟨HB.out.trans (hp2.1.mono hsz), HO.out.below hp2.1, hsz, hp2.2.1, World.there_setCells HN2.out.there _ _ _, HAP.out⟩
      intro W3 HN3
      clear HN2 HT2 HI2 HAP HO HB HV HI
      generalize wr.heap.size = vb at *
      simp only [Act.put]
      go_wp2
      go_loopg [9, 20] R.length (fun g2 _ s20 wx => ∃ (j : Nat) (r : Lin.V), j + g2 = R.length ∧ s20 = .int .i64 j ∧ Hid (Inn w1 wx (.slice adr R.length capr) R vb r) ∧ Hid (Lin.Rest p R v j r) ∧ Hid (Lin.Wd 40 r) ∧ Hid (r ≠ Lin.zv))
      case atStart => exact ⟨0, v, by omega, rfl, HN3, Lib.hid (Lin.Rest.start HVM.out), HVW, HVN⟩
      case round =>
        clear HN3
        obtain ⟨j, r, hjg, rfl, HN, HRE, HRW, HRN⟩ := hrel
        cases gk with
        | zero =>
          have hjR : ¬ ((j : Int) < (R.length : Int)) := by omega
          have HRR : Hid (Lin.Rest p R v R.length r) := Lib.hid (by have := HRE.out; rwa [show j = R.length by omega] at this)
          have HIR := Lib.hid (Tryz.infoVl r)
          go_wp2_with (with_reducible refine wpList_load_mid rfl 91 (.tmp 7) rfl vb 0 rfl (vl r) _ HN.out.at'.range Tryz.underlyingV rfl HIR.out ?_)
          refine (unitLead_any p r _ HP.out HRR.out.md HRW.out HRN.out).mono ?_
          rintro e W5 ⟨u, rfl, hb5, hUU, hUW⟩
          have HN5 := Lib.hid (HN.out.next hb5)
          have HUU := Lib.hid hUU
          have HUW := Lib.hid hUW
          clear hb5 hUU hUW
          go_wp2_with fail
          refine (insertRow_any p w1.heap.size _ R u _ HP.out HN5.out.below.size HN5.out.own HR.out.red HR.out.wd hR5 HUU.out.md HUW.out HUU.out.ne).mono ?_
          rintro e W6 ⟨s6, P, rfl, ho6, hg6, hP, hlo, hhi⟩
          have HO6 := Lib.hid ho6
          have HB6 : Hid (Below w1.heap.size w1 W6) := Lib.hid (HN5.out.below.grown hg6 HN5.out.below.size (fun gg hgg => ((HN5.out.own.lt) gg hgg).1))
          have HR6 : Hid (RedOf p (Lin.put p R P u) (M.take (k + 1))) := Lib.hid (by
            rw [HTK.out]
            exact HR.out.put hp1 HTM.out HVM.out HRR.out HRN.out HUU.out HUW.out hP hlo hhi)
          have hlen : (Lin.put p R P u).length ≤ k + 1 := by rw [put_length p R P u hP]; omega
          clear ho6 hg6 hlo hhi
          go_wp2
          go_roundg g
          case rel => exact ⟨k + 1, Lin.put p R P u, by omega, by go_num, HB6, HO6, HR6, hlen⟩
          case measure => omega
        | succ g2 =>
          have hjl : j < R.length := by omega
          refine Vs.cases HN.out.own.vs (fun _ _ hx _ => absurd hjl (by simp [hx])) (fun b2 o2 cap3 hv _ _ hc => ?_)
          obtain ⟨rfl, rfl⟩ : adr = some ⟨b2, o2, none⟩ ∧ capr = cap3 := by simpa using hv
          obtain ⟨u, hu⟩ : ∃ u, u = R[j] := ⟨_, rfl⟩
          have HUA : Hid (At wr b2 (o2 + j * 40) u) := Lib.hid (by rw [hu]; exact hc j hjl)
          have HUE := Lib.hid hu
          have HUM : Hid (Lin.Md p u) := Lib.hid (by rw [hu]; exact HR.out.red.md _ (List.getElem_mem hjl))
          have HUW : Hid (Lin.Wd 40 u) := Lib.hid (by rw [hu]; exact HR.out.wd _ (List.getElem_mem hjl))
          have HUN : Hid (u ≠ Lin.zv) := Lib.hid (by rw [hu]; exact HR.out.red.ne (List.getElem_mem hjl))
          have HI := Lib.hid (Tryz.infoVl u)
          have HI2 : Hid ((Tryz.prog.info? 91).map (·.size) = some (vl u).toArray.size) := Lib.hid (by have := HI.out; simpa using this)
          have HRM : Hid (Lin.Md p r) := Lib.hid HRE.out.md
          have HIR := Lib.hid (Tryz.infoVl r)
          have HAP : Hid (wr.heap.size ≠ vb) := Lib.hid (by have := HN.out.at'.lt; omega)
          obtain ⟨hd40, _, _⟩ := ld_lt HUW.out HUN.out
          obtain ⟨d, hd⟩ : ∃ d, d = Lin.ld u := ⟨_, rfl⟩
          have HD := Lib.hid hd
          rw [← hd] at hd40
          obtain ⟨f, hf⟩ : ∃ f, f = r d := ⟨_, rfl⟩
          have HF := Lib.hid hf
          have hfb := HRM.out d
          rw [← hf] at hfb
          clear hv hc hu hd hf
          go_upto_region 8 with (first | (with_reducible refine wpList_load_mid rfl 91 (.tmp 22) rfl b2 (o2 + j * 40) rfl (vl u) _ HUA.out.range Tryz.underlyingV rfl HI.out ?_) | (with_reducible refine wpList_allocV rfl (some 9) rfl rfl ?_; intro W2 hn2; have HN2 := Lib.hid hn2; have HT2 : Hid (W2.there wr.heap.size 0 (vl u).toArray.size) := (Lib.hid (by have := hn2.there; simpa [vl_length] using this)); clear hn2) | (with_reducible refine wpList_store_mid rfl 91 (.tmp 9) (.tmp 23) rfl wr.heap.size 0 (vl u).toArray rfl rfl HT2.out HI2.out (vl_all u) ?_))
          refine forget_wp (fun W => Hid (At W vb 0 r ∧ At W wr.heap.size 0 u ∧ Hid (Inn w1 W (.slice (some ⟨b2, o2, none⟩) R.length capr) R vb r))) (Lib.hid ?_) ?_
          · have hp2 := HN2.out.put u
            have h1 := HN.out.next hp2.1
            exact ⟨h1.at', hp2.2.1, Lib.hid h1⟩
          intro W3 HS3
          clear HN2 HT2 HN HUA
          simp only [Act.put, List.setIfInBounds_toArray, List.set_cons_zero, List.set_cons_succ]
          have HSN : Hid (∀ W W', (At W vb 0 r ∧ At W wr.heap.size 0 u ∧ Hid (Inn w1 W (.slice (some ⟨b2, o2, none⟩) R.length capr) R vb r)) → Below W.heap.size W W' → (At W' vb 0 r ∧ At W' wr.heap.size 0 u ∧ Hid (Inn w1 W' (.slice (some ⟨b2, o2, none⟩) R.length capr) R vb r))) := Lib.hid (fun W W' h hb => ⟨h.1.later hb, h.2.1.later hb, Lib.hid (h.2.2.out.next hb)⟩)
          have hcellS : ∀ W, (At W vb 0 r ∧ At W wr.heap.size 0 u ∧ Hid (Inn w1 W (.slice (some ⟨b2, o2, none⟩) R.length capr) R vb r)) → W.cell? ⟨vb, d, none⟩ = some (.int .i64 f) := fun W h => by rw [HF.out]; have := h.1.cell hd40; rwa [Nat.zero_add] at this
          obtain ⟨y, hy⟩ : ∃ y, y = Lin.add p r (-f) u := ⟨_, rfl⟩
          have HMM := Lib.hid (minusMultiple_any p f r u · HP.out hfb.1 hfb.2 HRM.out HRW.out HUM.out HUW.out)
          rw [← hy] at HMM
          have HRE2 : Hid (Lin.Rest p R v (j + 1) y) := Lib.hid (by rw [hy, HF.out, HD.out, HUE.out]; exact HRE.out.step (by omega) HR.out.red hjl)
          have HYW : Hid (Lin.Wd 40 y) := Lib.hid (by rw [hy]; exact Lin.add_wd _ HRW.out HUW.out)
          have HIY := Lib.hid (Tryz.infoVl y)
          have HI5 : Hid ((Tryz.prog.info? 91).map (·.size) = some (vl y).toArray.size) := Lib.hid (by have := HIY.out; simpa using this)
          have HLD := Lib.hid (leadOf_any u · HUW.out HUN.out)
          rw [← HD.out] at HLD
          clear hy HI2
          refine wp_region_last (fun W => At W vb 0 r ∧ At W wr.heap.size 0 u ∧ Hid (Inn w1 W (.slice (some ⟨b2, o2, none⟩) R.length capr) R vb r)) 8 (by kernel_rfl) rfl (by kernel_rfl) ?_
          have S1 := HSN.out _ _ HS3.out (Below.refl _ _).drew
          refine held_take (i := 0) (v := .int .i64 p) (some 24) rfl rfl (by kernel_rfl) (by kernel_rfl) (by kernel_rfl) (fun _ _ _ h => h) (yieldsIf_move (by kernel_rfl) rfl (by kernel_rfl)) S1 ?_
          refine held_take (i := 1) (v := .agg (vl r).toArray) (some 25) rfl rfl (by kernel_rfl) (by kernel_rfl) (by kernel_rfl) (fun _ _ _ h => h) (yieldsIf_load_mid (by kernel_rfl) 91 (.tmp 7) (by kernel_rfl) vb 0 (by kernel_rfl) (vl r) _ (fun W h => h.1) Tryz.underlyingV rfl HIR.out) S1 ?_
          refine held_take (i := 2) (v := .agg (vl u).toArray) (some 26) rfl rfl (by kernel_rfl) (by kernel_rfl) (by kernel_rfl) (fun _ _ _ h => h) (yieldsIf_load_mid (by kernel_rfl) 91 (.tmp 9) (by kernel_rfl) wr.heap.size 0 (by kernel_rfl) (vl u) _ (fun W h => h.2.1) Tryz.underlyingV rfl HI.out) S1 ?_
          refine held_take (i := 6) (v := .agg (vl u).toArray) (some 30) rfl rfl (by kernel_rfl) (by kernel_rfl) (by kernel_rfl) (fun _ _ _ h => h) (yieldsIf_load_mid (by kernel_rfl) 91 (.tmp 9) (by kernel_rfl) wr.heap.size 0 (by kernel_rfl) (vl u) _ (fun W h => h.2.1) Tryz.underlyingV rfl HI.out) S1 ?_
          refine held_enter (i := 3) (some 27) (f := 99) (args := #[vv u]) (by kernel_rfl) rfl rfl rfl (by kernel_rfl) (HLD.out _) ?_ (fun c w' h => by cases h.1) (fun w' h => by cases h.1)
          rintro e4 W4 ⟨he4, hb4⟩
          injection he4 with he4
          subst he4
          have S4 := HSN.out _ _ S1 hb4
          refine ⟨S4, ?_⟩
          clear hb4 S1 HS3
          refine held_take (i := 4) (v := .pointer (some ⟨vb, d, none⟩)) (some 28) rfl rfl (by kernel_rfl) (by kernel_rfl) (by kernel_rfl) (fun _ _ _ h => h) (yieldsIf_index (by kernel_rfl) rfl (by kernel_rfl) (by kernel_rfl) (hindexV vb hd40)) S4 ?_
          refine held_take (i := 5) (v := .int .i64 f) (some 29) rfl rfl (by kernel_rfl) (by kernel_rfl) (by kernel_rfl) (fun _ _ _ h => h) (yieldsIf_cell (by kernel_rfl) rfl (by kernel_rfl) (fun W h => hload W (hcellS W h))) S4 ?_
          refine held_enter (i := 7) (some 31) (f := 98) (args := #[.int .i64 p, vv r, .int .i64 f, vv u]) (by kernel_rfl) rfl rfl rfl (by kernel_rfl) (HMM.out _) ?_ (fun c w' h => by cases h.1) (fun w' h => by cases h.1)
          rintro e5 W5 ⟨he5, hb5⟩
          injection he5 with he5
          subst he5
          have S5 := HSN.out _ _ S4 hb5
          refine ⟨S5, ?_⟩
          clear hb5 S4
          refine held_none (i := 8) (v := .bool false) rfl rfl (by kernel_rfl) (by kernel_rfl) (by kernel_rfl) (fun _ _ _ h => h) (yieldsIf_move (by kernel_rfl) rfl (by kernel_rfl)) S5 ?_
          have HN6 := Lib.hid (S5.2.2.out.put y)
          refine wpAnyH_done (by kernel_rfl) (lastQ_store rfl (by kernel_rfl) (by kernel_rfl) 91 (.tmp 7) (.tmp 31) (by kernel_rfl) vb 0 (vl y).toArray (by kernel_rfl) (by kernel_rfl) (by have := S5.2.2.out.there; simpa [vl_length] using this) HI5.out (vl_all _) ?_) _
          simp only [Act.put, List.setIfInBounds_toArray, List.set_cons_zero, List.set_cons_succ]
          obtain ⟨W6, hW6⟩ : ∃ W6, W6 = W5.setCells vb 0 (vl y) := ⟨_, rfl⟩
          rw [show W5.setCells vb 0 (vl y).toArray.toList = W6 by rw [hW6]]
          rw [← hW6] at HN6
          clear hW6 S5 hcellS HSN HLD HMM HI5
          by_cases hy0 : y = Lin.zv
          · subst hy0
            have heq := heq_yes
            go_wp2_with (first | (with_reducible refine wpList_load_mid rfl 91 (.tmp 7) rfl vb 0 rfl (vl Lin.zv) _ HN6.out.at'.range Tryz.underlyingV rfl HIY.out ?_) | (with_reducible refine wpList_buildZ rfl (some 33) rfl rfl ?_))
            go_roundg g
            case rel => exact ⟨k + 1, R, by omega, by go_num, Lib.hid HN6.out.below, Lib.hid HN6.out.own, Lib.hid (by rw [HTK.out]; exact HR.out.skip (by omega) HTM.out HVM.out (HRE2.out.zero (by omega) rfl _)), by omega⟩
            case measure => omega
          · have heq := heq_no HYW.out hy0
            have HY0 := Lib.hid hy0
            clear hy0
            go_wp2_with (first | (with_reducible refine wpList_load_mid rfl 91 (.tmp 7) rfl vb 0 rfl (vl y) _ HN6.out.at'.range Tryz.underlyingV rfl HIY.out ?_) | (with_reducible refine wpList_buildZ rfl (some 33) rfl rfl ?_))
            go_roundg g2
            case rel => exact ⟨j + 1, y, by omega, by go_num, HN6, HRE2, HYW, HY0⟩
            case measure => omega
end Go.Proofs.YtlopenephgabhaaGreat


namespace Go.Proofs.YtlopenephgabhaaGreat
open Go.RowKit

/-- A row as a vector. -/
def ofL (xs : List Int) : Lin.V := fun i => xs.getD i 0
theorem ofL_at {xs : List Int} {i : Nat} (h : i < xs.length) : ofL xs i = xs[i] := getD_of_lt _ h
theorem ofL_wd {xs : List Int} {n : Nat} (h : xs.length ≤ n) : Lin.Wd n (ofL xs) := fun i hi => by simp [ofL, List.getD, show xs.length ≤ i by omega]
theorem toL_ofL {xs : List Int} {n : Nat} (h : xs.length = n) : toL n (ofL xs) = xs := by
  subst h
  refine List.ext_getElem (toL_length _ _) fun i h1 h2 => ?_
  rw [toL_get _ h1, ofL_at h2]
theorem ofL_md {p n : Int} {xs : List Int} (hp : 0 < p) (h : RowOk p n xs) : Lin.Md p (ofL xs) := fun i => by
  by_cases hi : i < xs.length
  · rw [ofL_at hi]
    have := h.2 _ (List.getElem_mem hi)
    omega
  · have : ofL xs i = 0 := by simp [ofL, List.getD, show xs.length ≤ i by omega]
    omega
theorem pad_toL {xs : List Int} (h : xs.length ≤ 40) : pad xs = toL 40 (ofL xs) := by
  refine List.ext_getElem (by rw [pad_length h, toL_length]) fun i h1 h2 => ?_
  rw [toL_get]
  by_cases hi : i < xs.length
  · rw [ofL_at hi]
    simp only [pad]
    rw [List.getElem_append_left hi]
  · have : ofL xs i = 0 := by simp [ofL, List.getD, show xs.length ≤ i by omega]
    rw [this]
    simp only [pad]
    rw [List.getElem_append_right (by omega)]
    simp
theorem ints_ofL {xs : List Int} (h : xs.length ≤ 40) : ints (pad xs) = (vl (ofL xs)).toArray := by rw [pad_toL h]; rfl

theorem cellsOf_zeros (n : Nat) : (madeCells (Value.agg zl.toArray).cells (n * 40)).toList = cellsOf (List.replicate n Lin.zv) := by
  have hz : ∀ x ∈ cellsOf (List.replicate n Lin.zv), x = .int .i64 0 := fun x hx => by
    obtain ⟨v, hv, h⟩ := List.mem_flatMap.1 hx
    obtain rfl := List.eq_of_mem_replicate hv
    obtain ⟨y, hy, rfl⟩ := List.mem_map.1 h
    obtain ⟨i, _, rfl⟩ := List.mem_map.1 hy
    rfl
  have h1 : cellsOf (List.replicate n Lin.zv) = List.replicate (n * 40) (.int .i64 0) := List.eq_replicate_iff.2 ⟨by rw [cellsOf_length, List.length_replicate], hz⟩
  rw [h1]
  refine List.eq_replicate_iff.2 ⟨by simp [madeCells], fun x hx => ?_⟩
  simp only [madeCells, Array.toList_map, List.mem_map] at hx
  obtain ⟨i, _, rfl⟩ := hx
  have hzs : (Value.agg zl.toArray).cells = zl.toArray := rfl
  rw [hzs]
  have e : zl.toArray.size = 40 := by simp [zl_length]
  have : i % zl.toArray.size < zl.toArray.size := Nat.mod_lt _ (by omega)
  rw [getElem!_pos zl.toArray (i % zl.toArray.size) this]
  exact List.eq_of_mem_replicate (n := 40) (List.mem_toArray.1 (Array.getElem_mem this))
theorem wpList_makeV {ops : Array Oper} {rest : List Oper} {o : Oper} {a : Act} {w : World} {Q : Exit → Act → World → Prop} (hg : o.guard = none) (dst : Option Tmp) (hdst : o.dst = dst) (x : Operand) (ho : o.op = .makeSlice 69 x x) (n : Nat) (hx : a.eval x = .int .i64 (n : Int)) (hn : n ≤ 1048576)
    (h : ∀ W, Ox w.heap.size W w.heap.size n (List.replicate n Lin.zv) → Below w.heap.size w W → wpList Tryz.prog ops Q rest (a.put dst (.slice (some ⟨w.heap.size, 0, none⟩) n n)) W) : wpList Tryz.prog ops Q (o :: rest) a w := by
  obtain ⟨i0, hi, hz0, hz1, hz2⟩ := info_parts Tryz.infoVz
  subst hdst
  refine wpList_make_full w hg x x 69 ho w.heap.size 91 i0 (.agg zl.toArray) 40 Tryz.underlyingSV hi hz0 hz1 .i64 .i64 n n n hx hx rfl rfl (by rw [hz2]; omega) (by unfold maxLen; omega) (Nat.le_refl _) (fun W h1 h2 => h W ⟨Nat.le_refl _, ?_⟩ ?_)
  · unfold Ow
    rw [cellsOf_zeros] at h1
    rw [List.length_replicate]
    exact h1
  · exact ⟨h2.os, h2.tape, h2.output, h2.size, fun k hk => h2.block k hk (by simp)⟩

/-- The vectors, the first k of them filled. -/
def filled (L : List Lin.V) (k : Nat) : List Lin.V := L.take k ++ List.replicate (L.length - k) Lin.zv
theorem filled_length (L : List Lin.V) (k : Nat) : (filled L k).length = L.length := by simp [filled]; omega
theorem filled_set {L : List Lin.V} {k : Nat} (hk : k < L.length) : (filled L k).set k L[k] = filled L (k + 1) := by
  have hl : (L.take k).length = k := by simp; omega
  unfold filled
  rw [List.set_append_right _ _ (by omega), hl, Nat.sub_self, show L.length - k = (L.length - (k + 1)) + 1 by omega, List.replicate_succ, List.set_cons_zero, List.take_succ_eq_append_getElem hk, List.append_assoc]
  rfl

set_option maxHeartbeats 1600000 in
set_option maxRecDepth 100000 in
theorem vectorsOf_any (v : Value) (xs : List (List Int)) (w : World) (h : L2 0 w v xs) (hl : xs.length ≤ 1048576) (hm : ∀ r ∈ xs, r.length ≤ 40) :
    Calls Tryz.prog 83 #[v] w (VsR (fun M => M = xs.map ofL) w) := by
  have HM := Lib.hid hm
  have H := Lib.hid h
  obtain ⟨ad, cap, rfl⟩ := Sl.shape h
  clear hm h
  obtain ⟨TS, hT⟩ : ∃ TS, TS = xs.map ofL := ⟨_, rfl⟩
  have HT := Lib.hid hT
  have HTL : Hid (TS.length = xs.length) := Lib.hid (by rw [hT, List.length_map])
  clear hT
  go_enter Tryz.func83, Tryz.ntmps83
  go_wp2_with (with_reducible refine wpList_makeV rfl (some 8) rfl (.tmp 7) rfl xs.length rfl hl ?_; intro W1 hw1 hb1; have HX1 := Lib.hid hw1; have HB1 := Lib.hid hb1; clear hw1 hb1)
  go_loopw [4, 5, 11] (fun _ _ i wr => ∃ (k : Nat), k ≤ xs.length ∧ i = .int .i64 k ∧ Hid (Below w.heap.size w wr) ∧ Hid (Ox w.heap.size wr w.heap.size xs.length (filled TS k))) (fun _ _ i _ => xs.length - (intOf i).toNat)
  case atStart => exact ⟨0, Nat.zero_le _, rfl, HB1, Lib.hid (by have := HX1.out; rw [filled, List.take_zero, HTL.out, Nat.sub_zero]; exact this)⟩
  case round =>
    clear HX1 HB1
    obtain ⟨k, hk, rfl, HB, HX⟩ := hrel
    by_cases hlt : k < xs.length
    · refine Sl.cases H.out (fun _ _ hx _ => absurd hlt (by simp [hx])) (fun b o cap2 hv _ _ hc => ?_)
      obtain ⟨rfl, rfl⟩ : ad = some ⟨b, o, none⟩ ∧ cap = cap2 := by simpa using hv
      obtain ⟨u, hu, hr⟩ := hc k hlt
      have hu2 := later HB.out (Nat.le_refl _) hu
      have HR := Lib.hid (hr.below HB.out)
      have hrl := HM.out _ (List.getElem_mem hlt)
      obtain ⟨r, hre⟩ : ∃ r, r = xs[k] := ⟨_, rfl⟩
      rw [← hre] at HR hrl
      have HTK : Hid (TS[k]'(by rw [HTL.out]; exact hlt) = ofL r) := Lib.hid (by simp only [HT.out, List.getElem_map, hre])
      clear hv hc hu hr hre
      go_wp2_with fail
      refine (vectorOf_any u r _ HR.out hrl).mono ?_
      rw [ints_ofL hrl]
      rintro e W2 ⟨rfl, hb2⟩
      have hkT : k < TS.length := by rw [HTL.out]; exact hlt
      have HP := Lib.hid ((HX.out.below hb2).put (k := k) (by rw [filled_length]; exact hkT) (ofL r))
      have HPX : Hid (Ox w.heap.size (W2.setCells w.heap.size (k * 40) (vl (ofL r))) w.heap.size xs.length (filled TS (k + 1))) := Lib.hid (by
        have e : (filled TS k).set k (ofL r) = filled TS (k + 1) := by
          rw [← HTK.out]
          exact filled_set hkT
        have h2 := HP.out.1
        rw [e] at h2
        exact h2)
      have HB2 : Hid (Below w.heap.size w (W2.setCells w.heap.size (k * 40) (vl (ofL r)))) := Lib.hid (below_setCells _ (Nat.le_refl _) _ _ _ (HB.out.trans (hb2.mono HB.out.size)))
      have HI := Lib.hid (Tryz.infoVl (ofL r))
      have HI2 : Hid ((Tryz.prog.info? 91).map (·.size) = some (vl (ofL r)).toArray.size) := Lib.hid (by have := HI.out; simpa using this)
      have HTH : Hid (W2.there w.heap.size (k * 40) (vl (ofL r)).toArray.size) := Lib.hid (by have := HP.out.2; simpa [vl_length] using this)
      clear hb2 HX HR
      go_wp2_with (with_reducible refine wpList_store_mid rfl 91 (.tmp 20) (.tmp 19) rfl w.heap.size (k * 40) (vl (ofL r)).toArray rfl rfl HTH.out HI2.out (vl_all _) ?_)
      go_roundw
      case rel => exact ⟨k + 1, by omega, by go_num, HB2, HPX⟩
      case measure => simp [intOf]; omega
    · have hkk : Hid (filled TS k = TS) := Lib.hid (by rw [filled, List.take_of_length_le (by rw [HTL.out]; omega), HTL.out, show xs.length - k = 0 by omega]; simp)
      go_wp2
      go_ret
      refine ⟨_, TS, rfl, HB.out, ?_, HT.out⟩
      have := HX.out.own
      rw [hkk.out, HTL.out] at this
      exact this
end Go.Proofs.YtlopenephgabhaaGreat

namespace Go.Proofs.YtlopenephgabhaaGreat
open Go.RowKit

def rowZ (c : Nat) (Z : Nat → Nat → Int) (j : Nat) : List Int := (List.range c).map fun i => Z j i
/-- A table at block g, its rows behind it, each in a block of its own. -/
structure TabW (W : World) (g r c : Nat) (Z : Nat → Nat → Int) : Prop where
  top : ∀ j, j < r → W.cell? ⟨g, j, none⟩ = some (.slice (some ⟨g + 1 + j, 0, none⟩) c c)
  rows : ∀ j, j < r → W1 (g + 1 + j) (g + 1 + j + 1) W (.slice (some ⟨g + 1 + j, 0, none⟩) c c) (rowZ c Z j)
/-- The same with the marks from k to m in it. -/
def HW (lo hi : Nat) (W : World) (u : Value) (k m : Int) : Prop :=
  (u = .slice none 0 0 ∧ m = k) ∨ ∃ (g r c : Nat), lo ≤ g ∧ g + 1 + r ≤ hi ∧ r ≤ 1048576 ∧ c ≤ 1048576 ∧ u = .slice (some ⟨g, 0, none⟩) r r ∧ m = k + ((r * c : Nat) : Int) ∧ TabW W g r c (fun j i => k + ((j * c : Nat) : Int) + (i : Int))
end Go.Proofs.YtlopenephgabhaaGreat

namespace Go.Proofs.YtlopenephgabhaaGreat
open Go.RowKit

theorem rowIs_below {W W' : World} {b : Nat} {t : TypeId} {n : Nat} {f : Nat → Value} (h : W.rowIs b t n f) (hb : Below W.heap.size W W') : W'.rowIs b t n f := h.of_block (hb.block b h.lt)
end Go.Proofs.YtlopenephgabhaaGreat


namespace Go.Proofs.YtlopenephgabhaaGreat
open Go.RowKit

section
variable {P : Program} {md : Region.Mode} {ops : Array Oper} {Q : Exit → Act → World → Prop} {S : World → Prop}
theorem yieldsIf_bin {o : Oper} {a : Act} {x y : Operand} {v u i : Value} {b : BinOp} {t t' : TypeId} (hg : o.guard = none) (ho : o.op = .binOp b t x y t') (hx : a.eval x = u) (hy : a.eval y = i) (hge : ∀ w, (eqGuard b t x y u i).run P w = .ok () w) (hrun : ∀ w, (binOp b t u i).run P w = .ok v w) : YieldsIf P ops S o v a :=
  Or.inl ⟨by unfold Region.wanted; rw [hg], fun w _ => by
    unfold execOp
    simp only [ho, hx, hy, Sem.run_bind, hge w, hrun w, Result.andThen_ok]
    rfl⟩
theorem yieldsIf_run {o : Oper} {a : Act} {v : Value} (hg : o.guard = none) (hrun : ∀ w, S w → (execOp a.eval o).run P w = .ok (.value v) w) : YieldsIf P ops S o v a :=
  Or.inl ⟨by unfold Region.wanted; rw [hg], hrun⟩
theorem yieldsIf_assign {o : Oper} {a : Act} {x : Operand} {v : Value} (hg : o.guard = none) (ho : o.op = .assign x) (hx : a.eval x = v) : YieldsIf P ops S o v a :=
  Or.inl ⟨by unfold Region.wanted; rw [hg], fun w _ => by
    unfold execOp
    simp only [ho, hx]
    rfl⟩
end
section
variable {md : Region.Mode} {ops : Array Oper} {Q : Exit → Act → World → Prop} {S : World → Prop}
/-- A slice of one new number. -/
theorem held_buildI {i : Nat} {oi : Oper} {fuel : Nat} {listed : Array Bool} {a : Act} {w : World} (d : Option Tmp) (hr : Region.ready md ops listed = [i]) (hi : ops[i]? = some oi) (hg : oi.guard = none) (hd : oi.dst = d)
    (x : Operand) (n : Int) (ho : oi.op = .buildSlice 47 1 #[(0, x)]) (hx : a.eval x = .int .i64 n)
    (h : S (w.alloc (.cells #[.int .i64 n] 2)) ∧ wpAnyH Tryz.prog md ops Q S fuel (listed.setIfInBounds i true) (a.put d (.slice (some ⟨w.heap.size, 0, none⟩) 1 1)) (w.alloc (.cells #[.int .i64 n] 2))) : wpAnyH Tryz.prog md ops Q S (fuel + 1) listed a w := by
  obtain ⟨ie, hie, hz, h1, _⟩ := info_parts Tryz.infoI
  subst hd
  refine held_call hr hi hg (wp_buildSlice 47 2 1 #[(0, x)] ho #[.int .i64 n] ie _ Tryz.underlying47 hie hz (by rw [h1]; decide) (by rw [h1]; decide) ?_ h)
  simp only [h1, List.map_toArray, List.map_cons, List.map_nil, hx]
  first | kernel_rfl | simp [Instr.fill]
/-- A slice of one new row. -/
theorem held_buildS {i : Nat} {oi : Oper} {fuel : Nat} {listed : Array Bool} {a : Act} {w : World} (d : Option Tmp) (hr : Region.ready md ops listed = [i]) (hi : ops[i]? = some oi) (hg : oi.guard = none) (hd : oi.dst = d)
    (x : Operand) (ad : Option Addr) (n c : Nat) (ho : oi.op = .buildSlice 22 1 #[(0, x)]) (hx : a.eval x = .slice ad n c)
    (h : S (w.alloc (.cells #[.slice ad n c] 47)) ∧ wpAnyH Tryz.prog md ops Q S fuel (listed.setIfInBounds i true) (a.put d (.slice (some ⟨w.heap.size, 0, none⟩) 1 1)) (w.alloc (.cells #[.slice ad n c] 47))) : wpAnyH Tryz.prog md ops Q S (fuel + 1) listed a w := by
  obtain ⟨ie, hie, hz, h1, _⟩ := info_parts Tryz.infoS
  subst hd
  refine held_call hr hi hg (wp_buildSlice 22 47 1 #[(0, x)] ho #[.slice ad n c] ie _ Tryz.underlying22 hie hz (by rw [h1]; decide) (by rw [h1]; decide) ?_ h)
  simp only [h1, List.map_toArray, List.map_cons, List.map_nil, hx]
  first | kernel_rfl | simp [Instr.fill]
/-- append of one number. -/
theorem held_appendI {i : Nat} {oi : Oper} {fuel : Nat} {listed : Array Bool} {a : Act} {w : World} (d : Option Tmp) (hr : Region.ready md ops listed = [i]) (hi : ops[i]? = some oi) (hg : oi.guard = none) (hd : oi.dst = d)
    (s x : Operand) (ho : oi.op = .call { callee := .builtin .append, args := #[s, x], argTypes := #[47, 47] }) (base : Nat) (v : Value) (n : Nat) (xs : List Value) (hs : a.eval s = v) (hown : w.ownsRow base 2 1 v n xs)
    (b : Nat) (y : Int) (hx : a.eval x = .slice (some ⟨b, 0, none⟩) 1 1) (hc : w.cell? ⟨b, 0, none⟩ = some (.int .i64 y)) (hn : n ≤ 2097152) (hb : base ≤ w.heap.size)
    (h : ∀ v' w', w'.ownsRow base 2 1 v' (n + 1) (xs ++ [.int .i64 y]) → w.grownBy w' v.ownBlock → S w' ∧ wpAnyH Tryz.prog md ops Q S fuel (listed.setIfInBounds i true) (a.put d v') w') : wpAnyH Tryz.prog md ops Q S (fuel + 1) listed a w := by
  obtain ⟨ie, hie, hz, h1, h2⟩ := info_parts Tryz.infoI
  subst hd
  refine held_call hr hi hg (wp_append_own w s x 47 ho base 2 ie _ 1 8 Tryz.underlying47 hie hz h1 h2 rfl (by decide) v n xs hs hown ⟨b, 0, none⟩ 1 1 [.int .i64 y] hx rfl ?_ ?_ (by unfold maxLen; omega) (by omega) hb (fun v' w' h2 h3 _ => h v' w' h2 h3))
  · intro j u hj
    match j, hj with
    | 0, hj =>
      simp at hj
      subst hj
      exact hc
  · intro u hu
    simp at hu
    subst hu
    rfl
/-- append of one row. -/
theorem held_appendS {i : Nat} {oi : Oper} {fuel : Nat} {listed : Array Bool} {a : Act} {w : World} (d : Option Tmp) (hr : Region.ready md ops listed = [i]) (hi : ops[i]? = some oi) (hg : oi.guard = none) (hd : oi.dst = d)
    (s x : Operand) (ho : oi.op = .call { callee := .builtin .append, args := #[s, x], argTypes := #[22, 22] }) (base : Nat) (v : Value) (n : Nat) (xs : List Value) (hs : a.eval s = v) (hown : w.ownsRow base 47 1 v n xs)
    (b : Nat) (ad : Option Addr) (m c : Nat) (hx : a.eval x = .slice (some ⟨b, 0, none⟩) 1 1) (hc : w.cell? ⟨b, 0, none⟩ = some (.slice ad m c)) (hn : n ≤ 2097152) (hb : base ≤ w.heap.size)
    (h : ∀ v' w', w'.ownsRow base 47 1 v' (n + 1) (xs ++ [.slice ad m c]) → w.grownBy w' v.ownBlock → S w' ∧ wpAnyH Tryz.prog md ops Q S fuel (listed.setIfInBounds i true) (a.put d v') w') : wpAnyH Tryz.prog md ops Q S (fuel + 1) listed a w := by
  obtain ⟨ie, hie, hz, h1, h2⟩ := info_parts Tryz.infoS
  subst hd
  refine held_call hr hi hg (wp_append_own w s x 22 ho base 47 ie _ 1 24 Tryz.underlying22 hie hz h1 h2 rfl (by decide) v n xs hs hown ⟨b, 0, none⟩ 1 1 [.slice ad m c] hx rfl ?_ ?_ (by unfold maxLen; omega) (by omega) hb (fun v' w' h2 h3 _ => h v' w' h2 h3))
  · intro j u hj
    match j, hj with
    | 0, hj =>
      simp at hj
      subst hj
      exact hc
  · intro u hu
    simp at hu
    subst hu
    rfl
end
theorem hmulI {a b : Int} (h0 : -1000 ≤ a * b) (h1 : a * b ≤ 1000) (w : World) : (binOp .mul 2 (.int .i64 a) (.int .i64 b)).run Tryz.prog w = .ok (.int .i64 (a * b)) w := by
  have hw : IntKind.i64.wrap (a * b) = a * b := IntWalk.i64_in _ (by omega)
  go_simp
theorem hsubI {a b : Int} (h0 : -1000 ≤ a - b) (h1 : a - b ≤ 1000) (w : World) : (binOp .sub 2 (.int .i64 a) (.int .i64 b)).run Tryz.prog w = .ok (.int .i64 (a - b)) w := by
  have hw : IntKind.i64.wrap (a - b) = a - b := IntWalk.i64_in _ (by omega)
  go_simp
theorem cell_alloc1 (w : World) (v : Value) (t : TypeId) : (w.alloc (.cells #[v] t)).cell? ⟨w.heap.size, 0, none⟩ = some v := by
  unfold World.cell?
  rw [heap_alloc_new w (.cells #[v] t)]
  rfl
theorem hidxI (b o : Nat) {k n : Nat} (cap : Nat) (hk : k < n) (w : World) : (Instr.indexAt 47 (.slice (some ⟨b, o, none⟩) n cap) (.int .i64 k)).run Tryz.prog w = .ok (.pointer (some ⟨b, o + k, none⟩)) w := by
  have h2 : (0 : Int) ≤ (k : Int) := by omega
  have h3 : (k : Int) < (n : Int) := by omega
  go_simp
theorem hidxS (b o : Nat) {k n : Nat} (cap : Nat) (hk : k < n) (w : World) : (Instr.indexAt 22 (.slice (some ⟨b, o, none⟩) n cap) (.int .i64 k)).run Tryz.prog w = .ok (.pointer (some ⟨b, o + k, none⟩)) w := by
  have h2 : (0 : Int) ≤ (k : Int) := by omega
  have h3 : (k : Int) < (n : Int) := by omega
  go_simp
theorem hloadS (w : World) {b o : Nat} {x : Value} (h : w.cell? ⟨b, o, none⟩ = some x) : (Instr.loadAt 47 (.pointer (some ⟨b, o, none⟩))).run Tryz.prog w = .ok x w := by go_simp
end Go.Proofs.YtlopenephgabhaaGreat

namespace Go.Proofs.YtlopenephgabhaaGreat
open Go.RowKit

theorem ld_ltn {n : Nat} {v : Lin.V} (hw : Lin.Wd n v) (hne : v ≠ Lin.zv) : Lin.ld v < n ∧ v (Lin.ld v) ≠ 0 ∧ ∀ j, j < Lin.ld v → v j = 0 := by
  obtain ⟨i, hi⟩ := Lin.ne_zv hne
  obtain ⟨h1, h2⟩ := Lin.ld_spec hi
  refine ⟨Classical.byContradiction fun hn => h1 (hw _ (by omega)), h1, h2⟩
theorem leadOf_toL {n : Nat} {u : Lin.V} (hw : Lin.Wd n u) (hne : u ≠ Lin.zv) : leadOf (toL n u) = (Lin.ld u : Int) := by
  obtain ⟨h1, h2, h3⟩ := ld_ltn hw hne
  refine leadOf_at (k := Lin.ld u) (by rw [toL_length]; exact h1) (fun j hj hjk => ?_) ?_
  · rw [toL_get]; exact h3 j hjk
  · rw [toL_get]; exact h2
theorem leadOf_zv (n : Nat) : leadOf (toL n Lin.zv) = -1 := leadOf_zero (fun j hj => by rw [toL_get]; rfl)
/-- What a reduced list of rows of n numbers has to do with a list. -/
structure RedN (p : Int) (n : Nat) (R T : List Lin.V) : Prop where
  red : Lin.Red p R
  wd : ∀ u ∈ R, Lin.Wd n u
  eqv : Lin.Eqv p R T
theorem RedN.nil (p : Int) (n : Nat) : RedN p n [] [] := ⟨Lin.Red.nil p, by simp, Lin.Eqv.refl _ _⟩
theorem RedN.skip {p : Int} (hp : 0 < p) {n : Nat} {R T : List Lin.V} (h : RedN p n R T) {v : Lin.V} (hT : ∀ w ∈ T, Lin.Md p w) (hv : Lin.Md p v) (hr : Lin.Rest p R v R.length Lin.zv) : RedN p n R (T ++ [v]) :=
  ⟨h.red, h.wd, Lin.skip_eqv hp h.red hT hv h.eqv hr⟩
theorem RedN.put {p : Int} (hp : 1 < p) {n : Nat} {R T : List Lin.V} (h : RedN p n R T) {v r u : Lin.V} {k : Nat} (hT : ∀ w ∈ T, Lin.Md p w) (hv : Lin.Md p v) (hr : Lin.Rest p R v R.length r) (hne : r ≠ Lin.zv) (hu : Lin.Unit p r u) (huw : Lin.Wd n u) (hk : k ≤ R.length)
    (hlo : ∀ w ∈ R.take k, Lin.ld w < Lin.ld u) (hhi : ∀ w ∈ R.drop k, ¬ Lin.ld w < Lin.ld u) : RedN p n (Lin.put p R k u) (T ++ [v]) := by
  have hf := Lin.fits_of hr hne hu hk hlo hhi
  refine ⟨hf.red hp h.red, fun x hx => ?_, Lin.put_eqv hp h.red hT hv h.eqv hr hu hf⟩
  rcases Lin.put_mem.1 hx with rfl | ⟨y, hy, rfl⟩
  · exact huw
  · exact Lin.add_wd _ (h.wd y hy) huw
/-- A row less its multiple of u. -/
noncomputable def less1 (p : Int) (u w : Lin.V) : Lin.V := Lin.add p w (-(w (Lin.ld u))) u
/-- The next list while it is gathered: j rows have been seen; pt: the new row is in. -/
def Nx (p : Int) (R : List Lin.V) (u : Lin.V) (j : Nat) (pt : Bool) (N : List Lin.V) : Prop :=
  if pt then ∃ K, K ≤ j ∧ (∃ h : K < R.length, Lin.ld u < Lin.ld R[K]) ∧ (∀ w ∈ R.take K, Lin.ld w < Lin.ld u) ∧ N = Lin.put p (R.take j) K u
  else (∀ w ∈ R.take j, Lin.ld w < Lin.ld u) ∧ N = (R.take j).map (less1 p u)
theorem Nx.start (p : Int) (R : List Lin.V) (u : Lin.V) : Nx p R u 0 false [] := ⟨by simp, by simp⟩
theorem put_more {p : Int} {R : List Lin.V} {u : Lin.V} {j K : Nat} (hK : K ≤ j) (hj : j < R.length) : Lin.put p (R.take j) K u ++ [less1 p u R[j]] = Lin.put p (R.take (j + 1)) K u := by
  have hl : (R.take j).length = j := by simp; omega
  rw [List.take_succ_eq_append_getElem hj]
  unfold Lin.put
  rw [List.take_append_of_le_length (by omega), List.drop_append_of_le_length (by omega), List.map_append, List.append_assoc]
  rfl
theorem put_last {p : Int} {R : List Lin.V} {u : Lin.V} : (R.map (less1 p u)) ++ [u] = Lin.put p R R.length u := by
  unfold Lin.put
  rw [List.take_of_length_le (Nat.le_refl _), List.drop_of_length_le (Nat.le_refl _)]
  rfl
theorem Nx.keep {p : Int} {R : List Lin.V} {u : Lin.V} {j : Nat} {N : List Lin.V} (h : Nx p R u j true N) (hj : j < R.length) : Nx p R u (j + 1) true (N ++ [less1 p u R[j]]) := by
  obtain ⟨K, hK, hx, hlo, rfl⟩ := h
  exact ⟨K, by omega, hx, hlo, put_more hK hj⟩
theorem Nx.pass {p : Int} {R : List Lin.V} {u : Lin.V} {j : Nat} {N : List Lin.V} (h : Nx p R u j false N) (hj : j < R.length) (hlt : Lin.ld R[j] < Lin.ld u) : Nx p R u (j + 1) false (N ++ [less1 p u R[j]]) := by
  obtain ⟨hlo, rfl⟩ := h
  refine ⟨fun w hw => ?_, ?_⟩
  · rw [List.take_succ_eq_append_getElem hj] at hw
    rcases List.mem_append.1 hw with h1 | h1
    · exact hlo w h1
    · rw [List.mem_singleton.1 h1]; exact hlt
  · rw [List.take_succ_eq_append_getElem hj, List.map_append]
    rfl
theorem Nx.in' {p : Int} {R : List Lin.V} {u : Lin.V} {j : Nat} {N : List Lin.V} (h : Nx p R u j false N) (hj : j < R.length) (hlt : Lin.ld u < Lin.ld R[j]) : Nx p R u (j + 1) true (N ++ [u] ++ [less1 p u R[j]]) := by
  obtain ⟨hlo, rfl⟩ := h
  have hl : (R.take j).length = j := by simp; omega
  refine ⟨j, by omega, ⟨hj, hlt⟩, hlo, ?_⟩
  have e := put_last (p := p) (R := R.take j) (u := u)
  rw [e, hl]
  exact put_more (Nat.le_refl _) hj
theorem Nx.done {p : Int} {R : List Lin.V} {u : Lin.V} {N : List Lin.V} (hR : Lin.Red p R) (h : Nx p R u R.length true N) : ∃ K, K ≤ R.length ∧ N = Lin.put p R K u ∧ (∀ w ∈ R.take K, Lin.ld w < Lin.ld u) ∧ ∀ w ∈ R.drop K, ¬ Lin.ld w < Lin.ld u := by
  obtain ⟨K, hK, ⟨hk, hx⟩, hlo, rfl⟩ := h
  refine ⟨K, hK, by rw [List.take_of_length_le (Nat.le_refl _)], hlo, fun w hw => ?_⟩
  rw [List.drop_eq_getElem_cons hk] at hw
  have hp := hR.inc
  rw [← List.take_append_drop K R, List.drop_eq_getElem_cons hk] at hp
  have h2 := (List.pairwise_append.1 hp).2.1
  rcases List.mem_cons.1 hw with rfl | hw
  · omega
  · have := (List.pairwise_cons.1 h2).1 w hw
    omega
theorem Nx.end {p : Int} {R : List Lin.V} {u : Lin.V} {N : List Lin.V} (h : Nx p R u R.length false N) : ∃ K, K ≤ R.length ∧ N ++ [u] = Lin.put p R K u ∧ (∀ w ∈ R.take K, Lin.ld w < Lin.ld u) ∧ ∀ w ∈ R.drop K, ¬ Lin.ld w < Lin.ld u := by
  obtain ⟨hlo, rfl⟩ := h
  refine ⟨R.length, Nat.le_refl _, ?_, hlo, ?_⟩
  · rw [List.take_of_length_le (Nat.le_refl _)]
    exact put_last
  · rw [List.drop_of_length_le (Nat.le_refl _)]
    simp
theorem Nx.length {p : Int} {R : List Lin.V} {u : Lin.V} {j : Nat} {pt : Bool} {N : List Lin.V} (h : Nx p R u j pt N) (hj : j ≤ R.length) : N.length ≤ j + 1 := by
  have hl : (R.take j).length = j := by simp; omega
  cases pt with
  | true =>
    obtain ⟨K, hK, _, _, rfl⟩ := h
    rw [put_length p _ K u (by omega)]
    omega
  | false =>
    obtain ⟨_, rfl⟩ := h
    rw [List.length_map]
    omega
/-- A unit row's lead is none of the list's. -/
theorem lead_apart {p : Int} {R : List Lin.V} {v r u w : Lin.V} (hr : Lin.Rest p R v R.length r) (hu : Lin.Unit p r u) (hw : w ∈ R) : Lin.ld w ≠ Lin.ld u := fun e => by
  have h0 := hu.at0 _ (hr.off w (by rw [List.take_of_length_le (Nat.le_refl _)]; exact hw))
  rw [e, hu.one] at h0
  exact absurd h0 (by decide)
/-- The remainder as the reference model takes it. -/
theorem mod_twice {p x : Int} (hp : 0 < p) : (x.tmod p + p).tmod p = x % p := by
  have h1 : 0 ≤ x.tmod p + p := by
    have := Int.lt_tmod_of_pos x hp
    omega
  rw [Int.tmod_eq_emod_of_nonneg h1, Int.add_emod_right]
  rcases Int.le_total 0 x with h | h
  · rw [Int.tmod_eq_emod_of_nonneg h, Int.emod_emod_of_dvd x (Int.dvd_refl p)]
  · have e := Int.mul_tdiv_add_tmod x p
    have : x.tmod p = x + p * (-(x.tdiv p)) := by rw [Int.mul_neg]; omega
    rw [this, Int.add_mul_emod_self_left]
end Go.Proofs.YtlopenephgabhaaGreat

namespace Go.Proofs.YtlopenephgabhaaGreat
open Go.RowKit

/-- A row of numbers that a call has gathered above a base. -/
def Gb (base : Nat) (w : World) (u : Value) (xs : List Int) : Prop := w.ownsRow base 2 1 u xs.length (xs.map (Value.int .i64))
theorem Gb.g1 {base : Nat} {w : World} {u : Value} {xs : List Int} (h : Gb base w u xs) : G1 w u xs := owns_mono h (Nat.zero_le _)
theorem Gb.l1 {base : Nat} {w : World} {u : Value} {xs : List Int} (h : Gb base w u xs) : L1 0 w u xs := h.g1.l1
theorem Gb.below {base : Nat} {w w' : World} {u : Value} {xs : List Int} (h : Gb base w u xs) (hb : Below w.heap.size w w') : Gb base w' u xs := owns_below h hb
theorem Gb.mono {base base' : Nat} {w : World} {u : Value} {xs : List Int} (h : Gb base w u xs) (hb : base' ≤ base) : Gb base' w u xs := owns_mono h hb

theorem toL_succ (q : Nat) (v : Lin.V) : toL (q + 1) v = toL q v ++ [v q] := by simp [toL, List.range_succ]

def GbR (xs : List Int) (w : World) (e : Ending) (w' : World) : Prop := ∃ u, e = .returned u ∧ Gb w.heap.size w' u xs ∧ Below w.heap.size w w'

theorem run_append_zero (w : World) (ty : TypeId) (g : Nat) (ad : Option Addr) (cap : Nat) :
    (Builtin.append_ #[47, 47] ty #[.slice (some ⟨g, 0, none⟩) 0 0, .slice ad 0 cap]).run Tryz.prog w = .ok (.slice (some ⟨g, 0, none⟩) 0 0) w := by
  obtain ⟨i, hi, _, _, _⟩ := info_parts Tryz.infoI
  cases ad with
  | none => simp [Builtin.append_, run_underlying Tryz.underlying47, sizeOf, typeInfo, hi, Builtin.lenOf, Builtin.firstCells, storeCells]
  | some a =>
    have hl := run_loadCells_list (P := Tryz.prog) w a [] (by simp)
    simp at hl
    simp [Builtin.append_, run_underlying Tryz.underlying47, sizeOf, typeInfo, hi, Builtin.lenOf, Builtin.firstCells, storeCells, hl]
theorem wpList_append_run {ops : Array Oper} {rest : List Oper} {o : Oper} {a : Act} {w : World} {Q : Exit → Act → World → Prop} {P : Program} (hgd : o.guard = none) (d s : Operand) (t t' : TypeId)
    (ho : o.op = .call { callee := .builtin .append, args := #[d, s], argTypes := #[t, t'] }) (v u : Value) (hd : a.eval d = v) (hs : a.eval s = u) {v' : Value} {w' : World}
    (hr : (Builtin.append_ #[t, t'] o.type #[v, u]).run P w = .ok v' w') (h : wpList P ops Q rest (a.put o.dst v') w') : wpList P ops Q (o :: rest) a w :=
  wpList_plain hgd fun K hK => by
    unfold Oper.wp execOp
    simp only [ho, resolve, invoke, builtin, Sem.run_bind, Sem.run_pure, Result.andThen_ok, List.map_toArray, List.map_cons, List.map_nil, hd, hs, hr]
    exact hK _ _ h

set_option maxHeartbeats 800000 in
theorem l01Own_any (v : Value) (xs : List Int) (w : World) (h : L1 0 w v xs) (hm : xs.length ≤ 1048576) :
    Calls Tryz.prog 64 #[v] w (GbR xs w) := by
  have HOWN := Lib.hid (World.ownsRow_made (base := w.heap.size) (e := 2) (size := 1) w #[] 0 (Nat.le_refl _) (by unfold maxLen; omega) (by simp))
  obtain ⟨i1, hj, hy0, hy1, hy2⟩ := info_parts Tryz.infoI
  refine Sl.cases h (fun ad cap hx hv => ?_) (fun b o cap hv _ hpos hc => ?_)
  · subst hx hv
    clear h
    have hrun := fun W ty => run_append_zero W ty w.heap.size ad cap
    go_enter Tryz.func64, Tryz.ntmps64
    go_wp2_with (at_builtin; refine wpList_append_run rfl (.tmp 3) (.tmp 4) 47 47 rfl _ _ rfl rfl (hrun _ _) ?_)
    go_wp2
    go_ret
    exact ⟨_, rfl, by simpa [Gb] using HOWN.out, (Below.refl _ _).alloc (Nat.le_refl _) _⟩
  · subst hv
    clear h
    have HC := Lib.hid hc
    clear hc
    go_enter Tryz.func64, Tryz.ntmps64
    go_wp2_with (at_builtin; refine wpList_append_own _ rfl (.tmp 3) (.tmp 4) 47 rfl w.heap.size 2 i1 (.int .i64 0) 1 8 Tryz.underlying47 hj hy0 hy1 hy2 rfl (by decide) _ _ _ rfl HOWN.out ⟨b, o, none⟩ xs.length cap (xs.map (Value.int .i64)) rfl ?c0 ?c1 ?c2 ?c3 ?c4 ?c5 ?_)
    case c0 => simp
    case c1 =>
      intro j u hju
      have hj' : j < xs.length := by
        have := (List.getElem?_eq_some_iff.1 hju).1
        simpa using this
      obtain ⟨u2, h2, h3⟩ := HC.out j hj'
      rw [Addr.add_lit]
      have h4 := cell_lt h2
      rw [((Below.refl w.heap.size w).alloc (Nat.le_refl _) _).cell (p := ⟨b, o + j, none⟩) h4, h2, h3]
      simp [hj'] at hju
      rw [hju]
    case c2 => intro u hu; obtain ⟨x, _, rfl⟩ := List.mem_map.1 hu; rfl
    case c3 => unfold maxLen; omega
    case c4 => omega
    case c5 => simp
    intro v' w3 hown' hgrow _
    have HB3 : Hid (Below w.heap.size w w3) := Lib.hid (((Below.refl _ _).alloc (Nat.le_refl _) _).grown hgrow (by simp) (fun g hg => ((HOWN.out.lt) g hg).1))
    have HO3 := Lib.hid hown'
    clear hown' hgrow
    go_wp2
    go_ret
    exact ⟨_, rfl, by simpa [Gb] using HO3.out, HB3.out⟩

theorem tmod_bd {p x : Int} (hp : IsP p) : -7 < x.tmod p ∧ x.tmod p < 7 := by
  have h1 := Int.lt_tmod_of_pos x (show 0 < p by have := hp.lo; omega)
  have h2 := Int.tmod_lt_of_pos x (show 0 < p by have := hp.lo; omega)
  have := hp.hi
  omega
set_option maxHeartbeats 400000 in
theorem l01Mod_any (p x : Int) (w : World) (hp : IsP p) : Calls Tryz.prog 86 #[.int .i64 p, .int .i64 x] w (QW (.int .i64 (x % p)) w) := by
  have HM := Lib.hid (mod_twice (x := x) (show 0 < p by have := hp.lo; omega))
  obtain ⟨hb0, hb1⟩ := tmod_bd (x := x) hp
  have hp0 := hp.lo
  have hp1 := hp.hi
  obtain ⟨r, hr⟩ : ∃ r, r = x.tmod p := ⟨_, rfl⟩
  rw [← hr] at hb0 hb1
  have HR := Lib.hid hr
  clear hr
  go_enter Tryz.func86, Tryz.ntmps86
  go_wp2
  rw [← HR.out]
  have hw : wrap64 (r + p) = r + p := by unfold wrap64; omega
  go_ret
  exact ⟨ret_int (by rw [← HM.out, ← HR.out, hw]), rfl⟩

set_option maxHeartbeats 800000 in
theorem l01Inverse_any (p a : Int) (w : World) (hp : IsP p) (h0 : 0 < a) (h1 : a < p) : Calls Tryz.prog 87 #[.int .i64 p, .int .i64 a] w (InvR p a w) := by
  obtain ⟨d, hd1, hdp, hd⟩ := inv_ex hp h0 h1
  have hp7 := hp.hi7
  have hp1 := hp.lo1
  have HD := Lib.hid hd
  have HP := Lib.hid hp
  have HAM : Hid (a % p = a) := Lib.hid (Int.emod_eq_of_lt (by omega) h1)
  clear hd hp
  go_enter Tryz.func87, Tryz.ntmps87
  go_wp2
  go_loop [5] (fun i => ∃ k : Nat, 1 ≤ k ∧ k ≤ d ∧ i = .int .i64 k) (fun i => d + 1 - (intOf i).toNat)
  case atStart => exact ⟨1, Nat.le_refl _, hd1, rfl⟩
  case round =>
    obtain ⟨k, hk1, hk, rfl⟩ := hrel
    obtain ⟨hm0, hm1⟩ := mul_bd HP.out (a := (k : Int)) (b := a) (by omega) (by omega) (by omega) (by omega)
    have hkp : (k : Int) < p := by omega
    go_wp2_with fail
    have hmod := l01Mod_any p a w HP.out
    rw [HAM.out] at hmod
    refine hmod.mono ?_
    clear hmod
    rintro e w' ⟨rfl, rfl⟩
    by_cases hq : (k : Int) * a % p = 1
    · have hx : ((k : Int) * a % p == 1) = true := by rw [hq]; rfl
      have HQ := Lib.hid hq
      clear hq
      go_wp2
      go_ret
      exact ⟨k, rfl, rfl, hk1, by omega, HQ.out⟩
    · have hx : ((k : Int) * a % p == 1) = false := by simp [hq]
      have hkd : k < d := by
        rcases Nat.lt_or_ge k d with h | h
        · exact h
        · have : k = d := by omega
          subst this
          exact absurd HD.out hq
      clear hq
      go_wp2
      go_round
      case rel => exact ⟨k + 1, by omega, by omega, by go_num⟩
      case measure => simp [intOf]; omega

/-- What l01Less computes, number by number, stays small. -/
theorem less_bd {p k a b : Int} (hp : IsP p) (hb : 0 ≤ b ∧ b < p) (hk : 0 ≤ k ∧ k < p) : 0 ≤ k * b ∧ k * b ≤ 42 ∧ (a - k * b) % p = (a + -k * b) % p := by
  obtain ⟨h1, h2⟩ := mul_bd hp hk.1 hk.2 hb.1 (Int.le_of_lt hb.2)
  exact ⟨h1, h2, by rw [Int.neg_mul, Int.sub_eq_add_neg]⟩

set_option maxHeartbeats 3200000 in
set_option maxRecDepth 100000 in
theorem l01Less_any (p k : Int) (n : Nat) (va vb : Value) (u t : Lin.V) (w : World) (hp : IsP p) (ha : L1 0 w va (toL n u)) (hb : L1 0 w vb (toL n t)) (hu : Lin.Md p u) (ht : Lin.Md p t) (hk : 0 ≤ k ∧ k < p) (hn : n ≤ 1048576) :
    Calls Tryz.prog 59 #[.int .i64 p, va, vb, .int .i64 k] w (GbR (toL n (Lin.add p u (-k) t)) w) := by
  have HP := Lib.hid hp
  have hp7 := hp.hi7
  have hp1 := hp.lo1
  have HA := Lib.hid ha
  have HB := Lib.hid hb
  have HU := Lib.hid hu
  have HT := Lib.hid ht
  obtain ⟨y, hy⟩ : ∃ y, y = Lin.add p u (-k) t := ⟨_, rfl⟩
  have HY := Lib.hid hy
  rw [← hy]
  obtain ⟨i1, hj, hy0, hy1, hy2⟩ := info_parts Tryz.infoI
  have HOWN := Lib.hid (World.ownsRow_made (base := w.heap.size) (e := 2) (size := 1) w #[] 0 (Nat.le_refl _) (by unfold maxLen; omega) (by simp))
  obtain ⟨ada, capa, hva⟩ := Sl.shape ha
  obtain ⟨adb, capb, hvb⟩ := Sl.shape hb
  rw [toL_length] at hva hvb
  subst hva hvb
  clear hp ha hb hu ht hy
  go_enter Tryz.func59, Tryz.ntmps59
  go_wp2
  go_loopw [9, 10] (fun o i wr => ∃ (q : Nat), q ≤ n ∧ i = .int .i64 q ∧ Hid (Below w.heap.size w wr) ∧ Hid (wr.ownsRow w.heap.size 2 1 o q ((toL q y).map (Value.int .i64)))) (fun _ i _ => n - (intOf i).toNat)
  case atStart => exact ⟨0, Nat.zero_le _, rfl, Lib.hid ((Below.refl _ _).alloc (Nat.le_refl _) _), Lib.hid (by simpa [toL] using HOWN.out)⟩
  case round =>
    clear HOWN
    obtain ⟨q, hq, rfl, HBE, HO⟩ := hrel
    by_cases hlt : q < n
    · refine Sl.cases HA.out (fun _ _ hx _ => absurd hlt (by have := congrArg List.length hx; rw [toL_length] at this; simp at this; omega)) (fun ba oa ca hva _ _ hca => ?_)
      refine Sl.cases HB.out (fun _ _ hx _ => absurd hlt (by have := congrArg List.length hx; rw [toL_length] at this; simp at this; omega)) (fun bb ob cb hvb _ _ hcb => ?_)
      rw [toL_length] at hva hvb
      obtain ⟨rfl, rfl⟩ : ada = some ⟨ba, oa, none⟩ ∧ capa = ca := by simpa using hva
      obtain ⟨rfl, rfl⟩ : adb = some ⟨bb, ob, none⟩ ∧ capb = cb := by simpa using hvb
      obtain ⟨ua, hua, hra⟩ := hca q (by rw [toL_length]; exact hlt)
      obtain ⟨ub, hub, hrb⟩ := hcb q (by rw [toL_length]; exact hlt)
      rw [toL_get] at hra hrb
      obtain ⟨a, haa⟩ : ∃ a, a = u q := ⟨_, rfl⟩
      obtain ⟨b, hbb⟩ : ∃ b, b = t q := ⟨_, rfl⟩
      have hab := HU.out q
      have hbb2 := HT.out q
      rw [← haa] at hra hab
      rw [← hbb] at hrb hbb2
      have h1 : wr.cell? ⟨ba, oa + q, none⟩ = some (.int .i64 a) := by rw [later HBE.out (Nat.le_refl _) hua, hra]
      have h2 : wr.cell? ⟨bb, ob + q, none⟩ = some (.int .i64 b) := by rw [later HBE.out (Nat.le_refl _) hub, hrb]
      obtain ⟨m0, m1, m2⟩ := less_bd (a := a) HP.out hbb2 hk
      have HM2 : Hid ((a - k * b) % p = y q) := Lib.hid (by rw [m2, HY.out, haa, hbb]; rfl)
      have hmod := fun W => l01Mod_any p (a - k * b) W HP.out
      rw [HM2.out] at hmod
      have HMOD := Lib.hid hmod
      have hsz : w.heap.size ≤ wr.heap.size := HBE.out.size
      have hca1 : ∀ W, Below w.heap.size w W → W.cell? ⟨ba, oa + q, none⟩ = some (.int .i64 a) := fun W h => by rw [later h (Nat.le_refl _) hua, hra]
      have hcb1 : ∀ W, Below w.heap.size w W → W.cell? ⟨bb, ob + q, none⟩ = some (.int .i64 b) := fun W h => by rw [later h (Nat.le_refl _) hub, hrb]
      have hmul : ∀ w, (binOp .mul 2 (.int .i64 k) (.int .i64 b)).run Tryz.prog w = .ok (.int .i64 (k * b)) w := fun w => hmulI (by omega) (by omega) w
      have hsub : ∀ w, (binOp .sub 2 (.int .i64 a) (.int .i64 (k * b))).run Tryz.prog w = .ok (.int .i64 (a - k * b)) w := fun w => hsubI (by omega) (by omega) w
      clear h1 h2
      clear hra hrb hca hcb hva hvb m2 haa hbb hmod
      go_wp2
      refine wp_region_held (S := fun W => Below w.heap.size w W) (by kernel_rfl) ?_
      have S0 : Below w.heap.size w wr.drew := HBE.out.drew
      refine held_take (i := 0) (v := u9) (some 18) rfl rfl (by kernel_rfl) (by kernel_rfl) (by kernel_rfl) (fun _ _ _ h => h) (yieldsIf_move (by kernel_rfl) rfl (by kernel_rfl)) S0 ?_
      refine held_take (i := 1) (v := .int .i64 p) (some 19) rfl rfl (by kernel_rfl) (by kernel_rfl) (by kernel_rfl) (fun _ _ _ h => h) (yieldsIf_move (by kernel_rfl) rfl (by kernel_rfl)) S0 ?_
      refine held_take (i := 2) (v := .slice (some ⟨ba, oa, none⟩) n capa) (some 20) rfl rfl (by kernel_rfl) (by kernel_rfl) (by kernel_rfl) (fun _ _ _ h => h) (yieldsIf_move (by kernel_rfl) rfl (by kernel_rfl)) S0 ?_
      refine held_take (i := 3) (v := .int .i64 (q : Int)) (some 21) rfl rfl (by kernel_rfl) (by kernel_rfl) (by kernel_rfl) (fun _ _ _ h => h) (yieldsIf_move (by kernel_rfl) rfl (by kernel_rfl)) S0 ?_
      refine held_take (i := 4) (v := .pointer (some ⟨ba, oa + q, none⟩)) (some 22) rfl rfl (by kernel_rfl) (by kernel_rfl) (by kernel_rfl) (fun _ _ _ h => h) (yieldsIf_index (by kernel_rfl) rfl (by kernel_rfl) (by kernel_rfl) (hidxI ba oa capa hlt)) S0 ?_
      refine held_take (i := 5) (v := .int .i64 a) (some 23) rfl rfl (by kernel_rfl) (by kernel_rfl) (by kernel_rfl) (fun _ _ _ h => h) (yieldsIf_cell (by kernel_rfl) rfl (by kernel_rfl) (fun W h => hload W (hca1 W h))) S0 ?_
      refine held_take (i := 6) (v := .int .i64 k) (some 24) rfl rfl (by kernel_rfl) (by kernel_rfl) (by kernel_rfl) (fun _ _ _ h => h) (yieldsIf_move (by kernel_rfl) rfl (by kernel_rfl)) S0 ?_
      refine held_take (i := 7) (v := .slice (some ⟨bb, ob, none⟩) n capb) (some 25) rfl rfl (by kernel_rfl) (by kernel_rfl) (by kernel_rfl) (fun _ _ _ h => h) (yieldsIf_move (by kernel_rfl) rfl (by kernel_rfl)) S0 ?_
      refine held_take (i := 8) (v := .int .i64 (q : Int)) (some 26) rfl rfl (by kernel_rfl) (by kernel_rfl) (by kernel_rfl) (fun _ _ _ h => h) (yieldsIf_move (by kernel_rfl) rfl (by kernel_rfl)) S0 ?_
      refine held_take (i := 9) (v := .pointer (some ⟨bb, ob + q, none⟩)) (some 27) rfl rfl (by kernel_rfl) (by kernel_rfl) (by kernel_rfl) (fun _ _ _ h => h) (yieldsIf_index (by kernel_rfl) rfl (by kernel_rfl) (by kernel_rfl) (hidxI bb ob capb hlt)) S0 ?_
      refine held_take (i := 10) (v := .int .i64 b) (some 28) rfl rfl (by kernel_rfl) (by kernel_rfl) (by kernel_rfl) (fun _ _ _ h => h) (yieldsIf_cell (by kernel_rfl) rfl (by kernel_rfl) (fun W h => hload W (hcb1 W h))) S0 ?_
      refine held_take (i := 11) (v := .int .i64 (k * b)) (some 29) rfl rfl (by kernel_rfl) (by kernel_rfl) (by kernel_rfl) (fun _ _ _ h => h) (yieldsIf_bin (by kernel_rfl) rfl (by kernel_rfl) (by kernel_rfl) (fun _ => rfl) hmul) S0 ?_
      refine held_take (i := 12) (v := .int .i64 (a - k * b)) (some 30) rfl rfl (by kernel_rfl) (by kernel_rfl) (by kernel_rfl) (fun _ _ _ h => h) (yieldsIf_bin (by kernel_rfl) rfl (by kernel_rfl) (by kernel_rfl) (fun _ => rfl) hsub) S0 ?_
      refine held_enter (i := 13) (some 31) (f := 86) (args := #[.int .i64 p, .int .i64 (a - k * b)]) (by kernel_rfl) rfl rfl rfl (by kernel_rfl) (HMOD.out _) ?_ (fun c w' h => by cases h.1) (fun w' h => by cases h.1)
      rintro e4 W4 ⟨he4, rfl⟩
      injection he4 with he4
      subst he4
      refine ⟨S0, ?_⟩
      have S1 : Below w.heap.size w (wr.drew.alloc (.cells #[.int .i64 (y q)] 2)) := S0.alloc hsz _
      have HOX := Lib.hid (HO.out.alloc (.cells #[.int .i64 (y q)] 2))
      refine held_buildI (i := 14) (some 32) (by kernel_rfl) rfl rfl rfl (.tmp 31) (y q) rfl (by kernel_rfl) ⟨S1, ?_⟩
      refine held_appendI (i := 15) (some 33) (by kernel_rfl) rfl rfl rfl (.tmp 18) (.tmp 32) rfl w.heap.size u9 q _ (by kernel_rfl) HOX.out wr.heap.size (y q) (by kernel_rfl) (cell_alloc1 wr.drew _ _) (by omega) (by simp; omega) ?_
      intro v' w3 hown hgrow
      have S2 : Below w.heap.size w w3 := S1.grown hgrow (by simp; omega) (fun g hg => ((HOX.out.lt) g hg).1)
      have HB3 := Lib.hid S2
      have HO3 : Hid (w3.ownsRow w.heap.size 2 1 v' (q + 1) ((toL (q + 1) y).map (Value.int .i64))) := Lib.hid (by rw [toL_succ, List.map_append]; exact hown)
      refine ⟨S2, ?_⟩
      refine held_take (i := 16) (v := v') (some 9) rfl rfl (by kernel_rfl) (by kernel_rfl) (by kernel_rfl) (fun _ _ _ h => h) (yieldsIf_assign (by kernel_rfl) rfl (by kernel_rfl)) S2 ?_
      refine wpAnyH_done (by kernel_rfl) ?_ _
      simp only [Act.put, List.setIfInBounds_toArray, List.set_cons_zero, List.set_cons_succ]
      clear S0 S1 S2 hown hgrow hca1 hcb1 hmul hsub HOX HO HBE
      go_wp2
      go_roundw
      case rel => exact ⟨q + 1, by omega, by go_num, HB3, HO3⟩
      case measure => simp [intOf]; omega
    · have hqq : Hid (q = n) := Lib.hid (by omega)
      go_wp2
      go_ret
      refine ⟨_, rfl, ?_, HBE.out⟩
      have := HO.out
      rw [hqq.out] at this
      unfold Gb
      rw [toL_length]
      exact this
end Go.Proofs.YtlopenephgabhaaGreat

namespace Go.Proofs.YtlopenephgabhaaGreat
open Go.RowKit

def RestR (p : Int) (n : Nat) (R : List Lin.V) (v : Lin.V) (w : World) (e : Ending) (w' : World) : Prop :=
  ∃ (u : Value) (r : Lin.V), e = .returned u ∧ Gb w.heap.size w' u (toL n r) ∧ Below w.heap.size w w' ∧ Lin.Rest p R v R.length r ∧ Lin.Wd n r

/-- A row of n numbers lies somewhere, if there are any. -/
theorem l1_toL {lo : Nat} {w : World} {u : Value} {n : Nat} {v : Lin.V} (h : L1 lo w u (toL n v)) (hn : 0 < n) : ∃ b o cap, u = .slice (some ⟨b, o, none⟩) n cap ∧ ∀ k, k < n → w.cell? ⟨b, o + k, none⟩ = some (.int .i64 (v k)) := by
  refine Sl.cases h (fun _ _ hx _ => by have := congrArg List.length hx; rw [toL_length] at this; simp at this; omega) (fun b o cap hv _ _ hc => ⟨b, o, cap, by rw [hv, toL_length], fun k hk => ?_⟩)
  obtain ⟨x, hx, hr⟩ := hc k (by rw [toL_length]; exact hk)
  rw [toL_get] at hr
  rw [hx, hr]
theorem l1_slice {lo : Nat} {w : World} {u : Value} {n : Nat} {v : Lin.V} (h : L1 lo w u (toL n v)) : ∃ ad cap, u = .slice ad n cap := by
  obtain ⟨ad, cap, hv⟩ := Sl.shape h
  exact ⟨ad, cap, by rw [hv, toL_length]⟩

set_option maxHeartbeats 3200000 in
set_option maxRecDepth 100000 in
theorem l01Rest_any (p : Int) (n : Nat) (vl vr : Value) (R : List Lin.V) (v : Lin.V) (w : World) (hp : IsP p) (hL : L2 0 w vl (R.map (toL n))) (hv : L1 0 w vr (toL n v)) (hR : Lin.Red p R) (hw : ∀ u ∈ R, Lin.Wd n u) (hm : Lin.Md p v) (hvw : Lin.Wd n v) (hn : n ≤ 1048576) (hl : R.length ≤ 1048576) :
    Calls Tryz.prog 60 #[.int .i64 p, vl, vr] w (RestR p n R v w) := by
  have HP := Lib.hid hp
  have HL := Lib.hid hL
  have HR := Lib.hid hR
  have HW := Lib.hid hw
  have HM := Lib.hid hm
  have HVW := Lib.hid hvw
  have HOWN := Lib.hid (l01Own_any vr (toL n v) w hv (by rw [toL_length]; exact hn))
  obtain ⟨al, cl, hvl⟩ := Sl.shape hL
  rw [List.length_map] at hvl
  subst hvl
  clear hp hL hR hw hm hvw hv
  go_enter Tryz.func60, Tryz.ntmps60
  go_wp2_with fail
  refine HOWN.out.mono ?_
  rintro e w1 ⟨u1, rfl, hg1, hb1⟩
  have HG1 := Lib.hid hg1
  have HB1 := Lib.hid hb1
  clear hg1 hb1 HOWN
  go_wp2
  go_loopw [7, 8] (fun o i wr => ∃ (k : Nat) (r : Lin.V), k ≤ R.length ∧ i = .int .i64 k ∧ Hid (Below w.heap.size w wr) ∧ Hid (Gb w.heap.size wr o (toL n r)) ∧ Hid (Lin.Rest p R v k r) ∧ Hid (Lin.Wd n r)) (fun _ i _ => R.length - (intOf i).toNat)
  case atStart => exact ⟨0, v, Nat.zero_le _, rfl, HB1, HG1, Lib.hid (Lin.Rest.start HM.out), HVW⟩
  case round =>
    clear HG1 HB1
    obtain ⟨k, r, hk, rfl, HB, HG, HRE, HRW⟩ := hrel
    have hsz : w.heap.size ≤ wr.heap.size := HB.out.size
    by_cases hlt : k < R.length
    · refine Sl.cases HL.out (fun _ _ hx _ => absurd hlt (by have := congrArg List.length hx; simp at this; simp [this])) (fun b o c2 hvv _ _ hc => ?_)
      rw [List.length_map] at hvv
      obtain ⟨rfl, rfl⟩ : al = some ⟨b, o, none⟩ ∧ cl = c2 := by simpa using hvv
      obtain ⟨ur, hur, hrr⟩ := hc k (by rw [List.length_map]; exact hlt)
      rw [List.getElem_map] at hrr
      obtain ⟨t, ht⟩ : ∃ t, t = R[k] := ⟨_, rfl⟩
      have HTE := Lib.hid ht
      rw [← ht] at hrr
      have HTW : Hid (Lin.Wd n t) := Lib.hid (by rw [ht]; exact HW.out _ (List.getElem_mem hlt))
      have HTM : Hid (Lin.Md p t) := Lib.hid (by rw [ht]; exact HR.out.md _ (List.getElem_mem hlt))
      have HTN : Hid (t ≠ Lin.zv) := Lib.hid (by rw [ht]; exact HR.out.ne (List.getElem_mem hlt))
      obtain ⟨hdn, _, _⟩ := ld_ltn HTW.out HTN.out
      obtain ⟨d, hd⟩ : ∃ d, d = Lin.ld t := ⟨_, rfl⟩
      have HD := Lib.hid hd
      rw [← hd] at hdn
      obtain ⟨g, og, cg, hou, hcell⟩ := l1_toL HG.out.l1 (show 0 < n by omega)
      subst hou
      obtain ⟨f, hf⟩ : ∃ f, f = r d := ⟨_, rfl⟩
      have HF := Lib.hid hf
      have hfb := HRE.out.md d
      rw [← hf] at hfb
      obtain ⟨ar, cr, hus⟩ := l1_slice hrr
      subst hus
      have HROW := Lib.hid hrr
      have hrow1 : ∀ W, Below wr.heap.size wr W → W.cell? ⟨b, o + k, none⟩ = some (.slice ar n cr) := fun W h => later (HB.out.trans (h.mono hsz)) (Nat.le_refl _) hur
      have hcell1 : ∀ W, Below wr.heap.size wr W → W.cell? ⟨g, og + d, none⟩ = some (.int .i64 f) := fun W h => by rw [hf]; exact later h (Nat.le_refl _) (hcell d hdn)
      obtain ⟨y, hy⟩ : ∃ y, y = Lin.add p r (-f) t := ⟨_, rfl⟩
      have HRE2 : Hid (Lin.Rest p R v (k + 1) y) := Lib.hid (by rw [hy, HF.out, HD.out, HTE.out]; exact HRE.out.step (by have := HP.out.lo1; omega) HR.out hlt)
      have HYW : Hid (Lin.Wd n y) := Lib.hid (by rw [hy]; exact Lin.add_wd _ HRW.out HTW.out)
      have HLEAD : Hid (∀ W, Below wr.heap.size wr W → Calls Tryz.prog 57 #[.slice ar n cr] W (QW (.int .i64 (d : Int)) W)) := Lib.hid (fun W h => by
        have := l01Lead_any _ _ W (HROW.out.below (HB.out.trans (h.mono hsz))) (by rw [toL_length]; exact hn)
        rwa [leadOf_toL HTW.out HTN.out, ← HD.out] at this)
      have HLESS : Hid (∀ W, Below wr.heap.size wr W → Calls Tryz.prog 59 #[.int .i64 p, .slice (some ⟨g, og, none⟩) n cg, .slice ar n cr, .int .i64 f] W (GbR (toL n y) W)) := Lib.hid (fun W h => by
        rw [hy]
        exact l01Less_any p f n _ _ r t W HP.out ((HG.out.below h).l1) (HROW.out.below (HB.out.trans (h.mono hsz))) HRE.out.md HTM.out hfb hn)
      clear hvv hc hur hrr ht hd hcell hf hy hfb
      go_wp2
      refine wp_region_held (S := fun W => Below wr.heap.size wr W) (by kernel_rfl) ?_
      have S0 : Below wr.heap.size wr wr.drew := (Below.refl _ _).drew
      refine held_take (i := 0) (v := .int .i64 p) (some 17) rfl rfl (by kernel_rfl) (by kernel_rfl) (by kernel_rfl) (fun _ _ _ h => h) (yieldsIf_move (by kernel_rfl) rfl (by kernel_rfl)) S0 ?_
      refine held_take (i := 1) (v := .slice (some ⟨g, og, none⟩) n cg) (some 18) rfl rfl (by kernel_rfl) (by kernel_rfl) (by kernel_rfl) (fun _ _ _ h => h) (yieldsIf_move (by kernel_rfl) rfl (by kernel_rfl)) S0 ?_
      refine held_take (i := 2) (v := .slice (some ⟨b, o, none⟩) R.length cl) (some 19) rfl rfl (by kernel_rfl) (by kernel_rfl) (by kernel_rfl) (fun _ _ _ h => h) (yieldsIf_move (by kernel_rfl) rfl (by kernel_rfl)) S0 ?_
      refine held_take (i := 3) (v := .int .i64 (k : Int)) (some 20) rfl rfl (by kernel_rfl) (by kernel_rfl) (by kernel_rfl) (fun _ _ _ h => h) (yieldsIf_move (by kernel_rfl) rfl (by kernel_rfl)) S0 ?_
      refine held_take (i := 4) (v := .pointer (some ⟨b, o + k, none⟩)) (some 21) rfl rfl (by kernel_rfl) (by kernel_rfl) (by kernel_rfl) (fun _ _ _ h => h) (yieldsIf_index (by kernel_rfl) rfl (by kernel_rfl) (by kernel_rfl) (hidxS b o cl hlt)) S0 ?_
      refine held_take (i := 5) (v := .slice ar n cr) (some 22) rfl rfl (by kernel_rfl) (by kernel_rfl) (by kernel_rfl) (fun _ _ _ h => h) (yieldsIf_cell (by kernel_rfl) rfl (by kernel_rfl) (fun W h => hloadS W (hrow1 W h))) S0 ?_
      refine held_take (i := 6) (v := .slice (some ⟨g, og, none⟩) n cg) (some 23) rfl rfl (by kernel_rfl) (by kernel_rfl) (by kernel_rfl) (fun _ _ _ h => h) (yieldsIf_move (by kernel_rfl) rfl (by kernel_rfl)) S0 ?_
      refine held_take (i := 7) (v := .slice (some ⟨b, o, none⟩) R.length cl) (some 24) rfl rfl (by kernel_rfl) (by kernel_rfl) (by kernel_rfl) (fun _ _ _ h => h) (yieldsIf_move (by kernel_rfl) rfl (by kernel_rfl)) S0 ?_
      refine held_take (i := 8) (v := .int .i64 (k : Int)) (some 25) rfl rfl (by kernel_rfl) (by kernel_rfl) (by kernel_rfl) (fun _ _ _ h => h) (yieldsIf_move (by kernel_rfl) rfl (by kernel_rfl)) S0 ?_
      refine held_take (i := 9) (v := .pointer (some ⟨b, o + k, none⟩)) (some 26) rfl rfl (by kernel_rfl) (by kernel_rfl) (by kernel_rfl) (fun _ _ _ h => h) (yieldsIf_index (by kernel_rfl) rfl (by kernel_rfl) (by kernel_rfl) (hidxS b o cl hlt)) S0 ?_
      refine held_take (i := 10) (v := .slice ar n cr) (some 27) rfl rfl (by kernel_rfl) (by kernel_rfl) (by kernel_rfl) (fun _ _ _ h => h) (yieldsIf_cell (by kernel_rfl) rfl (by kernel_rfl) (fun W h => hloadS W (hrow1 W h))) S0 ?_
      refine held_enter (i := 11) (some 28) (f := 57) (args := #[.slice ar n cr]) (by kernel_rfl) rfl rfl rfl (by kernel_rfl) (HLEAD.out _ S0) ?_ (fun c w' h => by cases h.1) (fun w' h => by cases h.1)
      rintro e4 W4 ⟨he4, rfl⟩
      injection he4 with he4
      subst he4
      refine ⟨S0, ?_⟩
      refine held_take (i := 12) (v := .pointer (some ⟨g, og + d, none⟩)) (some 29) rfl rfl (by kernel_rfl) (by kernel_rfl) (by kernel_rfl) (fun _ _ _ h => h) (yieldsIf_index (by kernel_rfl) rfl (by kernel_rfl) (by kernel_rfl) (hidxI g og cg hdn)) S0 ?_
      refine held_take (i := 13) (v := .int .i64 f) (some 30) rfl rfl (by kernel_rfl) (by kernel_rfl) (by kernel_rfl) (fun _ _ _ h => h) (yieldsIf_cell (by kernel_rfl) rfl (by kernel_rfl) (fun W h => hload W (hcell1 W h))) S0 ?_
      refine held_enter (i := 14) (some 31) (f := 59) (args := #[.int .i64 p, .slice (some ⟨g, og, none⟩) n cg, .slice ar n cr, .int .i64 f]) (by kernel_rfl) rfl rfl rfl (by kernel_rfl) (HLESS.out _ S0) ?_ (fun c w' h => by obtain ⟨_, h, _⟩ := h; cases h) (fun w' h => by obtain ⟨_, h, _⟩ := h; cases h)
      rintro e5 W5 ⟨u5, he5, hg5, hb5⟩
      injection he5 with he5
      subst he5
      have S1 : Below wr.heap.size wr W5 := S0.trans hb5
      have HB5 := Lib.hid (HB.out.trans (S1.mono hsz))
      have HG5 : Hid (Gb w.heap.size W5 e5 (toL n y)) := Lib.hid (hg5.mono hsz)
      refine ⟨S1, ?_⟩
      refine held_take (i := 15) (v := e5) (some 7) rfl rfl (by kernel_rfl) (by kernel_rfl) (by kernel_rfl) (fun _ _ _ h => h) (yieldsIf_assign (by kernel_rfl) rfl (by kernel_rfl)) S1 ?_
      refine wpAnyH_done (by kernel_rfl) ?_ _
      simp only [Act.put, List.setIfInBounds_toArray, List.set_cons_zero, List.set_cons_succ]
      clear S0 S1 hg5 hb5 hrow1 hcell1 HLEAD HLESS HB HG
      go_wp2
      go_roundw
      case rel => exact ⟨k + 1, y, by omega, by go_num, HB5, HG5, HRE2, HYW⟩
      case measure => simp [intOf]; omega
    · have hkk : Hid (k = R.length) := Lib.hid (by omega)
      go_wp2
      go_ret
      exact ⟨_, r, rfl, HG.out, HB.out, by have := HRE.out; rwa [hkk.out] at this, HRW.out⟩
end Go.Proofs.YtlopenephgabhaaGreat

namespace Go.Proofs.YtlopenephgabhaaGreat
open Go.RowKit

/-- A table gathered row by row, above a base. -/
def Gs (base : Nat) (w : World) (u : Value) (t : List (List Int)) : Prop := ∃ vs, w.ownsRow base 47 1 u t.length vs ∧ ∀ k (h1 : k < vs.length) (h2 : k < t.length), G1 w vs[k] t[k]
theorem Gs.below {base : Nat} {w w' : World} {u : Value} {t : List (List Int)} (h : Gs base w u t) (hb : Below w.heap.size w w') : Gs base w' u t := by
  obtain ⟨vs, ho, hr⟩ := h
  exact ⟨vs, owns_below ho hb, fun k h1 h2 => (hr k h1 h2).below hb⟩
theorem Gs.mono {base base' : Nat} {w : World} {u : Value} {t : List (List Int)} (h : Gs base w u t) (hb : base' ≤ base) : Gs base' w u t := by
  obtain ⟨vs, ho, hr⟩ := h
  exact ⟨vs, owns_mono ho hb, hr⟩
theorem Gs.l2 {base : Nat} {w : World} {u : Value} {t : List (List Int)} (h : Gs base w u t) : L2 0 w u t := by
  obtain ⟨vs, ho, hr⟩ := h
  exact sl_of_owns ho (Nat.zero_le _) rfl (fun k h1 h2 => (hr k h2 h1).l1)
theorem Gs.push {base : Nat} {w w3 : World} {v v' row : Value} {t : List (List Int)} {vs : List Value} {x : List Int} (ho : w.ownsRow base 47 1 v t.length vs) (hr : ∀ k (h1 : k < vs.length) (h2 : k < t.length), G1 w vs[k] t[k]) (hx : G1 w row x)
    (ho3 : w3.ownsRow base 47 1 v' (t.length + 1) (vs ++ [row])) (hg : w.grownBy w3 v.ownBlock) : Gs base w3 v' (t ++ [x]) := by
  have hvl : vs.length = t.length := by have := ho.1; omega
  have keep : ∀ u xs, G1 w u xs → G1 w3 u xs := fun u xs h => owns_grown h ho (by decide) hg
  refine ⟨vs ++ [row], by simpa using ho3, fun k h1 h2 => ?_⟩
  by_cases e : k < vs.length
  · rw [List.getElem_append_left e, List.getElem_append_left (by omega)]
    exact keep _ _ (hr k e (by omega))
  · have e2 : k = vs.length := by simp at h1; omega
    subst e2
    rw [List.getElem_append_right (by omega), List.getElem_append_right (by omega)]
    simp only [hvl, Nat.sub_self, List.getElem_cons_zero]
    exact keep _ _ hx

/-- The first q numbers of a row multiplied. -/
def scal (p inv : Int) (r : Lin.V) (q : Nat) : Lin.V := fun i => if i < q then r i * inv % p else r i
theorem scal_zero (p inv : Int) (r : Lin.V) : scal p inv r 0 = r := by (funext i; simp [scal])
theorem toL_congr {n : Nat} {u v : Lin.V} (h : ∀ i, i < n → u i = v i) : toL n u = toL n v := List.map_congr_left (fun i hi => h i (List.mem_range.1 hi))
theorem toL_set {n : Nat} (v : Lin.V) (q : Nat) (x : Int) : ((toL n v).map (Value.int .i64)).set q (.int .i64 x) = (toL n (fun i => if i = q then x else v i)).map (Value.int .i64) := by
  refine List.ext_getElem (by simp [toL_length]) fun i h1 h2 => ?_
  rw [List.getElem_set]
  by_cases e : q = i
  · subst e
    simp [toL]
  · have e2 : ¬ i = q := fun h => e h.symm
    simp [toL, e, e2]

def EchR (p : Int) (n : Nat) (TS : List Lin.V) (w : World) (e : Ending) (w' : World) : Prop :=
  ∃ (u : Value) (R : List Lin.V), e = .returned u ∧ Gs w.heap.size w' u (R.map (toL n)) ∧ Below w.heap.size w w' ∧ RedN p n R TS ∧ R.length ≤ TS.length

set_option maxHeartbeats 12800000 in
set_option maxRecDepth 100000 in
theorem l01Echelon_any (p : Int) (n : Nat) (vl : Value) (TS : List Lin.V) (w : World) (hp : IsP p) (hL : L2 0 w vl (TS.map (toL n))) (hm : ∀ u ∈ TS, Lin.Md p u) (hw : ∀ u ∈ TS, Lin.Wd n u) (hn : n ≤ 1048576) (hl : TS.length ≤ 1048575) :
    Calls Tryz.prog 63 #[.int .i64 p, vl] w (EchR p n TS w) := by
  have HP := Lib.hid hp
  have HL := Lib.hid hL
  have HTM := Lib.hid hm
  have HTW := Lib.hid hw
  have hp7 := hp.hi7
  have hp1 := hp.lo1
  obtain ⟨al, cl, hvl⟩ := Sl.shape hL
  rw [List.length_map] at hvl
  subst hvl
  obtain ⟨i0, hi0, hz0, hz1, hz2⟩ := info_parts Tryz.infoS
  have HOWN0 := Lib.hid (World.ownsRow_made (base := w.heap.size) (e := 47) (size := 1) w #[] 0 (Nat.le_refl _) (by unfold maxLen; omega) (by simp))
  clear hp hL hm hw
  go_enter Tryz.func63, Tryz.ntmps63
  go_wp2
  go_loopw [5, 6] (fun o i wr => ∃ (k : Nat) (R : List Lin.V), k ≤ TS.length ∧ i = .int .i64 k ∧ Hid (Below w.heap.size w wr) ∧ Hid (Gs w.heap.size wr o (R.map (toL n))) ∧ Hid (RedN p n R (TS.take k)) ∧ R.length ≤ k) (fun _ i _ => TS.length - (intOf i).toNat)
  case atStart => exact ⟨0, [], Nat.zero_le _, rfl, Lib.hid ((Below.refl _ _).alloc (Nat.le_refl _) _), Lib.hid ⟨[], by simpa using HOWN0.out, fun k h1 _ => absurd h1 (Nat.not_lt_zero _)⟩, Lib.hid (by rw [List.take_zero]; exact RedN.nil p n), Nat.le_refl _⟩
  case round =>
    clear HOWN0
    obtain ⟨k, R, hk, rfl, HB, HO, HR, hRk⟩ := hrel
    obtain ⟨wo, hwo⟩ : ∃ wo : World, wo = wr := ⟨_, rfl⟩
    subst hwo
    have hsz : w.heap.size ≤ wo.heap.size := HB.out.size
    obtain ⟨ao, co, hov⟩ := Sl.shape HO.out.l2
    rw [List.length_map] at hov
    subst hov
    by_cases hlt : k < TS.length
    · refine Sl.cases HL.out (fun _ _ hx _ => absurd hlt (by have := congrArg List.length hx; simp at this; simp [this])) (fun b o c2 hvv _ _ hc => ?_)
      rw [List.length_map] at hvv
      obtain ⟨rfl, rfl⟩ : al = some ⟨b, o, none⟩ ∧ cl = c2 := by simpa using hvv
      obtain ⟨ur, hur, hrr⟩ := hc k (by rw [List.length_map]; exact hlt)
      rw [List.getElem_map] at hrr
      obtain ⟨t, ht⟩ : ∃ t, t = TS[k] := ⟨_, rfl⟩
      have HTK : Hid (TS.take (k + 1) = TS.take k ++ [t]) := Lib.hid (by rw [ht]; exact List.take_succ_eq_append_getElem hlt)
      have HTKM : Hid (∀ x ∈ TS.take k, Lin.Md p x) := Lib.hid (fun x hx => HTM.out x (List.mem_of_mem_take hx))
      rw [← ht] at hrr
      have HTT : Hid (Lin.Md p t ∧ Lin.Wd n t) := Lib.hid (by rw [ht]; exact ⟨HTM.out _ (List.getElem_mem hlt), HTW.out _ (List.getElem_mem hlt)⟩)
      have hur2 := later HB.out (Nat.le_refl _) hur
      obtain ⟨ar, cr, hus⟩ := l1_slice hrr
      subst hus
      have HRST := Lib.hid (l01Rest_any p n _ _ R t wo HP.out HO.out.l2 (hrr.below HB.out) HR.out.red HR.out.wd HTT.out.1 HTT.out.2 hn (by omega))
      clear hvv hc hur hrr ht
      go_wp2_with fail
      refine HRST.out.mono ?_
      rintro e w1 ⟨u7, r, rfl, hg1, hb1, hrest, hrw⟩
      have HRE := Lib.hid hrest
      have HRW := Lib.hid hrw
      have HB1 := Lib.hid hb1
      have hs1 : wo.heap.size ≤ w1.heap.size := hb1.size
      by_cases hz : r = Lin.zv
      · have hlead := l01Lead_any u7 (toL n r) w1 hg1.l1 (by rw [toL_length]; exact hn)
        rw [hz, leadOf_zv] at hlead
        have HR2 : Hid (RedN p n R (TS.take (k + 1))) := Lib.hid (by
          rw [HTK.out]
          have := HRE.out
          rw [hz] at this
          exact HR.out.skip (by omega) HTKM.out HTT.out.1 this)
        have HLEAD := Lib.hid hlead
        obtain ⟨a7, c7, hv7⟩ := l1_slice hg1.l1
        subst hv7
        clear hlead hg1 hb1 hrest hrw hz hur2 HRST
        go_wp2_with fail
        refine HLEAD.out.mono ?_
        rintro e w' ⟨rfl, rfl⟩
        go_wp2
        go_roundw
        case rel => exact ⟨k + 1, R, by omega, by go_num, Lib.hid (HB.out.trans (HB1.out.mono hsz)), Lib.hid (HO.out.below HB1.out), HR2, by omega⟩
        case measure => simp [intOf]; omega
      · obtain ⟨hdn, hdne, _⟩ := ld_ltn hrw hz
        have hlead := l01Lead_any u7 (toL n r) w1 hg1.l1 (by rw [toL_length]; exact hn)
        rw [leadOf_toL hrw hz] at hlead
        obtain ⟨d, hd⟩ : ∃ d, d = Lin.ld r := ⟨_, rfl⟩
        have HD := Lib.hid hd
        rw [← hd] at hlead hdn hdne
        have hown := hg1
        unfold Gb at hown
        rw [toL_length] at hown
        obtain ⟨g, c7, hv7, hgb, hgl⟩ := World.ownsRow.form hown (by omega)
        subst hv7
        obtain ⟨a, ha⟩ : ∃ a, a = r d := ⟨_, rfl⟩
        have HA := Lib.hid ha
        have hab := hrest.md d
        rw [← ha] at hab hdne
        have hcell : w1.cell? ⟨g, d, none⟩ = some (.int .i64 a) := by
          rw [World.ownsRow.cellAt hown d (by omega), ha]
          simp [toL, hdn]
        have HZ := Lib.hid hz
        have HOWN := Lib.hid hown
        have HLEAD := Lib.hid hlead
        have HINV := Lib.hid (l01Inverse_any p a w1 HP.out (by omega) (by omega))
        clear hlead hg1 hb1 hrest hrw hz hur2 HRST hd ha hown
        go_wp2_with fail
        refine HLEAD.out.mono ?_
        rintro e w' ⟨rfl, rfl⟩
        go_wp2_with fail
        refine HINV.out.mono ?_
        rintro e w' ⟨inv, rfl, rfl, hi1, hip, hinv⟩
        have HIV := Lib.hid hinv
        clear hinv hcell HINV HLEAD
        go_wp2
        go_loopw [10] (fun i wr => ∃ (q : Nat), q ≤ n ∧ i = .int .i64 q ∧ Hid (Below wo.heap.size wo wr) ∧ Hid (wr.ownsRow wo.heap.size 2 1 (.slice (some ⟨g, 0, none⟩) n c7) n ((toL n (scal p inv r q)).map (Value.int .i64)))) (fun i _ => n - (intOf i).toNat)
        case atStart => exact ⟨0, Nat.zero_le _, rfl, HB1, Lib.hid (by rw [scal_zero]; exact HOWN.out)⟩
        case round =>
          clear HOWN HB1
          obtain ⟨q, hq, rfl, HBI, HOI⟩ := hrel
          by_cases hltq : q < n
          · obtain ⟨x, hx⟩ : ∃ x, x = r q := ⟨_, rfl⟩
            have hxb := HRE.out.md q
            rw [← hx] at hxb
            have hc : wr.cell? ⟨g, q, none⟩ = some (.int .i64 x) := by
              rw [World.ownsRow.cellAt HOI.out q (by omega), hx]
              simp [toL, scal, hltq]
            have hf := World.ownsRow.frozenAt HOI.out q
            obtain ⟨m0, m1⟩ := mul_bd HP.out (a := x) (b := (inv : Int)) hxb.1 hxb.2 (by omega) (by omega)
            have hst := World.ownsRow.stored HOI.out q (.int .i64 (x * inv % p))
            have HO2 : Hid ((wr.setCell ⟨g, q, none⟩ (.int .i64 (x * inv % p))).ownsRow wo.heap.size 2 1 (.slice (some ⟨g, 0, none⟩) n c7) n ((toL n (scal p inv r (q + 1))).map (Value.int .i64))) := Lib.hid (by
              have h := hst.1
              rw [toL_set] at h
              have e : toL n (scal p inv r (q + 1)) = toL n (fun i => if i = q then x * inv % p else scal p inv r q i) := toL_congr (fun i _ => by
                unfold scal
                by_cases e1 : i = q
                · subst e1
                  rw [if_pos (Nat.lt_succ_self _), if_pos rfl, hx]
                · rw [if_neg e1]
                  by_cases e2 : i < q
                  · rw [if_pos e2, if_pos (by omega)]
                  · rw [if_neg e2, if_neg (by omega)])
              rw [e]
              exact h)
            have HB2 : Hid (Below wo.heap.size wo (wr.setCell ⟨g, q, none⟩ (.int .i64 (x * inv % p)))) := Lib.hid (HBI.out.setCell hgb _)
            clear hst hx HOI HBI
            go_wp2
            go_roundw
            case rel => exact ⟨q + 1, by omega, by go_num, HB2, HO2⟩
            case measure => simp [intOf]; omega
          · obtain ⟨w2, hw2⟩ : ∃ w2 : World, w2 = wr := ⟨_, rfl⟩
            subst hw2
            have hqq : Hid (q = n) := Lib.hid (by omega)
            obtain ⟨u, hu⟩ : ∃ u : Lin.V, u = fun i => (inv : Int) * r i % p := ⟨_, rfl⟩
            have HUU : Hid (Lin.Unit p r u) := Lib.hid (by rw [hu]; exact Lin.Unit.mk' (by omega) HRE.out.md HZ.out (by rw [← HD.out, ← HA.out]; exact HIV.out))
            have HUW : Hid (Lin.Wd n u) := Lib.hid (fun i hi => by rw [hu]; simp [HRW.out i hi])
            have HLU : Hid (Lin.ld u = d) := Lib.hid (HUU.out.lead.trans HD.out.symm)
            have HOWN7 : Hid (G1 w2 (.slice (some ⟨g, 0, none⟩) n c7) (toL n u)) := Lib.hid (by
              have h := HOI.out
              have e : toL n (scal p inv r q) = toL n u := toL_congr (fun i hi => by
                unfold scal
                rw [hu, if_pos (by have := hqq.out; omega), Int.mul_comm])
              rw [e] at h
              unfold G1
              rw [toL_length]
              exact owns_mono h (Nat.zero_le _))
            have hs2 : wo.heap.size ≤ w2.heap.size := HBI.out.size
            have HO2 := Lib.hid (HO.out.below HBI.out)
            have HB2 := HBI
            have HOWN1 := Lib.hid (World.ownsRow_made (base := w2.heap.size) (e := 47) (size := 1) w2 #[] 0 (Nat.le_refl _) (by unfold maxLen; omega) (by simp))
            clear HOI HBI hu HIV HA hqq
            go_wp2
            go_loopw [11, 12, 13] (fun nx pb i wr => ∃ (j : Nat) (pt : Bool) (N : List Lin.V), j ≤ R.length ∧ i = .int .i64 j ∧ pb = .bool pt ∧ Hid (Below w2.heap.size w2 wr) ∧ Hid (Gs w2.heap.size wr nx (N.map (toL n))) ∧ Hid (Nx p R u j pt N)) (fun _ _ i _ => R.length - (intOf i).toNat)
            case atStart => exact ⟨0, false, [], Nat.zero_le _, rfl, rfl, Lib.hid ((Below.refl _ _).alloc (Nat.le_refl _) _), Lib.hid ⟨[], by simpa using HOWN1.out, fun k h1 _ => absurd h1 (Nat.not_lt_zero _)⟩, Lib.hid (Nx.start p R u)⟩
            case round =>
              clear HOWN1
              obtain ⟨j, pt, N, hjl, rfl, rfl, HBX, HGN0, HNX⟩ := hrel
              have hsx : w2.heap.size ≤ wr.heap.size := HBX.out.size
              have hNl : N.length ≤ j + 1 := HNX.out.length hjl
              obtain ⟨vs, hvo, hvr⟩ := HGN0.out
              have HVO := Lib.hid hvo
              have HVR := Lib.hid hvr
              obtain ⟨an, cn, hnv⟩ := Sl.shape HGN0.out.l2
              rw [List.length_map] at hnv
              subst hnv
              clear hvo hvr
              by_cases hj : j < R.length
              · refine Sl.cases HO2.out.l2 (fun _ _ hx _ => absurd hj (by have := congrArg List.length hx; simp at this; simp [this])) (fun bo oo c2 hvv _ _ hc => ?_)
                rw [List.length_map] at hvv
                obtain ⟨rfl, rfl⟩ : ao = some ⟨bo, oo, none⟩ ∧ co = c2 := by simpa using hvv
                obtain ⟨uj, huj, hrj⟩ := hc j (by rw [List.length_map]; exact hj)
                rw [List.getElem_map] at hrj
                obtain ⟨s, hs⟩ : ∃ s, s = R[j] := ⟨_, rfl⟩
                have HSE := Lib.hid hs
                rw [← hs] at hrj
                have HSW : Hid (Lin.Wd n s) := Lib.hid (by rw [hs]; exact HR.out.wd _ (List.getElem_mem hj))
                have HSM : Hid (Lin.Md p s) := Lib.hid (by rw [hs]; exact HR.out.red.md _ (List.getElem_mem hj))
                have HSN : Hid (s ≠ Lin.zv) := Lib.hid (by rw [hs]; exact HR.out.red.ne (List.getElem_mem hj))
                have HSL : Hid (Lin.ld s ≠ Lin.ld u) := Lib.hid (by rw [hs]; exact lead_apart HRE.out HUU.out (List.getElem_mem hj))
                obtain ⟨bj, oj, cj, huv, hcj⟩ := l1_toL hrj (show 0 < n by omega)
                subst huv
                obtain ⟨f, hf⟩ : ∃ f, f = s d := ⟨_, rfl⟩
                have hfb := HSM.out d
                rw [← hf] at hfb
                have HROWJ := Lib.hid hrj
                have hrowj : ∀ W, Below w2.heap.size w2 W → W.cell? ⟨bo, oo + j, none⟩ = some (.slice (some ⟨bj, oj, none⟩) n cj) := fun W h => later h (Nat.le_refl _) huj
                have hcellj : ∀ W, Below w2.heap.size w2 W → W.cell? ⟨bj, oj + d, none⟩ = some (.int .i64 f) := fun W h => by rw [hf]; exact later h (Nat.le_refl _) (hcj d hdn)
                have HLESS : Hid (∀ W, Below w2.heap.size w2 W → Calls Tryz.prog 59 #[.int .i64 p, .slice (some ⟨bj, oj, none⟩) n cj, .slice (some ⟨g, 0, none⟩) n c7, .int .i64 f] W (GbR (toL n (less1 p u R[j])) W)) := Lib.hid (fun W h => by
                  have e : less1 p u R[j] = Lin.add p s (-f) u := by rw [less1, ← HSE.out, HLU.out, hf]
                  rw [e]
                  exact l01Less_any p f n _ _ s u W HP.out (HROWJ.out.below h) ((HOWN7.out.below h).l1) HSM.out HUU.out.md hfb hn)
                have hrow0 := hrowj _ HBX.out
                have HLJ : Hid (Calls Tryz.prog 57 #[.slice (some ⟨bj, oj, none⟩) n cj] wr (QW (.int .i64 (Lin.ld s : Int)) wr)) := Lib.hid (by
                  have := l01Lead_any _ _ wr (HROWJ.out.below HBX.out) (by rw [toL_length]; exact hn)
                  rwa [leadOf_toL HSW.out HSN.out] at this)
                clear hvv hc huj hrj hs hcj hf hfb
                cases pt with
                | true =>
                  clear HLJ
                  go_wp2
                  clear hrow0
                  refine wp_region_held (S := fun W => Below w2.heap.size w2 W) (by kernel_rfl) ?_
                  have S0 : Below w2.heap.size w2 wr.drew := HBX.out.drew
                  refine held_take (i := 0) (v := .slice an N.length cn) (some 77) rfl rfl (by kernel_rfl) (by kernel_rfl) (by kernel_rfl) (fun _ _ _ h => h) (yieldsIf_move (by kernel_rfl) rfl (by kernel_rfl)) S0 ?_
                  refine held_take (i := 1) (v := .int .i64 p) (some 78) rfl rfl (by kernel_rfl) (by kernel_rfl) (by kernel_rfl) (fun _ _ _ h => h) (yieldsIf_move (by kernel_rfl) rfl (by kernel_rfl)) S0 ?_
                  refine held_take (i := 2) (v := .slice (some ⟨bo, oo, none⟩) R.length co) (some 79) rfl rfl (by kernel_rfl) (by kernel_rfl) (by kernel_rfl) (fun _ _ _ h => h) (yieldsIf_move (by kernel_rfl) rfl (by kernel_rfl)) S0 ?_
                  refine held_take (i := 3) (v := .int .i64 (j : Int)) (some 80) rfl rfl (by kernel_rfl) (by kernel_rfl) (by kernel_rfl) (fun _ _ _ h => h) (yieldsIf_move (by kernel_rfl) rfl (by kernel_rfl)) S0 ?_
                  refine held_take (i := 4) (v := .pointer (some ⟨bo, oo + j, none⟩)) (some 81) rfl rfl (by kernel_rfl) (by kernel_rfl) (by kernel_rfl) (fun _ _ _ h => h) (yieldsIf_index (by kernel_rfl) rfl (by kernel_rfl) (by kernel_rfl) (hidxS bo oo co hj)) S0 ?_
                  refine held_take (i := 5) (v := .slice (some ⟨bj, oj, none⟩) n cj) (some 82) rfl rfl (by kernel_rfl) (by kernel_rfl) (by kernel_rfl) (fun _ _ _ h => h) (yieldsIf_cell (by kernel_rfl) rfl (by kernel_rfl) (fun W h => hloadS W (hrowj W h))) S0 ?_
                  refine held_take (i := 6) (v := .slice (some ⟨g, 0, none⟩) n c7) (some 83) rfl rfl (by kernel_rfl) (by kernel_rfl) (by kernel_rfl) (fun _ _ _ h => h) (yieldsIf_move (by kernel_rfl) rfl (by kernel_rfl)) S0 ?_
                  refine held_take (i := 7) (v := .slice (some ⟨bo, oo, none⟩) R.length co) (some 84) rfl rfl (by kernel_rfl) (by kernel_rfl) (by kernel_rfl) (fun _ _ _ h => h) (yieldsIf_move (by kernel_rfl) rfl (by kernel_rfl)) S0 ?_
                  refine held_take (i := 8) (v := .int .i64 (j : Int)) (some 85) rfl rfl (by kernel_rfl) (by kernel_rfl) (by kernel_rfl) (fun _ _ _ h => h) (yieldsIf_move (by kernel_rfl) rfl (by kernel_rfl)) S0 ?_
                  refine held_take (i := 9) (v := .pointer (some ⟨bo, oo + j, none⟩)) (some 86) rfl rfl (by kernel_rfl) (by kernel_rfl) (by kernel_rfl) (fun _ _ _ h => h) (yieldsIf_index (by kernel_rfl) rfl (by kernel_rfl) (by kernel_rfl) (hidxS bo oo co hj)) S0 ?_
                  refine held_take (i := 10) (v := .slice (some ⟨bj, oj, none⟩) n cj) (some 87) rfl rfl (by kernel_rfl) (by kernel_rfl) (by kernel_rfl) (fun _ _ _ h => h) (yieldsIf_cell (by kernel_rfl) rfl (by kernel_rfl) (fun W h => hloadS W (hrowj W h))) S0 ?_
                  refine held_take (i := 11) (v := .int .i64 (d : Int)) (some 88) rfl rfl (by kernel_rfl) (by kernel_rfl) (by kernel_rfl) (fun _ _ _ h => h) (yieldsIf_move (by kernel_rfl) rfl (by kernel_rfl)) S0 ?_
                  refine held_take (i := 12) (v := .pointer (some ⟨bj, oj + d, none⟩)) (some 89) rfl rfl (by kernel_rfl) (by kernel_rfl) (by kernel_rfl) (fun _ _ _ h => h) (yieldsIf_index (by kernel_rfl) rfl (by kernel_rfl) (by kernel_rfl) (hidxI bj oj cj hdn)) S0 ?_
                  refine held_take (i := 13) (v := .int .i64 f) (some 90) rfl rfl (by kernel_rfl) (by kernel_rfl) (by kernel_rfl) (fun _ _ _ h => h) (yieldsIf_cell (by kernel_rfl) rfl (by kernel_rfl) (fun W h => hload W (hcellj W h))) S0 ?_
                  refine held_enter (i := 14) (some 91) (f := 59) (args := #[.int .i64 p, .slice (some ⟨bj, oj, none⟩) n cj, .slice (some ⟨g, 0, none⟩) n c7, .int .i64 f]) (by kernel_rfl) rfl rfl rfl (by kernel_rfl) (HLESS.out _ S0) ?_ (fun c w' h => by obtain ⟨_, h, _⟩ := h; cases h) (fun w' h => by obtain ⟨_, h, _⟩ := h; cases h)
                  rintro e5 W5 ⟨u5, he5, hg5, hb5⟩
                  injection he5 with he5
                  subst he5
                  have S1 : Below w2.heap.size w2 W5 := S0.trans (hb5.mono S0.size)
                  have hb5' : Below wr.heap.size wr W5 := ((Below.refl wr.heap.size wr).drew).trans hb5
                  have HO5 := Lib.hid (owns_below HVO.out hb5')
                  have HG5 := Lib.hid hg5.g1
                  obtain ⟨a5, c5, hv5⟩ := l1_slice hg5.l1
                  subst hv5
                  refine ⟨S1, ?_⟩
                  have hs5 : w2.heap.size ≤ W5.heap.size := S1.size
                  have S2 : Below w2.heap.size w2 (W5.alloc (.cells #[.slice a5 n c5] 47)) := S1.alloc hs5 _
                  have hba : Below W5.heap.size W5 (W5.alloc (.cells #[.slice a5 n c5] 47)) := (Below.refl _ _).alloc (Nat.le_refl _) _
                  have HOX := Lib.hid (owns_below HO5.out hba)
                  refine held_buildS (i := 15) (some 92) (by kernel_rfl) rfl rfl rfl (.tmp 91) a5 n c5 rfl (by kernel_rfl) ⟨S2, ?_⟩
                  refine held_appendS (i := 16) (some 93) (by kernel_rfl) rfl rfl rfl (.tmp 77) (.tmp 92) rfl w2.heap.size (.slice an N.length cn) _ _ (by kernel_rfl) HOX.out W5.heap.size a5 n c5 (by kernel_rfl) (cell_alloc1 W5 _ _) (by simp; omega) (by simp; omega) ?_
                  intro v' w3 hown hgrow
                  have S3 : Below w2.heap.size w2 w3 := S2.grown hgrow (by simp; omega) (fun g hg => ((HOX.out.lt) g hg).1)
                  have HB3 := Lib.hid S3
                  have HGS3 : Hid (Gs w2.heap.size w3 v' ((N ++ [less1 p u R[j]]).map (toL n))) := Lib.hid (by
                    rw [List.map_append]
                    exact Gs.push HOX.out (fun i h1 h2 => ((HVR.out i h1 h2).below hb5').below hba) (HG5.out.below hba) hown hgrow)
                  refine ⟨S3, ?_⟩
                  refine held_take (i := 17) (v := v') (some 11) rfl rfl (by kernel_rfl) (by kernel_rfl) (by kernel_rfl) (fun _ _ _ h => h) (yieldsIf_assign (by kernel_rfl) rfl (by kernel_rfl)) S3 ?_
                  refine wpAnyH_done (by kernel_rfl) ?_ _
                  simp only [Act.put, List.setIfInBounds_toArray, List.set_cons_zero, List.set_cons_succ]
                  clear S0 S1 S2 S3 hown hgrow hb5 hb5' hba hg5 HOX HO5 HG5 hrowj hcellj HLESS hs5
                  go_wp2
                  go_roundw
                  case rel => exact ⟨j + 1, true, _, by omega, by go_num, rfl, HB3, HGS3, Lib.hid (HNX.out.keep hj)⟩
                  case measure => simp [intOf]; omega
                | false =>
                  by_cases hgt : Lin.ld u < Lin.ld s
                  · have hgt2 : (d : Int) < (Lin.ld s : Int) := by have := HLU.out; omega
                    have HNX2 : Hid (Nx p R u (j + 1) true (N ++ [u] ++ [less1 p u R[j]])) := Lib.hid (HNX.out.in' hj (by rw [← HSE.out]; exact hgt))
                    go_wp2_with fail
                    refine HLJ.out.mono ?_
                    rintro e w' ⟨rfl, rfl⟩
                    clear hrow0 HLJ
                    go_wp2_with (at_builtin; refine wpList_append_own _ rfl (.tmp 73) (.tmp 75) 22 rfl w2.heap.size 47 i0 (.slice none 0 0) 1 24 Tryz.underlying22 hi0 hz0 hz1 hz2 rfl (by decide) _ _ _ rfl (HVO.out.alloc _) ⟨wr.heap.size, 0, none⟩ 1 1 [.slice (some ⟨g, 0, none⟩) n c7] rfl rfl ?c1 ?c2 ?c3 ?c4 ?c5 ?_)
                    case c1 =>
                      intro j u hj
                      match j, hj with
                      | 0, hj => simp at hj; subst hj; simp [Addr.add]
                    case c2 => intro u hu; simp at hu; subst hu; rfl
                    case c3 => rw [List.length_map]; unfold maxLen; omega
                    case c4 => rw [List.length_map]; omega
                    case c5 => simp; omega
                    intro v' w3 hown hgrow _
                    have hba : Below wr.heap.size wr (wr.alloc (.cells #[.slice (some ⟨g, 0, none⟩) n c7] 47)) := (Below.refl _ _).alloc (Nat.le_refl _) _
                    have HOX := Lib.hid (owns_below HVO.out hba)
                    have HBN := Lib.hid ((HBX.out.alloc hsx (.cells #[.slice (some ⟨g, 0, none⟩) n c7] 47)).grown hgrow (by simp; omega) (fun g hg => ((HOX.out.lt) g hg).1))
                    have HGN : Hid (Gs w2.heap.size w3 v' ((N ++ [u]).map (toL n))) := Lib.hid (by
                      rw [List.map_append]
                      exact Gs.push HOX.out (fun i h1 h2 => (HVR.out i h1 h2).below hba) ((HOWN7.out.below HBX.out).below hba) (by rw [List.length_map]; exact hown) hgrow)
                    clear hown hgrow hba HOX
                    have HNE : Hid (True) := Lib.hid trivial
                    obtain ⟨vs3, hvo3, hvr3⟩ := HGN.out
                    have HVO3 := Lib.hid hvo3
                    have HVR3 := Lib.hid hvr3
                    clear hvo3 hvr3 HNE
                    go_wp2
                    refine wp_region_held (S := fun W => Below w2.heap.size w2 W) (by kernel_rfl) ?_
                    have S0 : Below w2.heap.size w2 w3.drew := HBN.out.drew
                    refine held_take (i := 0) (v := v') (some 77) rfl rfl (by kernel_rfl) (by kernel_rfl) (by kernel_rfl) (fun _ _ _ h => h) (yieldsIf_move (by kernel_rfl) rfl (by kernel_rfl)) S0 ?_
                    refine held_take (i := 1) (v := .int .i64 p) (some 78) rfl rfl (by kernel_rfl) (by kernel_rfl) (by kernel_rfl) (fun _ _ _ h => h) (yieldsIf_move (by kernel_rfl) rfl (by kernel_rfl)) S0 ?_
                    refine held_take (i := 2) (v := .slice (some ⟨bo, oo, none⟩) R.length co) (some 79) rfl rfl (by kernel_rfl) (by kernel_rfl) (by kernel_rfl) (fun _ _ _ h => h) (yieldsIf_move (by kernel_rfl) rfl (by kernel_rfl)) S0 ?_
                    refine held_take (i := 3) (v := .int .i64 (j : Int)) (some 80) rfl rfl (by kernel_rfl) (by kernel_rfl) (by kernel_rfl) (fun _ _ _ h => h) (yieldsIf_move (by kernel_rfl) rfl (by kernel_rfl)) S0 ?_
                    refine held_take (i := 4) (v := .pointer (some ⟨bo, oo + j, none⟩)) (some 81) rfl rfl (by kernel_rfl) (by kernel_rfl) (by kernel_rfl) (fun _ _ _ h => h) (yieldsIf_index (by kernel_rfl) rfl (by kernel_rfl) (by kernel_rfl) (hidxS bo oo co hj)) S0 ?_
                    refine held_take (i := 5) (v := .slice (some ⟨bj, oj, none⟩) n cj) (some 82) rfl rfl (by kernel_rfl) (by kernel_rfl) (by kernel_rfl) (fun _ _ _ h => h) (yieldsIf_cell (by kernel_rfl) rfl (by kernel_rfl) (fun W h => hloadS W (hrowj W h))) S0 ?_
                    refine held_take (i := 6) (v := .slice (some ⟨g, 0, none⟩) n c7) (some 83) rfl rfl (by kernel_rfl) (by kernel_rfl) (by kernel_rfl) (fun _ _ _ h => h) (yieldsIf_move (by kernel_rfl) rfl (by kernel_rfl)) S0 ?_
                    refine held_take (i := 7) (v := .slice (some ⟨bo, oo, none⟩) R.length co) (some 84) rfl rfl (by kernel_rfl) (by kernel_rfl) (by kernel_rfl) (fun _ _ _ h => h) (yieldsIf_move (by kernel_rfl) rfl (by kernel_rfl)) S0 ?_
                    refine held_take (i := 8) (v := .int .i64 (j : Int)) (some 85) rfl rfl (by kernel_rfl) (by kernel_rfl) (by kernel_rfl) (fun _ _ _ h => h) (yieldsIf_move (by kernel_rfl) rfl (by kernel_rfl)) S0 ?_
                    refine held_take (i := 9) (v := .pointer (some ⟨bo, oo + j, none⟩)) (some 86) rfl rfl (by kernel_rfl) (by kernel_rfl) (by kernel_rfl) (fun _ _ _ h => h) (yieldsIf_index (by kernel_rfl) rfl (by kernel_rfl) (by kernel_rfl) (hidxS bo oo co hj)) S0 ?_
                    refine held_take (i := 10) (v := .slice (some ⟨bj, oj, none⟩) n cj) (some 87) rfl rfl (by kernel_rfl) (by kernel_rfl) (by kernel_rfl) (fun _ _ _ h => h) (yieldsIf_cell (by kernel_rfl) rfl (by kernel_rfl) (fun W h => hloadS W (hrowj W h))) S0 ?_
                    refine held_take (i := 11) (v := .int .i64 (d : Int)) (some 88) rfl rfl (by kernel_rfl) (by kernel_rfl) (by kernel_rfl) (fun _ _ _ h => h) (yieldsIf_move (by kernel_rfl) rfl (by kernel_rfl)) S0 ?_
                    refine held_take (i := 12) (v := .pointer (some ⟨bj, oj + d, none⟩)) (some 89) rfl rfl (by kernel_rfl) (by kernel_rfl) (by kernel_rfl) (fun _ _ _ h => h) (yieldsIf_index (by kernel_rfl) rfl (by kernel_rfl) (by kernel_rfl) (hidxI bj oj cj hdn)) S0 ?_
                    refine held_take (i := 13) (v := .int .i64 f) (some 90) rfl rfl (by kernel_rfl) (by kernel_rfl) (by kernel_rfl) (fun _ _ _ h => h) (yieldsIf_cell (by kernel_rfl) rfl (by kernel_rfl) (fun W h => hload W (hcellj W h))) S0 ?_
                    refine held_enter (i := 14) (some 91) (f := 59) (args := #[.int .i64 p, .slice (some ⟨bj, oj, none⟩) n cj, .slice (some ⟨g, 0, none⟩) n c7, .int .i64 f]) (by kernel_rfl) rfl rfl rfl (by kernel_rfl) (HLESS.out _ S0) ?_ (fun c w' h => by obtain ⟨_, h, _⟩ := h; cases h) (fun w' h => by obtain ⟨_, h, _⟩ := h; cases h)
                    rintro e5 W5 ⟨u5, he5, hg5, hb5⟩
                    injection he5 with he5
                    subst he5
                    have S1 : Below w2.heap.size w2 W5 := S0.trans (hb5.mono S0.size)
                    have hb5' : Below w3.heap.size w3 W5 := ((Below.refl w3.heap.size w3).drew).trans hb5
                    have HO5 := Lib.hid (owns_below HVO3.out hb5')
                    have HG5 := Lib.hid hg5.g1
                    obtain ⟨a5, c5, hv5⟩ := l1_slice hg5.l1
                    subst hv5
                    refine ⟨S1, ?_⟩
                    have hs5 : w2.heap.size ≤ W5.heap.size := S1.size
                    have S2 : Below w2.heap.size w2 (W5.alloc (.cells #[.slice a5 n c5] 47)) := S1.alloc hs5 _
                    have hba : Below W5.heap.size W5 (W5.alloc (.cells #[.slice a5 n c5] 47)) := (Below.refl _ _).alloc (Nat.le_refl _) _
                    have HOX := Lib.hid (owns_below HO5.out hba)
                    refine held_buildS (i := 15) (some 92) (by kernel_rfl) rfl rfl rfl (.tmp 91) a5 n c5 rfl (by kernel_rfl) ⟨S2, ?_⟩
                    refine held_appendS (i := 16) (some 93) (by kernel_rfl) rfl rfl rfl (.tmp 77) (.tmp 92) rfl w2.heap.size (v') _ _ (by kernel_rfl) HOX.out W5.heap.size a5 n c5 (by kernel_rfl) (cell_alloc1 W5 _ _) (by simp; omega) (by simp; omega) ?_
                    intro v4 w4 hown hgrow
                    have S3 : Below w2.heap.size w2 w4 := S2.grown hgrow (by simp; omega) (fun g hg => ((HOX.out.lt) g hg).1)
                    have HB3 := Lib.hid S3
                    have HGS3 : Hid (Gs w2.heap.size w4 v4 (((N ++ [u]) ++ [less1 p u R[j]]).map (toL n))) := Lib.hid (by
                      rw [List.map_append]
                      exact Gs.push HOX.out (fun i h1 h2 => ((HVR3.out i h1 h2).below hb5').below hba) (HG5.out.below hba) hown hgrow)
                    refine ⟨S3, ?_⟩
                    refine held_take (i := 17) (v := v4) (some 11) rfl rfl (by kernel_rfl) (by kernel_rfl) (by kernel_rfl) (fun _ _ _ h => h) (yieldsIf_assign (by kernel_rfl) rfl (by kernel_rfl)) S3 ?_
                    refine wpAnyH_done (by kernel_rfl) ?_ _
                    simp only [Act.put, List.setIfInBounds_toArray, List.set_cons_zero, List.set_cons_succ]
                    clear S0 S1 S2 S3 hown hgrow hb5 hb5' hba hg5 HOX HO5 HG5 hrowj hcellj HLESS hs5
                    go_wp2
                    go_roundw
                    case rel => exact ⟨j + 1, true, _, by omega, by go_num, rfl, HB3, HGS3, Lib.hid (HNX2.out)⟩
                    case measure => simp [intOf]; omega
                  · have hle2 : ¬ ((d : Int) < (Lin.ld s : Int)) := by have := HLU.out; omega
                    have HNX2 : Hid (Nx p R u (j + 1) false (N ++ [less1 p u R[j]])) := Lib.hid (HNX.out.pass hj (by rw [← HSE.out]; have := HSL.out; omega))
                    go_wp2_with fail
                    refine HLJ.out.mono ?_
                    rintro e w' ⟨rfl, rfl⟩
                    clear hrow0 HLJ
                    go_wp2
                    refine wp_region_held (S := fun W => Below w2.heap.size w2 W) (by kernel_rfl) ?_
                    have S0 : Below w2.heap.size w2 wr.drew := HBX.out.drew
                    refine held_take (i := 0) (v := .slice an N.length cn) (some 77) rfl rfl (by kernel_rfl) (by kernel_rfl) (by kernel_rfl) (fun _ _ _ h => h) (yieldsIf_move (by kernel_rfl) rfl (by kernel_rfl)) S0 ?_
                    refine held_take (i := 1) (v := .int .i64 p) (some 78) rfl rfl (by kernel_rfl) (by kernel_rfl) (by kernel_rfl) (fun _ _ _ h => h) (yieldsIf_move (by kernel_rfl) rfl (by kernel_rfl)) S0 ?_
                    refine held_take (i := 2) (v := .slice (some ⟨bo, oo, none⟩) R.length co) (some 79) rfl rfl (by kernel_rfl) (by kernel_rfl) (by kernel_rfl) (fun _ _ _ h => h) (yieldsIf_move (by kernel_rfl) rfl (by kernel_rfl)) S0 ?_
                    refine held_take (i := 3) (v := .int .i64 (j : Int)) (some 80) rfl rfl (by kernel_rfl) (by kernel_rfl) (by kernel_rfl) (fun _ _ _ h => h) (yieldsIf_move (by kernel_rfl) rfl (by kernel_rfl)) S0 ?_
                    refine held_take (i := 4) (v := .pointer (some ⟨bo, oo + j, none⟩)) (some 81) rfl rfl (by kernel_rfl) (by kernel_rfl) (by kernel_rfl) (fun _ _ _ h => h) (yieldsIf_index (by kernel_rfl) rfl (by kernel_rfl) (by kernel_rfl) (hidxS bo oo co hj)) S0 ?_
                    refine held_take (i := 5) (v := .slice (some ⟨bj, oj, none⟩) n cj) (some 82) rfl rfl (by kernel_rfl) (by kernel_rfl) (by kernel_rfl) (fun _ _ _ h => h) (yieldsIf_cell (by kernel_rfl) rfl (by kernel_rfl) (fun W h => hloadS W (hrowj W h))) S0 ?_
                    refine held_take (i := 6) (v := .slice (some ⟨g, 0, none⟩) n c7) (some 83) rfl rfl (by kernel_rfl) (by kernel_rfl) (by kernel_rfl) (fun _ _ _ h => h) (yieldsIf_move (by kernel_rfl) rfl (by kernel_rfl)) S0 ?_
                    refine held_take (i := 7) (v := .slice (some ⟨bo, oo, none⟩) R.length co) (some 84) rfl rfl (by kernel_rfl) (by kernel_rfl) (by kernel_rfl) (fun _ _ _ h => h) (yieldsIf_move (by kernel_rfl) rfl (by kernel_rfl)) S0 ?_
                    refine held_take (i := 8) (v := .int .i64 (j : Int)) (some 85) rfl rfl (by kernel_rfl) (by kernel_rfl) (by kernel_rfl) (fun _ _ _ h => h) (yieldsIf_move (by kernel_rfl) rfl (by kernel_rfl)) S0 ?_
                    refine held_take (i := 9) (v := .pointer (some ⟨bo, oo + j, none⟩)) (some 86) rfl rfl (by kernel_rfl) (by kernel_rfl) (by kernel_rfl) (fun _ _ _ h => h) (yieldsIf_index (by kernel_rfl) rfl (by kernel_rfl) (by kernel_rfl) (hidxS bo oo co hj)) S0 ?_
                    refine held_take (i := 10) (v := .slice (some ⟨bj, oj, none⟩) n cj) (some 87) rfl rfl (by kernel_rfl) (by kernel_rfl) (by kernel_rfl) (fun _ _ _ h => h) (yieldsIf_cell (by kernel_rfl) rfl (by kernel_rfl) (fun W h => hloadS W (hrowj W h))) S0 ?_
                    refine held_take (i := 11) (v := .int .i64 (d : Int)) (some 88) rfl rfl (by kernel_rfl) (by kernel_rfl) (by kernel_rfl) (fun _ _ _ h => h) (yieldsIf_move (by kernel_rfl) rfl (by kernel_rfl)) S0 ?_
                    refine held_take (i := 12) (v := .pointer (some ⟨bj, oj + d, none⟩)) (some 89) rfl rfl (by kernel_rfl) (by kernel_rfl) (by kernel_rfl) (fun _ _ _ h => h) (yieldsIf_index (by kernel_rfl) rfl (by kernel_rfl) (by kernel_rfl) (hidxI bj oj cj hdn)) S0 ?_
                    refine held_take (i := 13) (v := .int .i64 f) (some 90) rfl rfl (by kernel_rfl) (by kernel_rfl) (by kernel_rfl) (fun _ _ _ h => h) (yieldsIf_cell (by kernel_rfl) rfl (by kernel_rfl) (fun W h => hload W (hcellj W h))) S0 ?_
                    refine held_enter (i := 14) (some 91) (f := 59) (args := #[.int .i64 p, .slice (some ⟨bj, oj, none⟩) n cj, .slice (some ⟨g, 0, none⟩) n c7, .int .i64 f]) (by kernel_rfl) rfl rfl rfl (by kernel_rfl) (HLESS.out _ S0) ?_ (fun c w' h => by obtain ⟨_, h, _⟩ := h; cases h) (fun w' h => by obtain ⟨_, h, _⟩ := h; cases h)
                    rintro e5 W5 ⟨u5, he5, hg5, hb5⟩
                    injection he5 with he5
                    subst he5
                    have S1 : Below w2.heap.size w2 W5 := S0.trans (hb5.mono S0.size)
                    have hb5' : Below wr.heap.size wr W5 := ((Below.refl wr.heap.size wr).drew).trans hb5
                    have HO5 := Lib.hid (owns_below HVO.out hb5')
                    have HG5 := Lib.hid hg5.g1
                    obtain ⟨a5, c5, hv5⟩ := l1_slice hg5.l1
                    subst hv5
                    refine ⟨S1, ?_⟩
                    have hs5 : w2.heap.size ≤ W5.heap.size := S1.size
                    have S2 : Below w2.heap.size w2 (W5.alloc (.cells #[.slice a5 n c5] 47)) := S1.alloc hs5 _
                    have hba : Below W5.heap.size W5 (W5.alloc (.cells #[.slice a5 n c5] 47)) := (Below.refl _ _).alloc (Nat.le_refl _) _
                    have HOX := Lib.hid (owns_below HO5.out hba)
                    refine held_buildS (i := 15) (some 92) (by kernel_rfl) rfl rfl rfl (.tmp 91) a5 n c5 rfl (by kernel_rfl) ⟨S2, ?_⟩
                    refine held_appendS (i := 16) (some 93) (by kernel_rfl) rfl rfl rfl (.tmp 77) (.tmp 92) rfl w2.heap.size (.slice an N.length cn) _ _ (by kernel_rfl) HOX.out W5.heap.size a5 n c5 (by kernel_rfl) (cell_alloc1 W5 _ _) (by simp; omega) (by simp; omega) ?_
                    intro v' w3 hown hgrow
                    have S3 : Below w2.heap.size w2 w3 := S2.grown hgrow (by simp; omega) (fun g hg => ((HOX.out.lt) g hg).1)
                    have HB3 := Lib.hid S3
                    have HGS3 : Hid (Gs w2.heap.size w3 v' ((N ++ [less1 p u R[j]]).map (toL n))) := Lib.hid (by
                      rw [List.map_append]
                      exact Gs.push HOX.out (fun i h1 h2 => ((HVR.out i h1 h2).below hb5').below hba) (HG5.out.below hba) hown hgrow)
                    refine ⟨S3, ?_⟩
                    refine held_take (i := 17) (v := v') (some 11) rfl rfl (by kernel_rfl) (by kernel_rfl) (by kernel_rfl) (fun _ _ _ h => h) (yieldsIf_assign (by kernel_rfl) rfl (by kernel_rfl)) S3 ?_
                    refine wpAnyH_done (by kernel_rfl) ?_ _
                    simp only [Act.put, List.setIfInBounds_toArray, List.set_cons_zero, List.set_cons_succ]
                    clear S0 S1 S2 S3 hown hgrow hb5 hb5' hba hg5 HOX HO5 HG5 hrowj hcellj HLESS hs5
                    go_wp2
                    go_roundw
                    case rel => exact ⟨j + 1, false, _, by omega, by go_num, rfl, HB3, HGS3, Lib.hid (HNX2.out)⟩
                    case measure => simp [intOf]; omega
              · have hjj : Hid (j = R.length) := Lib.hid (by omega)
                have HBO : Hid (Below w.heap.size w wr) := Lib.hid (HB.out.trans ((HB2.out.trans (HBX.out.mono hs2)).mono hsz))
                cases pt with
                | true =>
                  have hdone : ∃ K, K ≤ R.length ∧ N = Lin.put p R K u ∧ (∀ w ∈ R.take K, Lin.ld w < Lin.ld u) ∧ ∀ w ∈ R.drop K, ¬ Lin.ld w < Lin.ld u := Nx.done HR.out.red (by have := HNX.out; rwa [hjj.out] at this)
                  obtain ⟨KK, hK, hN, hlo, hhi⟩ := hdone
                  have HR6 : Hid (RedN p n N (TS.take (k + 1))) := Lib.hid (by
                    rw [HTK.out, hN]
                    exact HR.out.put hp1 HTKM.out HTT.out.1 HRE.out HZ.out HUU.out HUW.out hK hlo hhi)
                  have hNl2 : N.length ≤ k + 1 := by rw [hN, put_length p R KK u hK]; omega
                  clear hlo hhi hN
                  go_wp2
                  go_roundw
                  case rel => exact ⟨k + 1, N, by omega, by go_num, HBO, Lib.hid (HGN0.out.mono (by omega)), HR6, hNl2⟩
                  case measure => simp [intOf]; omega
                | false =>
                  have hdone : ∃ K, K ≤ R.length ∧ N ++ [u] = Lin.put p R K u ∧ (∀ w ∈ R.take K, Lin.ld w < Lin.ld u) ∧ ∀ w ∈ R.drop K, ¬ Lin.ld w < Lin.ld u := Nx.end (by have := HNX.out; rwa [hjj.out] at this)
                  obtain ⟨KK, hK, hN, hlo, hhi⟩ := hdone
                  have HR6 : Hid (RedN p n (N ++ [u]) (TS.take (k + 1))) := Lib.hid (by
                    rw [HTK.out, hN]
                    exact HR.out.put hp1 HTKM.out HTT.out.1 HRE.out HZ.out HUU.out HUW.out hK hlo hhi)
                  have hNl2 : (N ++ [u]).length ≤ k + 1 := by rw [hN, put_length p R KK u hK]; omega
                  clear hlo hhi hN
                  go_wp2_with (at_builtin; refine wpList_append_own _ rfl (.tmp 96) (.tmp 98) 22 rfl w2.heap.size 47 i0 (.slice none 0 0) 1 24 Tryz.underlying22 hi0 hz0 hz1 hz2 rfl (by decide) _ _ _ rfl (HVO.out.alloc _) ⟨wr.heap.size, 0, none⟩ 1 1 [.slice (some ⟨g, 0, none⟩) n c7] rfl rfl ?c1 ?c2 ?c3 ?c4 ?c5 ?_)
                  case c1 =>
                    intro j u hj
                    match j, hj with
                    | 0, hj => simp at hj; subst hj; simp [Addr.add]
                  case c2 => intro u hu; simp at hu; subst hu; rfl
                  case c3 => rw [List.length_map]; unfold maxLen; omega
                  case c4 => rw [List.length_map]; omega
                  case c5 => simp; omega
                  intro v' w3 hown hgrow _
                  have hba : Below wr.heap.size wr (wr.alloc (.cells #[.slice (some ⟨g, 0, none⟩) n c7] 47)) := (Below.refl _ _).alloc (Nat.le_refl _) _
                  have HOX := Lib.hid (owns_below HVO.out hba)
                  have HBN := Lib.hid ((HBX.out.alloc hsx (.cells #[.slice (some ⟨g, 0, none⟩) n c7] 47)).grown hgrow (by simp; omega) (fun g hg => ((HOX.out.lt) g hg).1))
                  have HGN : Hid (Gs w2.heap.size w3 v' ((N ++ [u]).map (toL n))) := Lib.hid (by
                    rw [List.map_append]
                    exact Gs.push HOX.out (fun i h1 h2 => (HVR.out i h1 h2).below hba) ((HOWN7.out.below HBX.out).below hba) (by rw [List.length_map]; exact hown) hgrow)
                  clear hown hgrow hba HOX
                  have HBO2 : Hid (Below w.heap.size w w3) := Lib.hid (HB.out.trans ((HB2.out.trans (HBN.out.mono hs2)).mono hsz))
                  go_wp2
                  go_roundw
                  case rel => exact ⟨k + 1, N ++ [u], by omega, by go_num, HBO2, Lib.hid (HGN.out.mono (by omega)), HR6, hNl2⟩
                  case measure => simp [intOf]; omega
    · have hkk : Hid (TS.take k = TS) := Lib.hid (List.take_of_length_le (by omega))
      go_wp2
      go_ret
      exact ⟨_, R, rfl, HO.out, HB.out, by have := HR.out; rwa [hkk.out] at this, by omega⟩
end Go.Proofs.YtlopenephgabhaaGreat


namespace Go.Proofs.YtlopenephgabhaaGreat
open Go.RowKit

theorem wd_wider {n m : Nat} {u : Lin.V} (h : Lin.Wd n u) (hm : n ≤ m) : Lin.Wd m u := fun i hi => h i (by omega)

theorem led_length {n : Nat} : ∀ (L : List Lin.V) (k : Nat), L.Pairwise (fun v w => Lin.ld v < Lin.ld w) → (∀ u ∈ L, k ≤ Lin.ld u ∧ Lin.ld u < n) → L.length ≤ n - k
  | [], _, _, _ => by simp
  | v :: L, k, hp, h => by
    have h1 := List.pairwise_cons.1 hp
    have h0 := h v (by simp)
    have := led_length L (Lin.ld v + 1) h1.2 (fun u hu => ⟨h1.1 u hu, (h u (by simp [hu])).2⟩)
    simp only [List.length_cons]
    omega
theorem red_length {p : Int} {n : Nat} {R : List Lin.V} (h : Lin.Red p R) (hw : ∀ u ∈ R, Lin.Wd n u) : R.length ≤ n := by
  have := led_length (n := n) R 0 h.inc (fun u hu => ⟨Nat.zero_le _, (ld_ltn (hw u hu) (h.ne hu)).1⟩)
  omega

end Go.Proofs.YtlopenephgabhaaGreat

namespace Go.Proofs.YtlopenephgabhaaGreat
open Go.RowKit

theorem nil2 (w : World) : L2 0 w (.slice none 0 0) [] := Or.inl ⟨rfl, _, _, rfl⟩

/-- Two equal tables compare as equal. -/
theorem eq2_true (va vb : Value) (xs : List (List Int)) (w : World) (ha : L2 0 w va xs) (hb : L2 0 w vb xs) (hm : Bd2 1048576 xs) : Calls Tryz.prog 9 #[va, vb] w (BR (.bool true) w) := by
  have h := eq2_any va vb xs xs w ha hb hm hm
  rw [decide_eq_true rfl] at h
  exact h.mono fun _ _ hh => qr_below hh
end Go.Proofs.YtlopenephgabhaaGreat

namespace Go.Proofs.YtlopenephgabhaaGreat
open Go.RowKit

/-- append of no elements. -/
theorem run_append_none' {P : Program} (w : World) (t ty e : TypeId) (i : TypeInfo) (ht : P.underlying t = some (.slice e)) (hi : P.info? e = some i) {base size n : Nat} {v : Value} {xs : List Value} (hown : w.ownsRow base e size v n xs) (ad : Option Addr) (cap : Nat) :
    (Builtin.append_ #[t, t] ty #[v, .slice ad 0 cap]).run P w = .ok v w := by
  cases ad with
  | none =>
    rcases hown.2 with ⟨rfl, rfl⟩ | ⟨g, cap, cur, rfl, _, _, hnc, _⟩
    · simp [Builtin.append_, run_underlying ht, sizeOf, typeInfo, hi, Builtin.lenOf, Builtin.firstCells]
    · simp [Builtin.append_, run_underlying ht, sizeOf, typeInfo, hi, Builtin.lenOf, Builtin.firstCells, hnc, storeCells]
  | some a =>
    have hl := run_loadCells_list (P := P) w a [] (by simp)
    simp at hl
    rcases hown.2 with ⟨rfl, rfl⟩ | ⟨g, cap, cur, rfl, _, _, hnc, _⟩
    · simp [Builtin.append_, run_underlying ht, sizeOf, typeInfo, hi, Builtin.lenOf, Builtin.firstCells, hl]
    · simp [Builtin.append_, run_underlying ht, sizeOf, typeInfo, hi, Builtin.lenOf, Builtin.firstCells, hnc, storeCells, hl]

end Go.Proofs.YtlopenephgabhaaGreat

namespace Go.Proofs.YtlopenephgabhaaGreat
open Go.RowKit

end Go.Proofs.YtlopenephgabhaaGreat


namespace Go.Proofs.YtlopenephgabhaaGreat
open Go.RowKit

set_option maxHeartbeats 800000 in
theorem dimAt_any (p n : Int) (dv mv : Value) (ds : List Int) (ms : List (List (List Int))) (w : World) (h : Cx 0 w dv mv ds ms) (hd : ds.length ≤ 1048576) :
    Calls Tryz.prog 78 #[.agg #[.int .i64 p, dv, mv], .int .i64 n] w (BR (.int .i64 (dimZ ds n)) w) := by
  have HX0 := Lib.hid (Bx.start (p := p) 66 h)
  obtain ⟨ad, cap, hdv⟩ := Sl.shape h.dims
  clear h
  by_cases hr : 0 ≤ n ∧ n ≤ (ds.length : Int) - 1
  · have hdz : dimZ ds n = ds.getD n.toNat 0 := if_pos hr
    rw [hdz]
    clear hdz
    obtain ⟨q, rfl⟩ : ∃ q : Nat, n = (q : Int) := ⟨n.toNat, by omega⟩
    have hq : q < ds.length := by omega
    have HR := Lib.hid hr
    clear hr
    refine Sl.cases HX0.out.cx.dims (fun _ _ hx _ => absurd hq (by simp [hx])) (fun bd od capd hv _ hposd hcld => ?_)
    obtain ⟨u, hu, hru⟩ := hcld q hq
    subst hv
    injection hdv with e1 e2 e3
    clear e2
    subst e1 e3
    obtain ⟨x, hx⟩ : ∃ x, x = ds[q] := ⟨_, rfl⟩
    rw [hru, ← hx] at hu
    have HX : Hid (ds.getD (q : Int).toNat 0 = x) := Lib.hid (by rw [hx, Int.toNat_natCast, getD_of_lt _ hq])
    have HTOP := fun W => topOf_any p (.slice (some ⟨bd, od, none⟩) ds.length capd) mv ds.length (some ⟨bd, od, none⟩) capd W rfl hd
    have c0 := HX0.out.c0
    have c1 := HX0.out.c1
    have c2 := HX0.out.c2
    clear hx hru hcld hposd
    go_enter Tryz.func78, Tryz.ntmps78
    go_wp2_with fail
    refine (HTOP _).mono ?_
    rintro e w1 ⟨rfl, hb1⟩
    have HX1 := Lib.hid (HX0.out.next hb1)
    have hu1 := later hb1 (Nat.le_refl _) hu
    clear hb1 c0 c1 c2 hu HX0
    have c1 := HX1.out.c1
    go_wp2_with fail
    refine (in_yes HR.out _).mono ?_
    rintro e w' ⟨rfl, rfl⟩
    go_wp2
    go_ret
    exact ⟨ret_int HX.out.symm, HX1.out.below⟩
  · have hdz : dimZ ds n = 0 := if_neg hr
    rw [hdz]
    clear hdz
    subst hdv
    have HR := Lib.hid hr
    have HTOP := fun W => topOf_any p (.slice ad ds.length cap) mv ds.length ad cap W rfl hd
    have c0 := HX0.out.c0
    have c1 := HX0.out.c1
    have c2 := HX0.out.c2
    clear hr
    go_enter Tryz.func78, Tryz.ntmps78
    go_wp2_with fail
    refine (HTOP _).mono ?_
    rintro e w1 ⟨rfl, hb1⟩
    have HX1 := Lib.hid (HX0.out.next hb1)
    clear hb1 c0 c1 c2 HX0
    go_wp2_with fail
    refine (in_no HR.out _).mono ?_
    rintro e w' ⟨rfl, rfl⟩
    go_wp2
    go_ret
    exact ⟨rfl, HX1.out.below⟩

end Go.Proofs.YtlopenephgabhaaGreat

