/-
  Vectors as the program has them, arrays of MaxRows numbers, told by functions on places; impl.leadOf, inverseOf, unitLead, minusMultiple by their contracts.
  impl.inverseOf, unitLead, minusMultiple by their contracts.
  Slices of vectors; impl.restModulo by its contract.
  A set of vectors in a map that the call has made; slices of vectors that the call has gathered; impl.unitLines by its contract.
  Slices of vectors that the call has gathered; impl.unitLines by its contract.
  impl.unitLines by its contract.
  slices.Insert at vectors, one value in a block of its own, by its contract.
  impl.insertRow by its contract.
  impl.reducedList by its contract.
-/
import Derived.Test.YtiokagnolbddlaaQa
import Derived.Test.YtiokagnolbddlaaQb
import Derived.Test.YtiokagnolbddlaaQc
import Derived.Deep.MidRow
import Derived.Deep.Cut
import Derived.Deep.CutRange
import Derived.Outline
import Derived.Great.Walk
import Derived.WideKeyArr
import Derived.Maps.OwnOps
import Derived.Maps.OwnSet
import Derived.Carry
import Derived.Great.BuildSlice
import Derived.Laws.CopyRow
import Derived.Lib.Overlaps
import Derived.Lib.AppendZerosOnto
import Derived.Lib.JoinLaws
import Derived.Deep.RegionLaw
import Derived.Deep.LoopGhost
import Derived.WalkMore
namespace Go.Proofs.Ytiokagnolbddlaa
open Go.RowKit

/-- The first n numbers. -/
def toL (n : Nat) (v : Lin.V) : List Int := (List.range n).map v
/-- The cells of a vector. -/
def vl (v : Lin.V) : List Value := (toL 40 v).map (Value.int .i64)
def vv (v : Lin.V) : Value := .agg (vl v).toArray
theorem toL_length (n : Nat) (v : Lin.V) : (toL n v).length = n := by simp [toL]
theorem toL_get {n k : Nat} (v : Lin.V) (h : k < (toL n v).length) : (toL n v)[k] = v k := by simp [toL]
theorem vl_length (v : Lin.V) : (vl v).length = 40 := by simp [vl, toL_length]
theorem vl_get (v : Lin.V) {k : Nat} (h : k < 40) : (vl v)[k]? = some (.int .i64 (v k)) := by
  have : k < (toL 40 v).length := by rw [toL_length]; exact h
  simp [vl, this, toL_get]
theorem vl_congr {v w : Lin.V} (h : ∀ i, i < 40 → v i = w i) : vl v = vl w := by
  unfold vl toL
  rw [List.map_congr_left (fun i hi => h i (List.mem_range.1 hi))]
theorem vl_one (v : Lin.V) : ∀ u ∈ vl v, u.oneCell' = true := fun u hu => by
  obtain ⟨x, _, rfl⟩ := List.mem_map.1 hu
  rfl
theorem vl_all (v : Lin.V) : (vl v).toArray.all (·.oneCell') = true := all_oneCell_toArray (vl_one v)
theorem vv_ints (v : Lin.V) : vv v = .agg (ints (toL 40 v)) := rfl
theorem toL_inj {v w : Lin.V} (hv : Lin.Wd 40 v) (hw : Lin.Wd 40 w) (h : toL 40 v = toL 40 w) : v = w := by
  funext i
  by_cases hi : i < 40
  · have h1 : (toL 40 v)[i]? = (toL 40 w)[i]? := by rw [h]
    simpa [toL, hi] using h1
  · rw [hv i (by omega), hw i (by omega)]
/-- Where a vector lies. -/
def At (w : World) (b o : Nat) (v : Lin.V) : Prop := w.rangeAt b o (vl v)
theorem At.range {w : World} {b o : Nat} {v : Lin.V} (h : At w b o v) : w.rangeAt b o (vl v) := h
theorem At.cell {w : World} {b o : Nat} {v : Lin.V} (h : At w b o v) {k : Nat} (hk : k < 40) : w.cell? ⟨b, o + k, none⟩ = some (.int .i64 (v k)) := h k _ (vl_get v hk)
theorem At.lt {w : World} {b o : Nat} {v : Lin.V} (h : At w b o v) : b < w.heap.size := cell_lt (h.cell (k := 0) (by omega))
theorem At.below {w w' : World} {b o B : Nat} {v : Lin.V} (h : At w b o v) (hb : Below B w w') (hB : b < B) : At w' b o v := fun j u hu => by
  rw [hb.cell (p := ⟨b, o + j, none⟩) hB]
  exact h j u hu
theorem At.later {w w' : World} {b o : Nat} {v : Lin.V} (h : At w b o v) (hb : Below w.heap.size w w') : At w' b o v := h.below hb h.lt
theorem at_of_block {w : World} {b : Nat} {v : Lin.V} {t : TypeId} {fr : Nat × Nat} (h : w.heap[b]? = some (.cells (vl v).toArray t fr)) : At w b 0 v := fun j u hu => by
  rw [cell_of_row w b (0 + j) _ t fr h]
  simpa using hu
theorem at_alloc (w : World) (v : Lin.V) (t : TypeId) : At (w.alloc (.cells (vl v).toArray t)) w.heap.size 0 v := at_of_block (heap_alloc_new w _)

theorem run_index_vv {P : Program} {t e : TypeId} {n : Nat} (ht : P.underlying t = some (.array 40 e)) (he : P.underlying e = some (.int .i64)) (hz : (P.info? e).map (·.size) = some n) (hn : n = 1) (v : Lin.V) {k : Nat} (hk : k < 40) (w : World) :
    (Instr.index t (.agg (vl v).toArray) (.int .i64 k)).run P w = .ok (.int .i64 (v k)) w := by
  obtain ⟨inf, hi, hs⟩ := Option.map_eq_some_iff.1 hz
  subst hn
  have hsz : (sizeOf e).run P w = .ok 1 w := by simp [sizeOf, typeInfo, hi, hs]
  have hp := run_part_int w he (vl v).toArray k (.int .i64 (v k)) (by simpa using vl_get v hk)
  have h2 : (0 : Int) ≤ (k : Int) ∧ (k : Int) < ((40 : Nat) : Int) := ⟨by omega, by omega⟩
  simp only [Instr.index, asIntOf, Sem.run_bind, Sem.run_pure, Result.andThen_ok, run_underlying ht, if_pos h2, hsz, Int.toNat_natCast, Nat.mul_one, hp]

theorem hidx (v : Lin.V) {k : Nat} (hk : k < 40) : ∀ w, (Instr.index 146 (.agg (vl v).toArray) (.int .i64 k)).run Try.prog w = .ok (.int .i64 (v k)) w :=
  fun w => run_index_vv Try.underlyingV Try.underlying2 Try.infoI1 rfl v hk w

theorem ld_lt {v : Lin.V} (hw : Lin.Wd 40 v) (hne : v ≠ Lin.zv) : Lin.ld v < 40 ∧ v (Lin.ld v) ≠ 0 ∧ ∀ j, j < Lin.ld v → v j = 0 := by
  obtain ⟨i, hi⟩ := Lin.ne_zv hne
  obtain ⟨h1, h2⟩ := Lin.ld_spec hi
  exact ⟨Classical.byContradiction fun hn => h1 (hw _ (by omega)), h1, h2⟩

theorem Try.infoVl (v : Lin.V) : (Try.prog.info? 146).map (·.size) = some (vl v).length := by rw [vl_length]; exact Try.infoV

end Go.Proofs.Ytiokagnolbddlaa

namespace Go.Proofs.Ytiokagnolbddlaa
open Go.RowKit

theorem inv_ex {p a : Int} (hp : IsP p) (h0 : 0 < a) (h1 : a < p) : ∃ k : Nat, 1 ≤ k ∧ (k : Int) < p ∧ (k : Int) * a % p = 1 := by
  rcases hp with rfl | rfl | rfl | rfl
  · obtain rfl : a = 1 := by omega
    exact ⟨1, by decide⟩
  · have : a = 1 ∨ a = 2 := by omega
    rcases this with rfl | rfl
    · exact ⟨1, by decide⟩
    · exact ⟨2, by decide⟩
  · have : a = 1 ∨ a = 2 ∨ a = 3 ∨ a = 4 := by omega
    rcases this with rfl | rfl | rfl | rfl
    · exact ⟨1, by decide⟩
    · exact ⟨3, by decide⟩
    · exact ⟨2, by decide⟩
    · exact ⟨4, by decide⟩
  · have : a = 1 ∨ a = 2 ∨ a = 3 ∨ a = 4 ∨ a = 5 ∨ a = 6 := by omega
    rcases this with rfl | rfl | rfl | rfl | rfl | rfl
    · exact ⟨1, by decide⟩
    · exact ⟨4, by decide⟩
    · exact ⟨5, by decide⟩
    · exact ⟨2, by decide⟩
    · exact ⟨3, by decide⟩
    · exact ⟨6, by decide⟩
theorem mul_bd {p a b : Int} (hp : IsP p) (ha0 : 0 ≤ a) (ha : a < p) (hb0 : 0 ≤ b) (hb : b ≤ p) : 0 ≤ a * b ∧ a * b ≤ 42 := by
  have hp7 : p ≤ 7 := by rcases hp with rfl | rfl | rfl | rfl <;> decide
  refine ⟨Int.mul_nonneg ha0 hb0, ?_⟩
  have h1 : a * b ≤ 6 * b := Int.mul_le_mul_of_nonneg_right (by omega) hb0
  omega
theorem IsP.lo1 {p : Int} (hp : IsP p) : 1 < p := by rcases hp with rfl | rfl | rfl | rfl <;> decide
theorem IsP.hi7 {p : Int} (hp : IsP p) : p ≤ 7 := by rcases hp with rfl | rfl | rfl | rfl <;> decide

def InvR (p a : Int) (w : World) (e : Ending) (w' : World) : Prop := ∃ k : Nat, e = .returned (.int .i64 (k : Int)) ∧ w = w' ∧ 1 ≤ k ∧ (k : Int) < p ∧ (k : Int) * a % p = 1

theorem there_new (w : World) (C : Array Value) (t : TypeId) {n : Nat} (h : n ≤ C.size) : (w.alloc (.cells C t)).there w.heap.size 0 n := fun j hj => by
  have hb := heap_alloc_new w (.cells C t)
  constructor
  · rw [cell_of_row _ _ _ _ _ _ hb, Nat.zero_add, Array.getElem?_eq_getElem (by omega)]
    rfl
  · simp
theorem there_set {w : World} {b o n : Nat} (h : w.there b o n) (a : Addr) (u : Value) : (w.setCell a u).there b o n := fun j hj => by
  obtain ⟨h1, h2⟩ := h j hj
  refine ⟨?_, by rw [World.frozen?_setCell]; exact h2⟩
  obtain ⟨x, hx⟩ := Option.isSome_iff_exists.1 h1
  by_cases e : a = ⟨b, o + j, none⟩
  · rw [e, World.cell?_setCell_same _ _ _ hx]; rfl
  · rw [World.cell?_setCell_other _ _ _ _ e, hx]; rfl
theorem there_below {w w' : World} {b o n B : Nat} (h : w.there b o n) (hb : Below B w w') (hB : b < B) : w'.there b o n := fun j hj => by
  rw [hb.cell (p := ⟨b, o + j, none⟩) hB, hb.frozen (p := ⟨b, o + j, none⟩) hB]
  exact h j hj
theorem below_setCells {B : Nat} {w : World} (b : Nat) (hB : B ≤ b) : ∀ (vs : List Value) (o : Nat) (w' : World), Below B w w' → Below B w (w'.setCells b o vs) := by
  intro vs
  induction vs with
  | nil => intro o w' h; exact h
  | cons v vs ih => intro o w' h; exact ih (o + 1) _ (h.setCell hB v)
theorem addr_ne {b o o' : Nat} (h : o ≠ o') : (⟨b, o, none⟩ : Addr) ≠ ⟨b, o', none⟩ := fun e => h (by injection e)
theorem At.set {w : World} {b o : Nat} {v : Lin.V} (h : At w b o v) {k : Nat} (hk : k < 40) (x : Int) : At (w.setCell ⟨b, o + k, none⟩ (.int .i64 x)) b o (fun i => if i = k then x else v i) := fun j u hu => by
  have hj : j < 40 := by have := (List.getElem?_eq_some_iff.1 hu).1; rwa [vl_length] at this
  rw [vl_get _ hj] at hu
  by_cases e : j = k
  · subst e
    rw [World.cell?_setCell_same _ _ _ (h.cell hj)]
    simpa using hu
  · rw [World.cell?_setCell_other _ _ _ _ (addr_ne (by omega)), h.cell hj]
    simpa [e] using hu
theorem At.setOther {w : World} {b o : Nat} {v : Lin.V} (h : At w b o v) {a : Addr} (ha : a.block ≠ b) (u : Value) : At (w.setCell a u) b o v := fun j x hx => by
  rw [World.cell?_setCell_other _ _ _ _ (by intro e; exact ha (by rw [e]))]
  exact h j x hx
theorem At.congr {w : World} {b o : Nat} {v v' : Lin.V} (h : At w b o v) (e : ∀ i, i < 40 → v i = v' i) : At w b o v' := by
  unfold At
  rw [← vl_congr e]
  exact h
theorem at_setCells (w : World) (b o : Nat) (v : Lin.V) (ht : w.there b o 40) : At (w.setCells b o (vl v)) b o v := World.rangeAt_setCells_same w b o (vl v) (by rw [vl_length]; exact ht)
theorem At.apart {w : World} {b o b' o' : Nat} {v : Lin.V} (h : At w b o v) (v' : Lin.V) (ha : b ≠ b' ∨ o + 40 ≤ o' ∨ o' + 40 ≤ o) : At (w.setCells b' o' (vl v')) b o v := World.rangeAt_setCells_apart h b' o' (vl v') (by rw [vl_length, vl_length]; exact ha)
theorem results_cell_at {P : Program} {fn : Func} {p : Tmp} {ty : TypeId} (h : fn.results = #[.cell p ty]) (tmps : Array Value) (w : World) (g : Nat) (v : Lin.V) (d : TypeDesc)
    (hp : tmps.getD p undef = .pointer (some ⟨g, 0, none⟩)) (hg : At w g 0 v) (hu : P.underlying ty = some d) (hd : d.isRow = true) (hi : (P.info? ty).map (·.size) = some (vl v).length) :
    (results fn tmps).run P w = .ok (vv v) w := by
  have hp' : tmps[p]?.getD undef = .pointer (some ⟨g, 0, none⟩) := by simpa using hp
  simp [results, h, hp', asAddr, run_loadVar_mid w g 0 ty (vl v) d hg hu hd hi, vv]

/-- What stands before a piece of code: the world by what is known of it. -/
theorem forget_wp {P : Program} {c : Code} {Q : Exit → Act → World → Prop} {a : Act} {w : World} (S : World → Prop) (h : S w) (k : ∀ W, S W → Code.wp P c Q a W) : Code.wp P c Q a w := k w h
theorem forget_list {P : Program} {ops : Array Oper} {Q : Exit → Act → World → Prop} {l : List Oper} {a : Act} {w : World} (S : World → Prop) (h : S w) (k : ∀ W, S W → wpList P ops Q l a W) : wpList P ops Q l a w := k w h

/-- A vector in a box, and a place for a vector. -/
structure Boxed (w W : World) (b g : Nat) (v : Lin.V) : Prop where
  below : Below w.heap.size w W
  lo : w.heap.size ≤ b ∧ w.heap.size ≤ g
  ne : b ≠ g
  at' : At W b 0 v
  there : W.there b 0 40
  res : W.there g 0 40
theorem Boxed.next {w W W' : World} {b g : Nat} {v : Lin.V} (h : Boxed w W b g v) (hb : Below W.heap.size W W') : Boxed w W' b g v := by
  have hg : g < W.heap.size := by
    obtain ⟨x, hx⟩ := Option.isSome_iff_exists.1 (h.res 0 (by omega)).1
    exact cell_lt hx
  exact ⟨h.below.trans (hb.mono h.below.size), h.lo, h.ne, h.at'.later hb, there_below h.there hb h.at'.lt, there_below h.res hb hg⟩
theorem Boxed.set {w W : World} {b g : Nat} {v : Lin.V} (h : Boxed w W b g v) {k : Nat} (hk : k < 40) (x : Int) : Boxed w (W.setCell ⟨b, k, none⟩ (.int .i64 x)) b g (fun i => if i = k then x else v i) := by
  have := h.at'.set hk x
  rw [Nat.zero_add] at this
  exact ⟨h.below.setCell h.lo.1 _, h.lo, h.ne, this, there_set h.there _ _, there_set h.res _ _⟩
theorem Boxed.congr {w W : World} {b g : Nat} {v v' : Lin.V} (h : Boxed w W b g v) (e : ∀ i, i < 40 → v i = v' i) : Boxed w W b g v' := ⟨h.below, h.lo, h.ne, h.at'.congr e, h.there, h.res⟩
theorem boxed_new (w : World) (v : Lin.V) (C : Array Value) (hC : 40 ≤ C.size) (t t' : TypeId) : Boxed w ((w.alloc (.cells (vl v).toArray t)).alloc (.cells C t')) w.heap.size (w.heap.size + 1) v := by
  have h1 := there_new w (vl v).toArray t (n := 40) (by simp [vl_length])
  have h2 := there_new (w.alloc (.cells (vl v).toArray t)) C t' hC
  exact ⟨below_two _ _ _, ⟨Nat.le_refl _, by omega⟩, by omega, (at_alloc w v t).later (below_alloc1 _ _), World.there_alloc h1 _, by simpa using h2⟩

def VR (P : Lin.V → Prop) (w : World) (e : Ending) (w' : World) : Prop := ∃ v, e = .returned (vv v) ∧ Below w.heap.size w w' ∧ P v

theorem boxed_new3 (w : World) (v u : Lin.V) (C : Array Value) (hC : 40 ≤ C.size) (t t' t2 : TypeId) : Boxed w (((w.alloc (.cells (vl v).toArray t)).alloc (.cells (vl u).toArray t')).alloc (.cells C t2)) w.heap.size (w.heap.size + 2) v ∧ At (((w.alloc (.cells (vl v).toArray t)).alloc (.cells (vl u).toArray t')).alloc (.cells C t2)) (w.heap.size + 1) 0 u := by
  have h1 := there_new w (vl v).toArray t (n := 40) (by simp [vl_length])
  have h2 := there_new ((w.alloc (.cells (vl v).toArray t)).alloc (.cells (vl u).toArray t')) C t2 hC
  have h3 := at_alloc (w.alloc (.cells (vl v).toArray t)) u t'
  refine ⟨⟨(below_two _ _ _).trans ((below_alloc1 _ _).mono (by simp; omega)), ⟨Nat.le_refl _, by omega⟩, by omega, ((at_alloc w v t).later (below_alloc1 _ _)).later (below_alloc1 _ _), World.there_alloc (World.there_alloc h1 _) _, by simpa using h2⟩, ?_⟩
  have := h3.later (below_alloc1 _ (.cells C t2))
  simpa using this

end Go.Proofs.Ytiokagnolbddlaa

namespace Go.Proofs.Ytiokagnolbddlaa
open Go.RowKit

/-- The slice s reads as the vectors L, its cells in blocks from lo on. -/
def Vs (lo : Nat) (w : World) (s : Value) (L : List Lin.V) : Prop :=
  (L = [] ∧ ∃ ad cap, s = .slice ad 0 cap) ∨
  ∃ b o cap, s = .slice (some ⟨b, o, none⟩) L.length cap ∧ lo ≤ b ∧ 0 < L.length ∧ ∀ k (h : k < L.length), At w b (o + k * 40) L[k]
theorem Vs.keep {lo : Nat} {w w' : World} {s : Value} {L : List Lin.V} (h : Vs lo w s L) (hk : Keep lo w w') : Vs lo w' s L := by
  rcases h with h | ⟨b, o, cap, hs, hlo, hpos, hc⟩
  · exact Or.inl h
  · refine Or.inr ⟨b, o, cap, hs, hlo, hpos, fun k h j u hu => ?_⟩
    have h1 := hc k h j u hu
    rw [hk.2 b _ hlo (cell_lt h1)]
    exact h1
theorem Vs.below {lo : Nat} {w w' : World} {s : Value} {L : List Lin.V} (h : Vs lo w s L) (hb : Below w.heap.size w w') : Vs lo w' s L := h.keep (Keep.of_below hb)
theorem Vs.lower {lo lo' : Nat} (hl : lo' ≤ lo) {w : World} {s : Value} {L : List Lin.V} (h : Vs lo w s L) : Vs lo' w s L := by
  rcases h with h | ⟨b, o, cap, hs, hlo, hpos, hc⟩
  · exact Or.inl h
  · exact Or.inr ⟨b, o, cap, hs, by omega, hpos, hc⟩
theorem Vs.shape {lo : Nat} {w : World} {s : Value} {L : List Lin.V} (h : Vs lo w s L) : ∃ ad cap, s = .slice ad L.length cap := by
  rcases h with ⟨h, ad, cap, hs⟩ | ⟨b, o, cap, hs, _⟩
  · exact ⟨ad, cap, by rw [hs, h]; rfl⟩
  · exact ⟨_, cap, hs⟩
theorem Vs.cases {lo : Nat} {w : World} {s : Value} {L : List Lin.V} (h : Vs lo w s L) {C : Prop} (h0 : ∀ ad cap, L = [] → s = .slice ad 0 cap → C)
    (h1 : ∀ b o cap, s = .slice (some ⟨b, o, none⟩) L.length cap → lo ≤ b → 0 < L.length → (∀ k (h : k < L.length), At w b (o + k * 40) L[k]) → C) : C := by
  rcases h with ⟨h, ad, cap, hs⟩ | ⟨b, o, cap, hs, hlo, hpos, hc⟩
  · exact h0 ad cap h hs
  · exact h1 b o cap hs hlo hpos hc

/-- The making of a vector's box. -/
structure NewV (w W : World) : Prop where
  below : Below w.heap.size w W
  size : W.heap.size = w.heap.size + 1
  there : W.there w.heap.size 0 40
set_option maxRecDepth 100000 in
theorem alloc_run (ρ : Operand → Value) (o : Oper) (w : World) : (execOp ρ { o with op := .alloc 146 }).run Try.prog w = .ok (.value (.pointer (some ⟨w.heap.size, 0, none⟩))) (w.alloc (.cells zl.toArray 146)) := by kernel_rfl
theorem wpList_allocV {ops : Array Oper} {rest : List Oper} {o : Oper} {a : Act} {w : World} {Q : Exit → Act → World → Prop} (hg : o.guard = none) (dst : Option Tmp) (hdst : o.dst = dst) (ho : o.op = .alloc 146)
    (h : ∀ W, NewV w W → wpList Try.prog ops Q rest (a.put dst (.pointer (some ⟨w.heap.size, 0, none⟩))) W) : wpList Try.prog ops Q (o :: rest) a w := by
  refine Great.wpList_runTo hg dst hdst (.pointer (some ⟨w.heap.size, 0, none⟩)) (w.alloc (.cells zl.toArray 146)) ?_ (h _ ⟨below_alloc1 _ _, by simp, there_new w zl.toArray _ (by simp [zl_length])⟩)
  have := alloc_run a.eval o w
  rw [← ho] at this
  exact this

theorem Boxed.put {w W : World} {b g : Nat} {v : Lin.V} (h : Boxed w W b g v) (u : Lin.V) : Boxed w (W.setCells b 0 (vl u)) b g u :=
  ⟨below_setCells _ h.lo.1 _ _ _ h.below, h.lo, h.ne, at_setCells _ _ _ _ h.there, World.there_setCells h.there _ _ _, World.there_setCells h.res _ _ _⟩
theorem hload (w : World) {b o : Nat} {x : Int} (h : w.cell? ⟨b, o, none⟩ = some (.int .i64 x)) : (Instr.loadAt 2 (.pointer (some ⟨b, o, none⟩))).run Try.prog w = .ok (.int .i64 x) w := by go_simp
theorem hindexV (b : Nat) {k : Nat} (hk : k < 40) (w : World) : (Instr.indexAt 146 (.pointer (some ⟨b, 0, none⟩)) (.int .i64 k)).run Try.prog w = .ok (.pointer (some ⟨b, k, none⟩)) w := by
  have h2 : (0 : Int) ≤ (k : Int) := by omega
  have h3 : (k : Int) < 40 := by omega
  have h4 : ¬ (40 : Int) ≤ (k : Int) := by omega
  go_simp

end Go.Proofs.Ytiokagnolbddlaa

namespace Go.Proofs.Ytiokagnolbddlaa
open Go.RowKit

theorem mapM_some {α β : Type} {f : α → Option β} {g : α → β} : ∀ l : List α, (∀ x ∈ l, f x = some (g x)) → l.mapM f = some (l.map g) := by
  intro l
  induction l with
  | nil => intro _; rfl
  | cons x l ih => intro h; rw [List.mapM_cons, h x (List.mem_cons_self ..), ih (fun y hy => h y (List.mem_cons_of_mem _ hy))]; rfl
theorem arrKey_of (P : Program) {k e : TypeId} (hu : P.underlying k = some (.array 40 e)) (he : P.underlying e = some (.int .i64)) (h1 : P.cellsOf e = 1) (h40 : P.cellsOf k = 40) : WideMaps.ArrKey P k e 40 :=
  ⟨hu, by unfold Program.plainKey; rw [he], h1, h40⟩
theorem Try.cellsV : Try.prog.cellsOf 146 = 40 := by kernel_rfl
theorem Try.cellsI' : Try.prog.cellsOf 2 = 1 := by kernel_rfl
theorem Try.arrKey : WideMaps.ArrKey Try.prog 146 2 40 := arrKey_of _ Try.underlyingV Try.underlying2 Try.cellsI' Try.cellsV
theorem Try.keyed : Maps.Keyed Try.prog 146 := Maps.Keyed.of_law Try.arrKey.law
/-- The key's datum. -/
def keyLit (v : Lin.V) : Lit := .string (keyBytes ((List.range 40).map fun i => .int .i64 (v i)))
theorem small_wf {x : Int} (h0 : 0 ≤ x) (h1 : x ≤ 7) : (Lit.int .i64 x).wf = true := WalkArith.wf_i64 (by omega)
theorem flatten_single {α : Type} (l : List α) : (l.map fun x => [x]).flatten = l := by
  induction l with
  | nil => rfl
  | cons x l ih => simp [ih]
theorem Try.typesSize : ∃ m, Try.prog.types.size = m + 1 := ⟨Try.prog.types.size - 1, by
  have : 0 < Try.prog.types.size := of_decide_eq_true (by kernel_rfl)
  omega⟩
theorem keyOf_vv (v : Lin.V) (h : ∀ i, 0 ≤ v i ∧ v i ≤ 7) : keyOf Try.prog 146 (vv v) = some (keyLit v) := by
  have hkt := Try.arrKey.keyType Try.typesSize
  obtain ⟨m, hm⟩ := Try.typesSize
  have hu := Try.underlyingV
  have he := Try.underlying2
  unfold keyOf vv
  simp only [hu]
  rw [if_pos (by simp [hkt, Value.formed, hu, Try.cellsV, vl_length]), hm]
  unfold Program.keyLits
  simp only [hu, Value.cells, List.toList_toArray]
  rw [if_pos (by rw [Try.cellsV, vl_length])]
  have hmm : (List.range 40).mapM (fun i => Try.prog.keyLits (m + 1) 2 (((vl v).drop (i * Try.prog.cellsOf 2)).take (Try.prog.cellsOf 2))) = some ((List.range 40).map fun i => [Lit.int .i64 (v i)]) := by
    refine mapM_some _ (fun i hi => ?_)
    have hi40 := List.mem_range.1 hi
    have hd : ((vl v).drop (i * 1)).take 1 = [.int .i64 (v i)] := by
      have h1 := vl_get v hi40
      obtain ⟨hlt, hge⟩ := List.getElem?_eq_some_iff.1 h1
      rw [Nat.mul_one, List.drop_eq_getElem_cons hlt, hge]
      rfl
    unfold Program.keyLits
    simp only [he, Try.cellsI', hd]
    rw [if_pos ⟨trivial, small_wf (h i).1 (h i).2⟩]
  rw [hmm]
  simp only [Option.map_some]
  rw [show ((List.range 40).map fun i => [Lit.int .i64 (v i)]) = ((List.range 40).map fun i => Lit.int .i64 (v i)).map (fun x => [x]) by rw [List.map_map]; rfl, flatten_single]
  rfl
theorem keyLit_inj {u v : Lin.V} (hu : ∀ i, 0 ≤ u i ∧ u i ≤ 7) (hv : ∀ i, 0 ≤ v i ∧ v i ≤ 7) (h : keyLit u = keyLit v) : vv u = vv v := by
  have h1 := keyOf_vv u hu
  have h2 := keyOf_vv v hv
  rw [← h] at h2
  exact Try.keyed.inj h1 h2
theorem vv_inj {u v : Lin.V} (hu : Lin.Wd 40 u) (hv : Lin.Wd 40 v) (h : vv u = vv v) : u = v := by
  unfold vv at h
  injection h with h
  have h2 : vl u = vl v := by have := congrArg Array.toList h; simpa using this
  refine toL_inj hu hv ?_
  unfold vl at h2
  exact (List.map_inj_right (fun a b e => by injection e)).1 h2

/-- The map in block b bears true at vectors of M alone. -/
def Seen (w : World) (b n : Nat) (M : List Lin.V) : Prop := ∃ D : DataW Unit, w.ownsMap Try.prog 146 (plainElem Try.prog 4) b n D ∧ Maps.IsMap D ∧
  ∀ v : Lin.V, (∀ i, 0 ≤ v i ∧ v i ≤ 7) → D.atKey (keyLit v) (.lit (.bool false)) = .lit (.bool true) → ∃ u ∈ M, vv u = vv v
theorem Seen.made (w : World) : Seen (w.alloc (.map #[] 0)) w.heap.size 0 [] := ⟨.map [], World.ownsMap_made _ _ _ _, ⟨[], rfl⟩, fun v _ h => by
  have : (DataW.map [] : DataW Unit).atKey (keyLit v) (.lit (.bool false)) = .lit (.bool false) := rfl
  rw [this] at h
  cases h⟩
theorem Seen.lt {w : World} {b n : Nat} {M : List Lin.V} (h : Seen w b n M) : b < w.heap.size := by obtain ⟨D, hd, _⟩ := h; exact hd.lt
theorem Seen.block {w w' : World} {b n : Nat} {M : List Lin.V} (h : Seen w b n M) (hb : w'.heap[b]? = w.heap[b]?) : Seen w' b n M := by
  obtain ⟨D, ⟨es, clock, h1, F, h2, h3⟩, r⟩ := h
  exact ⟨D, ⟨es, clock, hb.trans h1, F, h2, h3⟩, r⟩
theorem Seen.below {w w' : World} {b n : Nat} {M : List Lin.V} (h : Seen w b n M) (hb : Below w.heap.size w w') : Seen w' b n M := h.block (hb.block b h.lt)
theorem Seen.more {w : World} {b n n' : Nat} {M M' : List Lin.V} (h : Seen w b n M) (hn : n ≤ n') (hM : ∀ u ∈ M, u ∈ M') : Seen w b n' M' := by
  obtain ⟨D, h1, h2, h3⟩ := h
  exact ⟨D, h1.mono hn, h2, fun v hv h => by obtain ⟨u, hu, e⟩ := h3 v hv h; exact ⟨u, hM u hu, e⟩⟩

section
variable {ops : Array Oper} {rest : List Oper} {o : Oper} {a : Act} {w : World} {Q : Exit → Act → World → Prop}
theorem zeroB (w : World) : (zeroValue 4).run Try.prog w = .ok (.bool false) w := by kernel_rfl
theorem plainBool_inv {P : Program} {e : TypeId} (he : P.underlying e = some .bool) {v : Value} {z : DataW Unit × List MemPlace} (h : plainElem P e v = some z) : ∃ x, v = .bool x ∧ z.1 = .lit (.bool x) := by
  unfold plainElem at h
  rw [he] at h
  cases v <;> simp at h
  exact ⟨_, rfl, by rw [← h]⟩
end
end Go.Proofs.Ytiokagnolbddlaa

namespace Go.Proofs.Ytiokagnolbddlaa
open Go.RowKit

/-- The cells of a list of vectors, one behind the other. -/
def cellsOf (L : List Lin.V) : List Value := L.flatMap vl
theorem cellsOf_length (L : List Lin.V) : (cellsOf L).length = L.length * 40 := by
  induction L with
  | nil => rfl
  | cons v L ih => rw [cellsOf, List.flatMap_cons, List.length_append, vl_length]; unfold cellsOf at ih; rw [ih, List.length_cons]; omega
theorem cellsOf_at {L : List Lin.V} : ∀ {k : Nat} (h : k < L.length) {j : Nat}, j < 40 → (cellsOf L)[k * 40 + j]? = some (.int .i64 (L[k] j)) := by
  induction L with
  | nil => intro k h; simp at h
  | cons v L ih =>
    intro k h j hj
    rw [cellsOf, List.flatMap_cons]
    cases k with
    | zero =>
      rw [List.getElem?_append_left (by rw [vl_length]; omega)]
      simp only [Nat.zero_mul, Nat.zero_add, List.getElem_cons_zero]
      exact vl_get v hj
    | succ k =>
      rw [List.getElem?_append_right (by rw [vl_length]; omega), vl_length, show (k + 1) * 40 + j - 40 = k * 40 + j by omega]
      simp only [List.getElem_cons_succ]
      exact ih (by simpa using h) hj
theorem cellsOf_append (L M : List Lin.V) : cellsOf (L ++ M) = cellsOf L ++ cellsOf M := by simp [cellsOf]
theorem cellsOf_one (v : Lin.V) : cellsOf [v] = vl v := by simp [cellsOf]
/-- A slice of vectors that the call has made, in blocks from base on. -/
def Ow (base : Nat) (w : World) (s : Value) (L : List Lin.V) : Prop := w.ownsRow base 146 40 s L.length (cellsOf L)
theorem Ow.nil (base : Nat) (w : World) : Ow base w (.slice none 0 0) [] := ⟨rfl, Or.inl ⟨rfl, rfl⟩⟩
theorem Ow.below {base : Nat} {w w' : World} {s : Value} {L : List Lin.V} (h : Ow base w s L) (hb : Below w.heap.size w w') : Ow base w' s L := owns_below h hb
theorem Ow.vs {base : Nat} {w : World} {s : Value} {L : List Lin.V} (h : Ow base w s L) : Vs base w s L := by
  obtain ⟨_, h2⟩ := h
  rcases h2 with ⟨hs, h0⟩ | ⟨g, cap, cur, hs, hg, hb, hn, _, hcur, ht⟩
  · exact Or.inl ⟨List.eq_nil_of_length_eq_zero h0, none, 0, by rw [hs]⟩
  · by_cases h0 : L.length = 0
    · exact Or.inl ⟨List.eq_nil_of_length_eq_zero h0, _, cap, by rw [hs, h0]⟩
    · refine Or.inr ⟨g, 0, cap, hs, hg, by omega, fun k hk j u hu => ?_⟩
      have hj : j < 40 := by have := (List.getElem?_eq_some_iff.1 hu).1; rwa [vl_length] at this
      rw [vl_get _ hj] at hu
      rw [cell_of_row _ _ _ _ _ _ hb, Nat.zero_add]
      have h1 := cellsOf_at hk hj
      rw [← ht, List.getElem?_take] at h1
      have h2 : k * 40 + j < L.length * 40 := by
        have : (k + 1) * 40 ≤ L.length * 40 := Nat.mul_le_mul_right 40 hk
        omega
      rw [if_pos h2] at h1
      rw [← hu, ← h1]
      simp
theorem Ow.shape {base : Nat} {w : World} {s : Value} {L : List Lin.V} (h : Ow base w s L) : ∃ ad cap, s = .slice ad L.length cap := h.vs.shape

theorem Try.infoVz : (Try.prog.info? 146).map (fun i => (i.zero, i.size, i.bytes)) = some (some (.agg zl.toArray), 40, 320) := by kernel_rfl
section
variable {ops : Array Oper} {rest : List Oper} {o : Oper} {a : Act} {w : World} {Q : Exit → Act → World → Prop}
/-- A slice of one vector, as append is handed it. -/
structure OneV (w W : World) (v : Lin.V) : Prop where
  below : Below w.heap.size w W
  size : W.heap.size = w.heap.size + 1
  at' : At W w.heap.size 0 v
  block : W.heap[w.heap.size]? = some (.cells (vl v).toArray 146)
set_option maxRecDepth 100000 in
theorem builtOne (v : Lin.V) : Try.prog.builtSlice 146 1 [(0, .agg (vl v).toArray)] = some (vl v).toArray := by kernel_rfl
set_option maxRecDepth 100000 in
theorem buildZ_run (ρ : Operand → Value) (o : Oper) (w : World) : (execOp ρ { o with op := .build 146 #[] }).run Try.prog w = .ok (.value (.agg (vl Lin.zv).toArray)) w := by kernel_rfl
theorem wpList_buildZ (hg : o.guard = none) (dst : Option Tmp) (hdst : o.dst = dst) (ho : o.op = .build 146 #[]) (h : wpList Try.prog ops Q rest (a.put dst (.agg (vl Lin.zv).toArray)) w) : wpList Try.prog ops Q (o :: rest) a w := by
  refine Great.wpList_runTo hg dst hdst _ _ ?_ h
  have := buildZ_run a.eval o w
  rw [← ho] at this
  exact this
end
theorem heq_run (v : Lin.V) (w : World) : (binOp .eql 146 (.agg (vl v).toArray) (.agg (vl Lin.zv).toArray)).run Try.prog w = .ok (.bool (decide (toL 40 v = toL 40 Lin.zv))) w :=
  run_eql_ints w (toL 40 v) (toL 40 Lin.zv) Try.underlyingV Try.underlying2 Try.infoI1 (toL_length _ _) (toL_length _ _)
theorem heq_yes (w : World) : (binOp .eql 146 (.agg (vl Lin.zv).toArray) (.agg (vl Lin.zv).toArray)).run Try.prog w = .ok (.bool true) w := by rw [heq_run, decide_eq_true rfl]
theorem heq_no {v : Lin.V} (hw : Lin.Wd 40 v) (hne : v ≠ Lin.zv) (w : World) : (binOp .eql 146 (.agg (vl v).toArray) (.agg (vl Lin.zv).toArray)).run Try.prog w = .ok (.bool false) w := by
  rw [heq_run, decide_eq_false (fun e => hne (toL_inj hw (Lin.zv_wd 40) e))]
end Go.Proofs.Ytiokagnolbddlaa

namespace Go.Proofs.Ytiokagnolbddlaa
open Go.RowKit

def VsR (P : List Lin.V → Prop) (w : World) (e : Ending) (w' : World) : Prop := ∃ s L, e = .returned s ∧ Below w.heap.size w w' ∧ Ow w.heap.size w' s L ∧ P L

theorem NewV.put {w W : World} (h : NewV w W) (v : Lin.V) : Below w.heap.size w (W.setCells w.heap.size 0 (vl v)) ∧ At (W.setCells w.heap.size 0 (vl v)) w.heap.size 0 v ∧ (W.setCells w.heap.size 0 (vl v)).heap.size = w.heap.size + 1 := by
  refine ⟨below_setCells _ (Nat.le_refl _) _ _ _ h.below, at_setCells _ _ _ _ h.there, ?_⟩
  have key : ∀ (vs : List Value) (o : Nat) (W : World), (W.setCells w.heap.size o vs).heap.size = W.heap.size := by
    intro vs
    induction vs with
    | nil => intro o W; rfl
    | cons x vs ih => intro o W; rw [World.setCells, ih]; simp
  rw [key, h.size]
theorem At.grown {w w' : World} {b o : Nat} {v : Lin.V} {row : Option Nat} (h : At w b o v) (hg : w.grownBy w' row) (hne : some b ≠ row) : At w' b o v := fun j u hu => by
  rw [World.cell?_of_block (w := w) (a := ⟨b, o + j, none⟩) (hg.block b h.lt hne)]
  exact h j u hu
theorem Ow.grown {base : Nat} {w w' : World} {s : Value} {L : List Lin.V} {row : Option Nat} (h : Ow base w s L) (hg : w.grownBy w' row) (hne : s.ownBlock = none ∨ s.ownBlock ≠ row) : Ow base w' s L := by
  refine ⟨h.1, ?_⟩
  rcases h.2 with h2 | ⟨g, cap, cur, hv, hgb, hh, r⟩
  · exact Or.inl h2
  · refine Or.inr ⟨g, cap, cur, hv, hgb, ?_, r⟩
    rw [hg.block g (Array.getElem?_eq_some_iff.1 hh).1 (by
      rw [hv] at hne
      simpa [Value.ownBlock] using hne)]
    exact hh
/-- The map's block is no row of vectors. -/
theorem seen_apart {w : World} {b n base : Nat} {M L : List Lin.V} {s : Value} (h : Seen w b n M) (ho : Ow base w s L) : some b ≠ s.ownBlock := by
  obtain ⟨D, ⟨es, clock, h1, _⟩, _⟩ := h
  rcases ho.2 with ⟨rfl, _⟩ | ⟨g, cap, cur, rfl, _, hh, _⟩
  · simp [Value.ownBlock]
  · intro e
    simp [Value.ownBlock] at e
    subst e
    rw [h1] at hh
    cases hh

end Go.Proofs.Ytiokagnolbddlaa

namespace Go.Proofs.Ytiokagnolbddlaa
open Go.RowKit

theorem ins_room {A X : List Value} {k d m : Nat} (hX : X.length = d) (hk : k ≤ m) (hm : m + d ≤ A.length) :
    ((A.take (k + d) ++ (A.take m).drop k ++ A.drop (m + d)).take k ++ X ++ (A.take (k + d) ++ (A.take m).drop k ++ A.drop (m + d)).drop (k + d)).take (m + d) = (A.take m).take k ++ (X ++ (A.take m).drop k) := by
  have h1 : (A.take (k + d)).length = k + d := by rw [List.length_take]; omega
  have h2 : (A.take (k + d) ++ (A.take m).drop k ++ A.drop (m + d)).take k = A.take k := by
    rw [List.append_assoc, List.take_append_of_le_length (by omega), List.take_take, Nat.min_eq_left (by omega)]
  have h3 : (A.take (k + d) ++ (A.take m).drop k ++ A.drop (m + d)).drop (k + d) = (A.take m).drop k ++ A.drop (m + d) := by
    rw [List.append_assoc, List.drop_append_of_le_length (by omega), List.drop_of_length_le (by omega), List.nil_append]
  rw [h2, h3, ← List.append_assoc, List.take_append_of_le_length (by simp; omega), List.take_of_length_le (by simp; omega), List.take_take, Nat.min_eq_left hk, List.append_assoc]
theorem ins_grow {R X Y : List Value} {k d m : Nat} (hX : X.length = d) (hY : Y.length = m - k) (hk : k ≤ m) (hm : m + d ≤ R.length) :
    ((R.take k ++ X ++ R.drop (k + d)).take (k + d) ++ Y ++ (R.take k ++ X ++ R.drop (k + d)).drop (m + d)).take (m + d) = R.take k ++ (X ++ Y) := by
  have h1 : (R.take k ++ X ++ R.drop (k + d)).take (k + d) = R.take k ++ X := by
    rw [List.take_append_of_le_length (by simp; omega), List.take_of_length_le (by simp; omega)]
  rw [h1, List.take_append_of_le_length (by simp; omega), List.take_of_length_le (by simp; omega), List.append_assoc]
theorem cellsOf_cons (v : Lin.V) (L : List Lin.V) : cellsOf (v :: L) = vl v ++ cellsOf L := by simp [cellsOf]
theorem cellsOf_take (L : List Lin.V) : ∀ i, cellsOf (L.take i) = (cellsOf L).take (i * 40) := by
  induction L with
  | nil => intro i; simp [cellsOf]
  | cons v L ih =>
    intro i
    cases i with
    | zero => simp [cellsOf]
    | succ i =>
      rw [List.take_succ_cons, cellsOf_cons, cellsOf_cons, ih, List.take_append, vl_length, List.take_of_length_le (l := vl v) (by rw [vl_length]; omega), show (i + 1) * 40 - 40 = i * 40 by omega]
theorem cellsOf_drop (L : List Lin.V) : ∀ i, cellsOf (L.drop i) = (cellsOf L).drop (i * 40) := by
  induction L with
  | nil => intro i; simp [cellsOf]
  | cons v L ih =>
    intro i
    cases i with
    | zero => simp
    | succ i =>
      rw [List.drop_succ_cons, cellsOf_cons, ih, List.drop_append, vl_length, List.drop_of_length_le (l := vl v) (by rw [vl_length]; omega), show (i + 1) * 40 - 40 = i * 40 by omega, List.nil_append]
theorem cellsOf_ins (L : List Lin.V) (u : Lin.V) (i : Nat) : cellsOf (L.take i ++ u :: L.drop i) = (cellsOf L).take (i * 40) ++ (vl u ++ (cellsOf L).drop (i * 40)) := by
  rw [cellsOf_append, cellsOf_cons, cellsOf_take, cellsOf_drop]
theorem cellsOf_one' (L : List Lin.V) : ∀ u ∈ cellsOf L, u.oneCell' = true := fun u hu => by
  obtain ⟨v, _, h⟩ := List.mem_flatMap.1 hu
  exact vl_one v u h

theorem wpList_copy_run {ops : Array Oper} {rest : List Oper} {o : Oper} {a : Act} {w : World} {Q : Exit → Act → World → Prop} {P : Program} (hgd : o.guard = none) (d s : Operand) (t t' : TypeId)
    (ho : o.op = .call { callee := .builtin .copy, args := #[d, s], argTypes := #[t, t'] }) (v u : Value) (hd : a.eval d = v) (hs : a.eval s = u) {v' : Value} {w' : World}
    (hr : (Builtin.copy_ #[t, t'] o.type #[v, u]).run P w = .ok v' w') (h : wpList P ops Q rest (a.put o.dst v') w') : wpList P ops Q (o :: rest) a w :=
  wpList_plain hgd fun K hK => by
    unfold Oper.wp execOp
    simp only [ho, resolve, invoke, builtin, Sem.run_bind, Sem.run_pure, Result.andThen_ok, List.map_toArray, List.map_cons, List.map_nil, hd, hs, hr]
    exact hK _ _ h
theorem step_copy_run {P : Program} {ops : Array Oper} {o : Oper} {a : Act} {w : World} {K : Act → World → Prop} {Q : Exit → Act → World → Prop} {E : Prop}
    (hg : o.guard = none) (d x : Operand) (dT sT : TypeId) (hop : o.op = Op.call { callee := Callee.builtin Builtin.copy, args := #[d, x], argTypes := #[dT, sT] })
    (v u : Value) (hd : a.eval d = v) (hx : a.eval x = u) {v' : Value} {w' : World} (hr : (Builtin.copy_ #[dT, sT] o.type #[v, u]).run P w = .ok v' w') (hK : K (a.put o.dst v') w') :
    if Region.wanted o (yielded ops a.tmps) = true then Oper.wp P o a w K Q else E := by
  have hw : Region.wanted o (yielded ops a.tmps) = true := by simp [Region.wanted, hg]
  rw [if_pos hw]
  unfold Oper.wp
  simp [execOp, hop, resolve, invoke, builtin, hd, hx, hr, Result.andThen]
  exact hK

def InsR (base : Nat) (s : Value) (L : List Lin.V) (w : World) (e : Ending) (w' : World) : Prop := ∃ s', e = .returned s' ∧ Ow base w' s' L ∧ w.grownBy w' s.ownBlock

end Go.Proofs.Ytiokagnolbddlaa

namespace Go.Proofs.Ytiokagnolbddlaa
open Go.RowKit

theorem block_setCell' {w : World} {g i : Nat} {cs : Array Value} {t : TypeId} {fr : Nat × Nat} (h : w.heap[g]? = some (.cells cs t fr)) (v : Value) : (w.setCell ⟨g, i, none⟩ v).heap[g]? = some (.cells (cs.setIfInBounds i v) t fr) := by
  rw [setCell_eq_setRow w g i cs t fr v h]
  exact setRow_heap w g _ _ t _ h
theorem setCells_row (g : Nat) (t : TypeId) (fr : Nat × Nat) : ∀ (vs : List Value) (o : Nat) (cur : Array Value) (w : World), w.heap[g]? = some (.cells cur t fr) → o + vs.length ≤ cur.size →
    (w.setCells g o vs).heap[g]? = some (.cells (cur.toList.take o ++ vs ++ cur.toList.drop (o + vs.length)).toArray t fr)
  | [], o, cur, w, h, _ => by simpa [World.setCells] using h
  | v :: rest, o, cur, w, h, hl => by
    have ih := setCells_row g t fr rest (o + 1) (cur.setIfInBounds o v) (w.setCell ⟨g, o, none⟩ v) (block_setCell' h v) (by simp at hl ⊢; omega)
    rw [World.setCells, ih]
    congr 3
    have e := list_seg_step cur.toList o v rest (by simp at hl ⊢; omega)
    simpa [Array.toList_setIfInBounds] using e
theorem setCells_other (g k : Nat) (h : k ≠ g) : ∀ (vs : List Value) (o : Nat) (w : World), (w.setCells g o vs).heap[k]? = w.heap[k]?
  | [], _, _ => rfl
  | v :: rest, o, w => by
    rw [World.setCells, setCells_other g k h rest (o + 1)]
    exact Below.heap_setCell w ⟨g, o, none⟩ v k h
theorem setCells_rest (g : Nat) : ∀ (vs : List Value) (o : Nat) (w : World), (w.setCells g o vs).os = w.os ∧ (w.setCells g o vs).tape = w.tape ∧ (w.setCells g o vs).output = w.output ∧ (w.setCells g o vs).heap.size = w.heap.size
  | [], _, _ => ⟨rfl, rfl, rfl, rfl⟩
  | v :: rest, o, w => by
    rw [World.setCells]
    obtain ⟨h1, h2, h3, h4⟩ := setCells_rest g rest (o + 1) (w.setCell ⟨g, o, none⟩ v)
    exact ⟨h1, h2, h3, h4.trans (by simp [World.setCell])⟩
theorem grown_setCells (w : World) (g o : Nat) (vs : List Value) : w.grownBy (w.setCells g o vs) (some g) := by
  obtain ⟨h1, h2, h3, h4⟩ := setCells_rest g vs o w
  exact ⟨h1, h2, h3, by omega, fun k _ hne => setCells_other g k (fun e => hne (by rw [e])) vs o w⟩
theorem grown_trans {a b c : World} {row : Option Nat} (h : a.grownBy b row) (k : b.grownBy c row) : a.grownBy c row :=
  ⟨k.os.trans h.os, k.tape.trans h.tape, k.output.trans h.output, Nat.le_trans h.size k.size, fun i hi hne => (k.block i (Nat.lt_of_lt_of_le hi h.size) hne).trans (h.block i hi hne)⟩
theorem grown_refl (w : World) (row : Option Nat) : w.grownBy w row := ⟨rfl, rfl, rfl, Nat.le_refl _, fun _ _ _ => rfl⟩
theorem grown_below {a b c : World} {row : Option Nat} (h : a.grownBy b row) (k : Below b.heap.size b c) : a.grownBy c row :=
  ⟨k.os.trans h.os, k.tape.trans h.tape, k.output.trans h.output, Nat.le_trans h.size k.size, fun i hi hne => (k.block i (Nat.lt_of_lt_of_le hi h.size)).trans (h.block i hi hne)⟩
theorem below_grown {a b c : World} {row : Option Nat} (h : Below a.heap.size a b) (k : b.grownBy c row) : a.grownBy c row :=
  ⟨k.os.trans h.os, k.tape.trans h.tape, k.output.trans h.output, Nat.le_trans h.size k.size, fun i hi hne => (k.block i (Nat.lt_of_lt_of_le hi h.size) hne).trans (h.block i hi)⟩

/-- An owned slice of vectors that is not empty. -/
structure Ox (base : Nat) (w : World) (g cap : Nat) (L : List Lin.V) : Prop where
  lo : base ≤ g
  own : Ow base w (.slice (some ⟨g, 0, none⟩) L.length cap) L
theorem Ox.lt {base : Nat} {w : World} {g cap : Nat} {L : List Lin.V} (h : Ox base w g cap L) : g < w.heap.size := by
  rcases h.own.2 with ⟨h0, _⟩ | ⟨g', c', cur, hv, _, hh, _⟩
  · cases h0
  · injection hv with e1 _ _
    injection e1 with e1
    injection e1 with e1
    subst e1
    exact (Array.getElem?_eq_some_iff.1 hh).1
theorem Ox.at' {base : Nat} {w : World} {g cap : Nat} {L : List Lin.V} (h : Ox base w g cap L) {k : Nat} (hk : k < L.length) : At w g (k * 40) L[k] := by
  rcases h.own.vs with ⟨h0, _⟩ | ⟨b, o, c, hv, _, _, hc⟩
  · rw [h0] at hk; exact absurd hk (Nat.not_lt_zero _)
  · injection hv with e1 _ _
    injection e1 with e1
    injection e1 with e1 e2
    subst e1 e2
    have := hc k hk
    rwa [Nat.zero_add] at this
theorem Ox.below {base : Nat} {w w' : World} {g cap : Nat} {L : List Lin.V} (h : Ox base w g cap L) (hb : Below w.heap.size w w') : Ox base w' g cap L := ⟨h.lo, h.own.below hb⟩
theorem cellsOf_set {L : List Lin.V} {k : Nat} (hk : k < L.length) (x : Lin.V) : cellsOf (L.set k x) = (cellsOf L).take (k * 40) ++ vl x ++ (cellsOf L).drop (k * 40 + 40) := by
  rw [List.set_eq_take_append_cons_drop, if_pos hk, cellsOf_append, cellsOf_cons, cellsOf_take, cellsOf_drop, show (k + 1) * 40 = k * 40 + 40 by omega, List.append_assoc]
theorem Ox.put {base : Nat} {w : World} {g cap : Nat} {L : List Lin.V} (h : Ox base w g cap L) {k : Nat} (hk : k < L.length) (x : Lin.V) : Ox base (w.setCells g (k * 40) (vl x)) g cap (L.set k x) ∧ w.there g (k * 40) 40 := by
  rcases h.own.2 with ⟨h0, _⟩ | ⟨g', c', cur, hv, hlo, hh, hnc, hcm, hcs, htk⟩
  · cases h0
  · injection hv with e1 _ e3
    injection e1 with e1
    injection e1 with e1
    subst e1 e3
    have hkc : k * 40 + 40 ≤ cap * 40 := by
      have : (k + 1) * 40 ≤ cap * 40 := Nat.mul_le_mul_right 40 (by omega)
      omega
    have hb := setCells_row g 146 (0, 0) (vl x) (k * 40) cur w hh (by rw [vl_length, hcs]; exact hkc)
    refine ⟨⟨h.lo, ⟨cellsOf_length _, Or.inr ⟨g, cap, _, rfl, hlo, hb, by simpa using hnc, hcm, ?_, ?_⟩⟩⟩, fun j hj => ⟨?_, by simp [World.frozen?, hh]⟩⟩
    · have hsz : cur.toList.length = cap * 40 := by simpa using hcs
      simp only [List.size_toArray, List.length_append, List.length_take, List.length_drop, vl_length, hsz]
      omega
    · rw [cellsOf_set hk, ← htk]
      have hkn : k * 40 + 40 ≤ L.length * 40 := by
        have : (k + 1) * 40 ≤ L.length * 40 := Nat.mul_le_mul_right 40 hk
        omega
      have hnc' : L.length * 40 ≤ cap * 40 := Nat.mul_le_mul_right 40 hnc
      have hsz : cur.toList.length = cap * 40 := by simpa using hcs
      rw [List.length_set, vl_length, List.take_take, Nat.min_eq_left (by omega), List.drop_take]
      simp only [List.append_assoc]
      rw [List.take_append, List.take_append, List.length_take, vl_length, hsz, Nat.min_eq_left (by omega), List.take_of_length_le (l := cur.toList.take (k * 40)) (by rw [List.length_take]; omega), List.take_of_length_le (l := vl x) (by rw [vl_length]; omega),
        show L.length * 40 - k * 40 - 40 = L.length * 40 - (k * 40 + 40) by omega]
    · rw [cell_of_row _ _ _ _ _ _ hh, Array.getElem?_eq_getElem (by rw [hcs]; omega)]
      rfl
theorem Ow.cases {base : Nat} {w : World} {s : Value} {L : List Lin.V} (h : Ow base w s L) {C : Prop} (h0 : s = .slice none 0 0 → L = [] → C) (h1 : ∀ g cap, s = .slice (some ⟨g, 0, none⟩) L.length cap → Ox base w g cap L → C) : C := by
  rcases h.2 with ⟨hs, hl⟩ | ⟨g, cap, cur, hs, hlo, r⟩
  · exact h0 hs (List.eq_nil_of_length_eq_zero hl)
  · exact h1 g cap hs ⟨hlo, by rw [← hs]; exact h⟩
/-- The rows, the first k of them cleared at the new row's lead. -/
noncomputable def clr (p : Int) (u : Lin.V) (x : Lin.V) : Lin.V := Lin.add p x (-(x (Lin.ld u))) u
noncomputable def part (p : Int) (u : Lin.V) (L : List Lin.V) (k : Nat) : List Lin.V := (L.take k).map (clr p u) ++ L.drop k
theorem part_length (p : Int) (u : Lin.V) (L : List Lin.V) (k : Nat) : (part p u L k).length = L.length := by simp [part]; omega
theorem part_get (p : Int) (u : Lin.V) (L : List Lin.V) {k : Nat} (hk : k < L.length) : (part p u L k)[k]'(by rw [part_length]; exact hk) = L[k] := by
  have hl : ((L.take k).map (clr p u)).length = k := by simp; omega
  simp only [part]
  rw [List.getElem_append_right (by omega)]
  simp only [hl, Nat.sub_self, List.getElem_drop, Nat.add_zero]
theorem part_set (p : Int) (u : Lin.V) (L : List Lin.V) {k : Nat} (hk : k < L.length) : (part p u L k).set k (clr p u L[k]) = part p u L (k + 1) := by
  have hl : ((L.take k).map (clr p u)).length = k := by simp; omega
  unfold part
  rw [List.set_append_right _ _ (by omega), hl, Nat.sub_self, List.drop_eq_getElem_cons hk, List.set_cons_zero, List.take_succ_eq_append_getElem hk, List.map_append, List.append_assoc]
  rfl

def InrR (p : Int) (base : Nat) (s : Value) (L : List Lin.V) (u : Lin.V) (w : World) (e : Ending) (w' : World) : Prop :=
  ∃ s' k, e = .returned s' ∧ Ow base w' s' (Lin.put p L k u) ∧ w.grownBy w' s.ownBlock ∧ k ≤ L.length ∧ (∀ x ∈ L.take k, Lin.ld x < Lin.ld u) ∧ ∀ x ∈ L.drop k, ¬ Lin.ld x < Lin.ld u

end Go.Proofs.Ytiokagnolbddlaa

namespace Go.Proofs.Ytiokagnolbddlaa
open Go.RowKit

/-- A reduced list that a call is gathering, a vector in a box of its own. -/
structure Inn (w1 W : World) (sv : Value) (R : List Lin.V) (vb : Nat) (r : Lin.V) : Prop where
  below : Below w1.heap.size w1 W
  own : Ow w1.heap.size W sv R
  lo : w1.heap.size ≤ vb
  at' : At W vb 0 r
  there : W.there vb 0 40
  ne : some vb ≠ sv.ownBlock
theorem Inn.next {w1 W W' : World} {sv : Value} {R : List Lin.V} {vb : Nat} {r : Lin.V} (h : Inn w1 W sv R vb r) (hb : Below W.heap.size W W') : Inn w1 W' sv R vb r :=
  ⟨h.below.trans (hb.mono h.below.size), h.own.below hb, h.lo, h.at'.later hb, there_below h.there hb h.at'.lt, h.ne⟩
theorem Inn.put {w1 W : World} {sv : Value} {R : List Lin.V} {vb : Nat} {r : Lin.V} (h : Inn w1 W sv R vb r) (x : Lin.V) : Inn w1 (W.setCells vb 0 (vl x)) sv R vb x :=
  ⟨below_setCells _ h.lo _ _ _ h.below, h.own.grown (grown_setCells W vb 0 (vl x)) (Or.inr h.ne.symm), h.lo, at_setCells _ _ _ _ h.there, World.there_setCells h.there _ _ _, h.ne⟩
theorem Ow.apart {base : Nat} {w : World} {s : Value} {L : List Lin.V} (h : Ow base w s L) {b : Nat} (hb : w.heap.size ≤ b) : some b ≠ s.ownBlock := fun e => by
  have := ((World.ownsRow.lt h) b e.symm).1
  have := ((World.ownsRow.lt h) b e.symm).2
  omega

/-- What a reduced list has to do with a list. -/
structure RedOf (p : Int) (R T : List Lin.V) : Prop where
  red : Lin.Red p R
  wd : ∀ u ∈ R, Lin.Wd 40 u
  eqv : Lin.Eqv p R T
theorem RedOf.nil (p : Int) : RedOf p [] [] := ⟨Lin.Red.nil p, by simp, Lin.Eqv.refl _ _⟩
theorem RedOf.skip {p : Int} (hp : 0 < p) {R T : List Lin.V} (h : RedOf p R T) {v : Lin.V} (hT : ∀ w ∈ T, Lin.Md p w) (hv : Lin.Md p v) (hr : Lin.Rest p R v R.length Lin.zv) : RedOf p R (T ++ [v]) :=
  ⟨h.red, h.wd, Lin.skip_eqv hp h.red hT hv h.eqv hr⟩
theorem RedOf.put {p : Int} (hp : 1 < p) {R T : List Lin.V} (h : RedOf p R T) {v r u : Lin.V} {k : Nat} (hT : ∀ w ∈ T, Lin.Md p w) (hv : Lin.Md p v) (hr : Lin.Rest p R v R.length r) (hne : r ≠ Lin.zv) (hu : Lin.Unit p r u) (huw : Lin.Wd 40 u) (hk : k ≤ R.length)
    (hlo : ∀ w ∈ R.take k, Lin.ld w < Lin.ld u) (hhi : ∀ w ∈ R.drop k, ¬ Lin.ld w < Lin.ld u) : RedOf p (Lin.put p R k u) (T ++ [v]) := by
  have hf := Lin.fits_of hr hne hu hk hlo hhi
  refine ⟨hf.red hp h.red, fun x hx => ?_, Lin.put_eqv hp h.red hT hv h.eqv hr hu hf⟩
  rcases Lin.put_mem.1 hx with rfl | ⟨y, hy, rfl⟩
  · exact huw
  · exact Lin.add_wd _ (h.wd y hy) huw
theorem put_length (p : Int) (R : List Lin.V) (k : Nat) (u : Lin.V) (hk : k ≤ R.length) : (Lin.put p R k u).length = R.length + 1 := by simp [Lin.put]; omega

end Go.Proofs.Ytiokagnolbddlaa
