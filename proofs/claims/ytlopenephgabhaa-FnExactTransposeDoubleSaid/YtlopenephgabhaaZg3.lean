/-
  Texts that ProofTzl needs, part 3.
-/
import Derived.Test.YtlopenephgabhaaZg2
import Derived.RangeFuncNested
import Derived.RangeFuncBound
import Derived.RangeFuncCalls
import Derived.RangeFuncLeaves
import Derived.Shelf.Abstract
import Derived.WalkKit
import Derived.OwnWalkIn
import Derived.TacticsInMore
import Derived.LoopNIn
import Derived.LoopIn
import Derived.OrdersIn
import Derived.OrdersHeld
import Derived.Lib.AppendZerosOnto
import Derived.Deep.RegionHeld3
import Derived.Maps.AppendAt
import Derived.Laws.EntriesVeiled
namespace Go.Proofs.Ytlopenephgabhaa
open Go.RowKit Go.Shelf
attribute [local go_sem] Oper.semAt_some

/-- The cells of a column, and those of the first columns. -/
def rowCells (dims : List (List Int)) (i : Nat) : List (Nat × Nat) := (List.range (dims.getD i []).length).map fun j => (i, j)
def cellsTo (dims : List (List Int)) (i : Nat) : List (Nat × Nat) := (List.range i).flatMap (rowCells dims)
theorem cellsTo_succ (dims : List (List Int)) (i : Nat) : cellsTo dims (i + 1) = cellsTo dims i ++ rowCells dims i := by simp [cellsTo, List.range_succ]
def cellsAt (dims : List (List Int)) (i j : Nat) : List (Nat × Nat) := cellsTo dims i ++ (List.range j).map fun b => (i, b)
theorem cellsAt_zero (dims : List (List Int)) (i : Nat) : cellsAt dims i 0 = cellsTo dims i := by simp [cellsAt]
theorem cellsAt_succ (dims : List (List Int)) (i j : Nat) : cellsAt dims i (j + 1) = cellsAt dims i j ++ [(i, j)] := by simp [cellsAt, List.range_succ, List.append_assoc]
theorem cellsAt_full (dims : List (List Int)) (i : Nat) : cellsAt dims i (dims.getD i []).length = cellsTo dims (i + 1) := by rw [cellsTo_succ]; rfl
theorem cellsTo_pre (dims : List (List Int)) {i n : Nat} (h : i ≤ n) : cellsTo dims i <+: cellsTo dims n := by
  induction n with
  | zero => rw [show i = 0 by omega]; exact List.prefix_refl _
  | succ n ih =>
    by_cases e : i = n + 1
    · rw [e]; exact List.prefix_refl _
    · rw [cellsTo_succ]
      exact (ih (by omega)).trans (List.prefix_append _ _)
theorem cellsAt_pre (dims : List (List Int)) {i j n : Nat} (h : i < n) (hj : j ≤ (dims.getD i []).length) : cellsAt dims i j <+: cellsTo dims n := by
  refine List.IsPrefix.trans ?_ (cellsTo_pre dims (show i + 1 ≤ n by omega))
  rw [cellsTo_succ]
  refine List.prefix_append_right_inj _ |>.2 ?_
  unfold rowCells
  obtain ⟨d, hd⟩ : ∃ d, (dims.getD i []).length = j + d := ⟨(dims.getD i []).length - j, by omega⟩
  rw [hd, List.range_add, List.map_append]
  exact List.prefix_append _ _
set_option maxRecDepth 100000 in
set_option maxHeartbeats 4000000 in
/-- The closure of cellsOf, for every loop body that keeps what lay below n0. -/
theorem cells1_in (Fe : Fence) (n : Nat) (hf : Fe.fn 118) (hro : Fe.round = none) (hn : 1 ≤ n) (l Bs : Nat) (Kp : World → World → Prop) (hKr : ∀ W, Kp W W) (hKt : ∀ {A B C : World}, Kp A B → Kp B C → Kp A C) (dv : Value) (dims : List (List Int)) (hl1 : dims.length ≤ 1048576) (hl2 : ∀ r ∈ dims, r.length ≤ 1048576) (J Jx : List (Nat × Nat) → World → Prop)
    (hY : ∀ pre x W, J pre W → pre ++ [x] <+: cellsTo dims dims.length → YieldAt Fe (n - 1) Try.prog l #[.agg #[.int .i64 (x.1 : Int), .int .i64 (x.2 : Int)]] W fun e W' =>
      (e = .returned (.bool true) ∧ J (pre ++ [x]) W' ∧ Kp W W') ∨ (e = .returned (.bool false) ∧ Jx (pre ++ [x]) W'))
    (W : World) (hd : W.cell? ⟨Bs, 1, none⟩ = some dv) (hc : ∀ W', Kp W W' → L2 0 W' dv dims) (h0 : J [] W) :
    CallsIn Fe n Try.prog 118 #[.func (.yield l) #[] #[], .pointer (some ⟨Bs, 0, none⟩)] W fun e W' => (∃ v, e = .returned v) ∧
      ((∃ xs, xs = cellsTo dims dims.length ∧ J xs W') ∨ (∃ pre, pre <+: cellsTo dims dims.length ∧ Jx pre W')) := by
  obtain ⟨ad, cd, rfl⟩ := Sl.shape (hc W (hKr _))
  obtain ⟨m, hm⟩ : ∃ m, m = dims.length := ⟨_, rfl⟩
  rw [← hm] at hd hl1
  have HM := Lib.hid hm
  have HC := Lib.hid hc
  have HL2 := Lib.hid hl2
  clear hc hl2 hm
  refine callsIn_of_wp Try.func118 rfl hf ?_ hro
  simp only [Try.ntmps118, List.size_toArray, List.length_cons, List.length_nil, Nat.reduceAdd, Nat.reduceSub, Array.replicate_succ, Array.replicate_zero, List.push_toArray, List.append_toArray, List.nil_append, List.cons_append]
  gi_wp2
  gi_loopw [9] (fun i wr => ∃ k : Nat, k ≤ m ∧ i = .int .i64 k ∧ J (cellsTo dims k) wr ∧ Kp W wr) (fun i _ => m - (intOf i).toNat)
  case atStart => exact ⟨0, Nat.zero_le _, rfl, h0, hKr _⟩
  case round =>
    obtain ⟨k, hk, rfl, hJs, hnx⟩ := hrel
    by_cases hlt : k < m
    · have hlt' : k < dims.length := by rw [← HM.out]; exact hlt
      have hL := HC.out wr hnx
      rcases hL with ⟨hx, _⟩ | ⟨b, o, c2, hv, _, _, hcl⟩
      · rw [hx] at hlt'
        exact absurd hlt' (Nat.not_lt_zero _)
      injection hv with e1 e2 e3
      subst e1 e3
      obtain ⟨ur, hur, hrr⟩ := hcl k hlt'
      obtain ⟨ar, cr, hus⟩ := Sl.shape hrr
      subst hus
      obtain ⟨q0, hq0⟩ : ∃ q, q = (dims[k]).length := ⟨_, rfl⟩
      have HQ : Hid (q0 = (dims.getD k []).length) := Lib.hid (by rw [hq0]; simp [hlt'])
      have hq8 : q0 ≤ 1048576 := by rw [hq0]; exact HL2.out _ (List.getElem_mem hlt')
      rw [← hq0] at hur
      clear hcl hrr hq0 e2 hlt'
      gi_wp2
      gi_loopw [16] (fun j wr2 => ∃ q : Nat, q ≤ q0 ∧ j = .int .i64 q ∧ J (cellsAt dims k q) wr2 ∧ Kp W wr2) (fun j _ => q0 - (intOf j).toNat)
      case atStart => exact ⟨0, Nat.zero_le _, rfl, by rw [cellsAt_zero]; exact hJs, hnx⟩
      case round =>
        obtain ⟨q, hq, rfl, hJq, hnq⟩ := hrel
        by_cases hlq : q < q0
        · obtain ⟨fn, tmps, assign, body, hy, hR⟩ := hY _ (k, q) _ hJq (by rw [← cellsAt_succ, ← HM.out]; exact cellsAt_pre dims hlt (by rw [← HQ.out]; exact hlq))
          dsimp only at hy
          gi_wp2
          refine hR.mono ?_
          rintro e W3 (⟨rfl, hJ3, hk3⟩ | ⟨rfl, hJx3⟩)
          · gi_wp2
            go_roundw
            case rel => exact ⟨q + 1, by omega, by go_num, by rw [cellsAt_succ]; exact hJ3, hKt hnq hk3⟩
            case measure => simp [intOf]; omega
          · gi_wp2
            refine bodyPost_ret (results_none rfl _ _ _) rfl ?_
            exact ⟨⟨_, rfl⟩, .inr ⟨_, by rw [← cellsAt_succ, ← HM.out]; exact cellsAt_pre dims hlt (by rw [← HQ.out]; exact hlq), hJx3⟩⟩
        · obtain rfl : q = q0 := by omega
          rw [HQ.out, cellsAt_full] at hJq
          gi_wp2
          go_roundw
          case rel => exact ⟨k + 1, by omega, by go_num, hJq, hnq⟩
          case measure => simp [intOf]; omega
    · obtain rfl : k = m := by omega
      gi_wp2
      go_end0
      exact ⟨⟨_, rfl⟩, .inl ⟨_, by rw [HM.out], hJs⟩⟩

/-- The cells of the columns, as a type. -/
def CellIn (dims : List (List Int)) : Type := { c : Nat × Nat // c ∈ cellsTo dims dims.length }
def cellV {dims : List (List Int)} (x : CellIn dims) : Value := .agg #[.int .i64 (x.1.1 : Int), .int .i64 (x.1.2 : Int)]

/-- As the laws of a range want it. -/
theorem cells_stopsK (Fe : Fence) (n : Nat) (hf : Fe.fn 118) (hro : Fe.round = none) (hn : 1 ≤ n) (Bs : Nat) (dv : Value) (dims : List (List Int)) (hl1 : dims.length ≤ 1048576) (hl2 : ∀ r ∈ dims, r.length ≤ 1048576) (Kp : World → World → Prop) (hKr : ∀ W, Kp W W) (hKt : ∀ {A B C : World}, Kp A B → Kp B C → Kp A C) (w : World)
    (hBs : Bs < w.heap.size) (hd : w.cell? ⟨Bs, 1, none⟩ = some dv) (hL : ∀ W W', Below w.heap.size w W → Kp W W' → L2 0 W' dv dims) :
    SeqStopsK Fe n Try.prog 118 #[.pointer (some ⟨Bs, 0, none⟩)] (fun x : CellIn dims => #[cellV x]) Kp (fun ys => ys.map (·.1) = cellsTo dims dims.length) (fun pre => pre.map (·.1) <+: cellsTo dims dims.length) (cellsTo dims dims.length).length w :=
  fun l J Jx W hW _ _ hY h0 => by
    refine (cells1_in Fe n hf hro hn l Bs Kp hKr hKt dv dims hl1 hl2 (fun pre W => ∃ ys : List (CellIn dims), ys.map (·.1) = pre ∧ J ys W) (fun pre W => ∃ ys : List (CellIn dims), ys.map (·.1) = pre ∧ Jx ys W) ?_ W ((hW.cell (p := ⟨Bs, 1, none⟩) hBs).trans hd)
      (fun W' hW' => hL W W' hW hW') ⟨[], rfl, h0⟩).mono ?_
    · rintro pre x W1 ⟨ys, rfl, hJ⟩ hpre
      have hmem : x ∈ cellsTo dims dims.length := hpre.subset (by simp)
      have hlen := hpre.length_le
      simp only [List.length_append, List.length_map, List.length_singleton] at hlen
      refine (hY ys ⟨x, hmem⟩ W1 hJ (by omega)).mono ?_
      rintro e W' (⟨he, hj, hk⟩ | ⟨he, hj⟩)
      · exact .inl ⟨he, ⟨_, by rw [List.map_append]; rfl, hj⟩, hk⟩
      · exact .inr ⟨he, ⟨_, by rw [List.map_append]; rfl, hj⟩⟩
    · rintro e W' ⟨hv, ⟨xs, rfl, ys, hy, hj⟩ | ⟨pre, hp, ys, rfl, hj⟩⟩
      · exact ⟨hv, .inl ⟨ys, hy, hj⟩⟩
      · exact ⟨hv, .inr ⟨ys, hp, hj⟩⟩
/-- As the laws of a range want it. -/
theorem cells_stops (Fe : Fence) (n : Nat) (hf : Fe.fn 118) (hro : Fe.round = none) (hn : 1 ≤ n) (Bs : Nat) (dv : Value) (dims : List (List Int)) (hl1 : dims.length ≤ 1048576) (hl2 : ∀ r ∈ dims, r.length ≤ 1048576) (w0 w : World)
    (hBs : Bs < w.heap.size) (hd : w.cell? ⟨Bs, 1, none⟩ = some dv) (hL : L2 0 w0 dv dims) (hb : Below w0.heap.size w0 w) :
    SeqStopsK Fe n Try.prog 118 #[.pointer (some ⟨Bs, 0, none⟩)] (fun x : CellIn dims => #[cellV x]) (Below w0.heap.size) (fun ys => ys.map (·.1) = cellsTo dims dims.length) (fun pre => pre.map (·.1) <+: cellsTo dims dims.length) (cellsTo dims dims.length).length w :=
  cells_stopsK Fe n hf hro hn Bs dv dims hl1 hl2 _ (fun W => Below.refl _ W) (fun h k => h.trans k) w hBs hd (fun _ _ hW hW' => hL.below ((hb.trans (hW.mono hb.size)).trans hW'))

/-- A range whose one variable is boxed in every round: the block's number is told. -/
theorem wpIn_rangeFunc_cell {P : Program} {F : Fence} {n : Nat} {α : Type} {g : Operand} {ps : Array Tmp} {assign body : Code} {Q : Exit → Act → World → Prop} {a : Act} {w : World}
    (hro : F.round = none) (h1 : 1 ≤ n) {gf : Nat} {lb : Array Value} (hg : a.eval g = .func (.func gf) #[] lb) (hFg : F.fn gf) (eg : ∀ args w, (callFunc gf args).run P w = .ok (.enter gf args) w)
    {encs : α → Array Value} {Kp : World → World → Prop} {S Sp : List α → Prop} {N : Nat} {w0 : World} (hseq : SeqStopsK F (n - 1) P gf lb encs Kp S Sp N w0)
    (hKt : ∀ {A B C : World}, Kp A B → Kp B C → Kp A C) (hKb : ∀ (W : World) (l : Nat) (o o' : Obj), w.heap.size ≤ l → W.heap[l]? = some o → o.isCells = false → o.isWalk = false → Kp W (W.putObj l o')) (hb0 : Below w0.heap.size w0 w) (hps : ∀ x, (encs x).size = ps.size)
    (I : List α → World → Prop) (Ix : Code → List α → World → Prop) (hI : OwnFrom w.heap.size I) (hIx : ∀ c, OwnFrom w.heap.size (Ix c)) (h0 : I [] w) (cv : α → Array Value) (tb : Tmp) (ty : TypeId) (D : Nat)
    (hassign : ∀ (l : Nat) (pre : List α) (x : α) (W : World) (K : Act → World → Prop), I pre W →
      (∀ Bx W', D ≤ Bx → W'.heap[Bx]? = some (.cells (cv x) ty (0, 0)) → KeepsFrom w.heap.size W W' → Kp W W' → I pre W' → K { tmps := ((ps.zip (encs x)).foldl (fun t (p, v) => t.setIfInBounds p v) a.tmps).setIfInBounds tb (.pointer (some ⟨Bx, 0, none⟩)), defers := [] } W') →
      assign.wpIn (F.inRound l) (n - 1 - 1) P (Exit.then K (fun _ _ _ => False)) { tmps := (ps.zip (encs x)).foldl (fun t (p, v) => t.setIfInBounds p v) a.tmps, defers := [] } W)
    (hbody : ∀ (l : Nat) (pre : List α) (x : α) (Bx : Nat) (W : World), w.heap.size ≤ l → (∃ r, W.heap[l]? = some (.loop r)) → I pre W → D ≤ Bx → W.heap[Bx]? = some (.cells (cv x) ty (0, 0)) → pre.length < N →
      body.wpIn (F.inRound l) (n - 1 - 1) P (ownPostG w.heap.size Kp I Ix (pre ++ [x]) W) { tmps := ((ps.zip (encs x)).foldl (fun t (p, v) => t.setIfInBounds p v) a.tmps).setIfInBounds tb (.pointer (some ⟨Bx, 0, none⟩)), defers := [] } W)
    (hdone : ∀ (D : Nat) (xs : List α) (W : World), w.heap.size ≤ D → S xs → I xs W → W.heap[D]? = some (.deferred (some [])) → Q .normal { a with defers := { target := .collected D, args := #[] } :: a.defers } W)
    (hstop : ∀ (D : Nat) (c : Code) (pre : List α) (W : World), w.heap.size ≤ D → Sp pre → Ix c pre W → W.heap[D]? = some (.deferred (some [])) → c.wpIn F n P Q { a with defers := { target := .collected D, args := #[] } :: a.defers } W) :
    (Code.rangeFunc g ps assign body).wpIn F n P Q a w :=
  wpIn_rangeFunc_ownH hro h1 hg hFg eg hseq hKt hKb hb0 hps I Ix hI hIx h0
    (fun x a' W => ∃ Bx, D ≤ Bx ∧ W.heap[Bx]? = some (.cells (cv x) ty (0, 0)) ∧ a' = { tmps := ((ps.zip (encs x)).foldl (fun t (p, v) => t.setIfInBounds p v) a.tmps).setIfInBounds tb (.pointer (some ⟨Bx, 0, none⟩)), defers := [] })
    (fun x a' _ X Y row hs hg hr => by
      obtain ⟨Bx, h1, h2, h3⟩ := hs
      refine ⟨Bx, h1, ?_, h3⟩
      exact (hg.block Bx (Array.getElem?_eq_some_iff.1 h2).1 (fun e => by obtain ⟨_, ho, hc⟩ := (hr Bx e.symm).2; rw [h2] at ho; cases ho; cases hc)).trans h2)
    (fun l pre x W K hi hK => hassign l pre x W K hi (fun Bx W' hD hX hkf hkp hi' => hK _ W' hkf hkp hi' ⟨Bx, hD, hX, rfl⟩))
    (fun l pre x a' W hl hr hi hax hlt => by
      obtain ⟨Bx, hD, hX, rfl⟩ := hax
      exact hbody l pre x Bx W hl hr hi hD hX hlt)
    hdone hstop
theorem keepsFrom_below {B : Nat} {W W' : World} (h : Below W.heap.size W W') : KeepsFrom B W W' := ⟨h.size, fun k _ _ hk _ => (h.block k (Array.getElem?_eq_some_iff.1 hk).1).trans hk⟩
theorem cells_fst {dims : List (List Int)} {i : Nat} {c : Nat × Nat} (h : c ∈ cellsTo dims i) : c.1 < i ∧ c.2 < (dims.getD c.1 []).length := by
  unfold cellsTo rowCells at h
  simp only [List.mem_flatMap, List.mem_range, List.mem_map] at h
  obtain ⟨k, hk, j, hj, rfl⟩ := h
  exact ⟨hk, hj⟩

set_option maxRecDepth 100000 in
theorem cellsOf_any (p : Int) (dv av vv : Value) (w : World) :
    Calls Try.prog 94 #[.agg #[.int .i64 p, dv, av, vv]] w fun e w' => e = .returned (.func (.func 118) #[] #[.pointer (some ⟨w.heap.size, 0, none⟩)]) ∧ w' = w.alloc (.cells #[.int .i64 p, dv, av, vv] 28) := by
  go_enter Try.func94, Try.ntmps94
  go_wp2
  go_ret
  exact ⟨rfl, rfl⟩
end Go.Proofs.Ytlopenephgabhaa


namespace Go.Proofs.Ytlopenephgabhaa
open Go.RowKit

section
variable {F : Fence} {n : Nat} {P : Program} {α : Type}

/-- The contract of an iterator that lays records and turns them: what lay as no cells at its call must be kept by the rounds, and the caller's word abides turns beyond the call. -/
def SeqO (F : Fence) (n : Nat) (P : Program) (g : Nat) (lb : Array Value) (encs : α → Array Value) (Kp : World → World → Prop) (S Sp : List α → Prop) (N : Nat) (w : World) : Prop :=
  ∀ (l : Nat) (J Jx : List α → World → Prop) (W : World), Below w.heap.size w W → OwnFrom W.heap.size J → OwnFrom W.heap.size Jx →
    (∀ pre x W1, J pre W1 → pre.length < N → YieldAt F (n - 1) P l (encs x) W1 fun e W' =>
      KeepsFrom W.heap.size W1 W' ∧ ((e = .returned (.bool true) ∧ J (pre ++ [x]) W' ∧ Kp W1 W') ∨ (e = .returned (.bool false) ∧ Jx (pre ++ [x]) W'))) →
    J [] W →
    CallsIn F n P g (#[.func (.yield l) #[] #[]] ++ lb) W fun e W' => (∃ v, e = .returned v) ∧ ((∃ xs, S xs ∧ J xs W') ∨ (∃ pre, Sp pre ∧ Jx pre W'))

theorem SeqO.inRound {g : Nat} {lb : Array Value} {encs : α → Array Value} {Kp : World → World → Prop} {S Sp : List α → Prop} {N : Nat} {w0 : World} (l : Nat) (h : SeqO F n P g lb encs Kp S Sp N w0) : SeqO (F.inRound l) n P g lb encs Kp S Sp N w0 := h

theorem keepsFrom_putObj {B l : Nat} (h : l < B) (W : World) (o : Obj) : KeepsFrom B W (W.putObj l o) :=
  ⟨by simp, fun _ _ hk h0 _ => (World.putObj_heap_other (by omega)).trans h0⟩
theorem kf_narrow {B B' : Nat} {W W' : World} (h : KeepsFrom B W W') (hb : B ≤ B') : KeepsFrom B' W W' := ⟨h.size, fun k o hk h0 ho => h.same k o (Nat.le_trans hb hk) h0 ho⟩
theorem ownFrom_at {β : Type} {B k : Nat} {o : Obj} (h : k < B) : OwnFrom B (fun (_ : β) W => W.heap[k]? = some o) := fun _ X _ _ hs hg hr =>
  (hg.block k (Array.getElem?_eq_some_iff.1 hs).1 (fun e => by have := (hr k e.symm).1; omega)).trans hs
theorem of_wide {β : Type} {B B' : Nat} {I : β → World → Prop} (h : OwnFrom B I) (hb : B ≤ B') : OwnFrom B' I := fun s W W' row hs hg hr => h s W W' row hs hg (fun r e => ⟨Nat.le_trans hb (hr r e).1, (hr r e).2⟩)

/-- A loop's record by its state. -/
def recO (fn : FuncId) (a : Act) (ps : Array Tmp) (assign body : Code) (df : Nat) (st : LoopState) (pe : Option Code) : Loop := { state := st, pending := pe, fn, tmps := a.tmps, params := ps, assign, body, defers := df }

/-- The statement, once the record's block is told. -/
theorem wpIn_range_core {g : Operand} {ps : Array Tmp} {assign body : Code} {Q : Exit → Act → World → Prop} {a : Act} {w W0 : World} {mark : List Deferred}
    (hlay : ∀ fn, ∃ df, (Instr.enterLoop fn a.tmps ps assign body F.round).run P w = .ok (W0.heap.size, mark) (W0.alloc (.loop (recO fn a ps assign body df .ready none))))
    (h1 : 1 ≤ n) {gf : Nat} {lb : Array Value} (hg : a.eval g = .func (.func gf) #[] lb) (hFg : F.fn gf) (eg : ∀ args w, (callFunc gf args).run P w = .ok (.enter gf args) w)
    {encs : α → Array Value} {Kp : World → World → Prop} {S Sp : List α → Prop} {N : Nat} {w0 : World} (hseq : SeqO F (n - 1) P gf lb encs Kp S Sp N w0)
    (hKt : ∀ {A B C : World}, Kp A B → Kp B C → Kp A C) (hKb : ∀ (W : World) (o o' : Obj), W.heap[W0.heap.size]? = some o → o.isCells = false → Kp W (W.putObj W0.heap.size o')) (hb0 : Below w0.heap.size w0 W0) (hps : ∀ x, (encs x).size = ps.size)
    (I : List α → World → Prop) (Ix : Code → List α → World → Prop) (hI : OwnFrom W0.heap.size I) (hIx : ∀ c, OwnFrom W0.heap.size (Ix c)) (h0 : I [] W0) (Ax : α → Act → World → Prop) (hAx : ∀ x a', OwnFrom W0.heap.size (fun (_ : Unit) W => Ax x a' W))
    (hassign : ∀ (pre : List α) (x : α) (W : World) (K : Act → World → Prop), I pre W → (∀ a' W', KeepsFrom W0.heap.size W W' → Kp W W' → I pre W' → Ax x a' W' → K a' W') →
      assign.wpIn (F.inRound W0.heap.size) (n - 1 - 1) P (Exit.then K (fun _ _ _ => False)) { tmps := (ps.zip (encs x)).foldl (fun t (p, v) => t.setIfInBounds p v) a.tmps, defers := [] } W)
    (hbody : ∀ (pre : List α) (x : α) (a' : Act) (W : World), (∃ r, W.heap[W0.heap.size]? = some (.loop r)) → I pre W → Ax x a' W → pre.length < N → body.wpIn (F.inRound W0.heap.size) (n - 1 - 1) P (ownPostG W0.heap.size Kp I Ix (pre ++ [x]) W) a' W)
    (hdone : ∀ (xs : List α) (W : World), S xs → I xs W → Q .normal { a with defers := mark ++ a.defers } W)
    (hstop : ∀ (c : Code) (pre : List α) (W : World), Sp pre → Ix c pre W → c.wpIn F n P Q { a with defers := mark ++ a.defers } W) :
    (Code.rangeFunc g ps assign body).wpIn F n P Q a w := by
  refine wpIn_rangeFunc fun fn hfn => ?_
  obtain ⟨df, he⟩ := hlay fn
  have hsz : (W0.alloc (.loop (recO fn a ps assign body df .ready none))).heap.size = W0.heap.size + 1 := by simp
  have hL : (W0.alloc (.loop (recO fn a ps assign body df .ready none))).heap[W0.heap.size]? = some (.loop (recO fn a ps assign body df .ready none)) := World.alloc_heap_new W0 _
  refine ⟨_, mark, _, { target := .fn (.func gf) lb, args := #[.func (.yield W0.heap.size) #[] #[]] }, W0.alloc (.loop (recO fn a ps assign body df .ready none)), gf, #[.func (.yield W0.heap.size) #[] #[]] ++ lb, W0.alloc (.loop (recO fn a ps assign body df .ready none)), he, ?_, ?_, ?_, fun _ => h1, ?_⟩
  · simp only [resolve, hg]
    simp [go_sem]
  · intro f' hf'
    simp [Target.leads] at hf'
    exact hf' ▸ hFg
  · simp [invoke, go_sem, eg]
  refine (hseq W0.heap.size (fun pre W => I pre W ∧ W.heap[W0.heap.size]? = some (.loop (recO fn a ps assign body df .ready none)))
    (fun pre W => ∃ c, Ix c pre W ∧ W.heap[W0.heap.size]? = some (.loop (recO fn a ps assign body df .done (some c)))) _
    (hb0.trans (((Below.refl _ W0).alloc (Nat.le_refl _) _).mono hb0.size))
    (OwnFrom.and (of_wide hI (by omega)) (ownFrom_at (by omega)))
    (fun s A B row ⟨c, hc, hl⟩ hgr hr => ⟨c, of_wide (hIx c) (by omega) s A B row hc hgr hr, ownFrom_at (β := Unit) (by omega) () A B row hl hgr hr⟩)
    ?_ ⟨hI.alloc _ h0, hL⟩).mono ?_
  · rw [hsz]
    rintro pre x W ⟨hi, hl⟩ hlen
    refine ⟨fn, _, assign, body, run_yield hl (hps x), roundIn_of_wpIn hfn (hassign pre x W _ hi fun a' Wa hka hpa hia hax => ?_)⟩
    have hla := hka.same _ _ (Nat.le_refl _) hl rfl
    refine ⟨_, run_beginRound hla rfl, ?_⟩
    have hlb : (Wa.putObj W0.heap.size (.loop { recO fn a ps assign body df .ready none with state := .busy })).heap[W0.heap.size]? = some (.loop { recO fn a ps assign body df .ready none with state := .busy }) := World.putObj_heap_same (Array.getElem?_eq_some_iff.1 hla).1
    have hk1 : KeepsFrom (W0.heap.size + 1) W (Wa.putObj W0.heap.size (.loop { recO fn a ps assign body df .ready none with state := .busy })) := (kf_narrow hka (Nat.le_succ _)).trans (keepsFrom_putObj (Nat.lt_succ_self _) _ _)
    have hkp1 := hKt hpa (hKb Wa _ (.loop { recO fn a ps assign body df .ready none with state := .busy }) hla rfl)
    have hout : ∀ {j : Option Code} {W3 : World}, KeepsFrom W0.heap.size (Wa.putObj W0.heap.size (.loop { recO fn a ps assign body df .ready none with state := .busy })) W3 →
        (Instr.endRound W0.heap.size j).run P W3 = .ok (.bool j.isNone) (W3.putObj W0.heap.size (.loop (recO fn a ps assign body df (if j.isNone then .ready else .done) j))) ∧
        W3.heap[W0.heap.size]? = some (.loop { recO fn a ps assign body df .ready none with state := .busy }) ∧
        (W3.putObj W0.heap.size (.loop (recO fn a ps assign body df (if j.isNone then .ready else .done) j))).heap[W0.heap.size]? = some (.loop (recO fn a ps assign body df (if j.isNone then .ready else .done) j)) ∧
        KeepsFrom (W0.heap.size + 1) W (W3.putObj W0.heap.size (.loop (recO fn a ps assign body df (if j.isNone then .ready else .done) j))) := fun {j W3} hk3 =>
      have hl3 := hk3.same _ _ (Nat.le_refl _) hlb rfl
      ⟨run_endRound j hl3, hl3, World.putObj_heap_same (Array.getElem?_eq_some_iff.1 hl3).1, hk1.trans ((kf_narrow hk3 (Nat.le_succ _)).trans (keepsFrom_putObj (Nat.lt_succ_self _) _ _))⟩
    refine wpIn_mono (hbody pre x a' _ ⟨_, hlb⟩ (hI.putObj _ hia (Nat.le_refl _) hla rfl) ((hAx x a').putObj (s := ()) _ hax (Nat.le_refl _) hla rfl) hlen) ?_
    have hgone : ∀ {c : Code} {W3 : World}, KeepsFrom W0.heap.size (Wa.putObj W0.heap.size (.loop { recO fn a ps assign body df .ready none with state := .busy })) W3 → Ix c (pre ++ [x]) W3 →
        ∃ v w', (Instr.endRound W0.heap.size (some c)).run P W3 = .ok v w' ∧ (KeepsFrom (W0.heap.size + 1) W w' ∧
          ((Ending.returned v = .returned (.bool true) ∧ (I (pre ++ [x]) w' ∧ w'.heap[W0.heap.size]? = some (.loop (recO fn a ps assign body df .ready none))) ∧ Kp W w') ∨
           (Ending.returned v = .returned (.bool false) ∧ ∃ c, Ix c (pre ++ [x]) w' ∧ w'.heap[W0.heap.size]? = some (.loop (recO fn a ps assign body df .done (some c)))))) := fun {c W3} hk3 hi3 => by
      obtain ⟨hr, hl3, hl4, hk4⟩ := hout (j := some c) hk3
      exact ⟨_, _, hr, hk4, .inr ⟨rfl, c, (hIx c).putObj _ hi3 (Nat.le_refl _) hl3 rfl, hl4⟩⟩
    rintro e a3 W3 hp
    cases e with
    | normal =>
      obtain ⟨hk3, hkp3, hi3⟩ := hp
      obtain ⟨hr, hl3, hl4, hk4⟩ := hout (j := none) hk3
      exact ⟨_, _, hr, hk4, .inl ⟨rfl, ⟨hI.putObj _ hi3 (Nat.le_refl _) hl3 rfl, hl4⟩, hKt (hKt hkp1 hkp3) (hKb _ _ _ hl3 rfl)⟩⟩
    | ret => exact hgone hp.1 hp.2
    | exit id => exact hgone hp.1 hp.2
    | goto t => exact hgone hp.1 hp.2
    | panic ch => exact hp.elim
    | outgrown => exact hp.elim
  · rintro e W2 ⟨⟨v, rfl⟩, (⟨xs, hS, hi, hl⟩ | ⟨pre, hSp, c, hi, hl⟩)⟩
    · exact ⟨none, _, run_endLoop (P := P) hl (by simp [recO]), hdone xs _ hS (hI.putObj _ hi (Nat.le_refl _) hl rfl)⟩
    · exact ⟨some c, _, run_endLoop (P := P) hl (by simp [recO]), hstop c pre _ hSp ((hIx c).putObj _ hi (Nat.le_refl _) hl rfl)⟩

/-- No loop around it. -/
theorem wpIn_rangeO {g : Operand} {ps : Array Tmp} {assign body : Code} {Q : Exit → Act → World → Prop} {a : Act} {w : World}
    (hro : F.round = none) (h1 : 1 ≤ n) {gf : Nat} {lb : Array Value} (hg : a.eval g = .func (.func gf) #[] lb) (hFg : F.fn gf) (eg : ∀ args w, (callFunc gf args).run P w = .ok (.enter gf args) w)
    {encs : α → Array Value} {Kp : World → World → Prop} {S Sp : List α → Prop} {N : Nat} {w0 : World} (hseq : SeqO F (n - 1) P gf lb encs Kp S Sp N w0)
    (hKt : ∀ {A B C : World}, Kp A B → Kp B C → Kp A C) (hKb : ∀ (W : World) (l : Nat) (o o' : Obj), w.heap.size ≤ l → W.heap[l]? = some o → o.isCells = false → Kp W (W.putObj l o')) (hb0 : Below w0.heap.size w0 w) (hps : ∀ x, (encs x).size = ps.size)
    (I : List α → World → Prop) (Ix : Code → List α → World → Prop) (hI : OwnFrom w.heap.size I) (hIx : ∀ c, OwnFrom w.heap.size (Ix c)) (h0 : I [] w) (Ax : α → Act → World → Prop) (hAx : ∀ x a', OwnFrom w.heap.size (fun (_ : Unit) W => Ax x a' W))
    (hassign : ∀ (l : Nat) (pre : List α) (x : α) (W : World) (K : Act → World → Prop), I pre W → (∀ a' W', KeepsFrom w.heap.size W W' → Kp W W' → I pre W' → Ax x a' W' → K a' W') →
      assign.wpIn (F.inRound l) (n - 1 - 1) P (Exit.then K (fun _ _ _ => False)) { tmps := (ps.zip (encs x)).foldl (fun t (p, v) => t.setIfInBounds p v) a.tmps, defers := [] } W)
    (hbody : ∀ (l : Nat) (pre : List α) (x : α) (a' : Act) (W : World), w.heap.size ≤ l → (∃ r, W.heap[l]? = some (.loop r)) → I pre W → Ax x a' W → pre.length < N → body.wpIn (F.inRound l) (n - 1 - 1) P (ownPostG w.heap.size Kp I Ix (pre ++ [x]) W) a' W)
    (hdone : ∀ (D : Nat) (xs : List α) (W : World), w.heap.size ≤ D → S xs → I xs W → W.heap[D]? = some (.deferred (some [])) → Q .normal { a with defers := { target := .collected D, args := #[] } :: a.defers } W)
    (hstop : ∀ (D : Nat) (c : Code) (pre : List α) (W : World), w.heap.size ≤ D → Sp pre → Ix c pre W → W.heap[D]? = some (.deferred (some [])) → c.wpIn F n P Q { a with defers := { target := .collected D, args := #[] } :: a.defers } W) :
    (Code.rangeFunc g ps assign body).wpIn F n P Q a w := by
  have hs : (w.alloc (.deferred (some []))).heap.size = w.heap.size + 1 := by simp
  have hw : OwnFrom (w.heap.size + 1) (fun (_ : List α) W => W.heap[w.heap.size]? = some (.deferred (some []))) := ownFrom_at (Nat.lt_succ_self _)
  have hkf : ∀ {W W' : World}, KeepsFrom w.heap.size W W' → W.heap[w.heap.size]? = some (.deferred (some [])) → W'.heap[w.heap.size]? = some (.deferred (some [])) := fun hk h => hk.same _ _ (Nat.le_refl _) h rfl
  refine wpIn_range_core (W0 := w.alloc (.deferred (some []))) (mark := [{ target := .collected w.heap.size, args := #[] }])
    (fun fn => ⟨w.heap.size, by rw [hro, hs]; exact run_enterLoop_outer _ _ _ _ _⟩) h1 hg hFg eg hseq hKt (fun W o o' ho hc => hKb W _ o o' (by omega) ho hc)
    (hb0.trans (((Below.refl _ w).alloc (Nat.le_refl _) _).mono hb0.size)) hps
    (fun pre W => I pre W ∧ W.heap[w.heap.size]? = some (.deferred (some []))) (fun c pre W => Ix c pre W ∧ W.heap[w.heap.size]? = some (.deferred (some [])))
    (by rw [hs]; exact OwnFrom.and (of_wide hI (Nat.le_succ _)) hw) (fun c => by rw [hs]; exact OwnFrom.and (of_wide (hIx c) (Nat.le_succ _)) hw) ⟨hI.alloc _ h0, World.alloc_heap_new w _⟩ Ax (fun x a' => by rw [hs]; exact of_wide (hAx x a') (Nat.le_succ _))
    (fun pre x W K hi hK => ?_) (fun pre x a' W hr hi hax hlen => ?_) (fun xs W hS hi => hdone _ xs W (Nat.le_refl _) hS hi.1 hi.2) (fun c pre W hS hi => hstop _ c pre W (Nat.le_refl _) hS hi.1 hi.2)
  · rw [hs] at hK ⊢
    exact hassign _ pre x W K hi.1 (fun a' W' hk hp hi' hax => hK a' W' (kf_narrow hk (Nat.le_succ _)) hp ⟨hi', hkf hk hi.2⟩ hax)
  · rw [hs] at hr ⊢
    refine wpIn_mono (hbody _ pre x a' W (Nat.le_succ _) hr hi.1 hax hlen) ?_
    rintro e a3 W3 hp
    cases e with
    | normal => exact ⟨kf_narrow hp.1 (Nat.le_succ _), hp.2.1, hp.2.2, hkf hp.1 hi.2⟩
    | ret => exact ⟨kf_narrow hp.1 (Nat.le_succ _), hp.2, hkf hp.1 hi.2⟩
    | exit id => exact ⟨kf_narrow hp.1 (Nat.le_succ _), hp.2, hkf hp.1 hi.2⟩
    | goto t => exact ⟨kf_narrow hp.1 (Nat.le_succ _), hp.2, hkf hp.1 hi.2⟩
    | panic ch => exact hp.elim
    | outgrown => exact hp.elim

/-- Within a round. -/
theorem wpIn_rangeOin {g : Operand} {ps : Array Tmp} {assign body : Code} {Q : Exit → Act → World → Prop} {a : Act} {w : World} {lo : Nat} {r0 : Loop}
    (hro : F.round = some lo) (hlo : w.heap[lo]? = some (.loop r0)) (h1 : 1 ≤ n) {gf : Nat} {lb : Array Value} (hg : a.eval g = .func (.func gf) #[] lb) (hFg : F.fn gf) (eg : ∀ args w, (callFunc gf args).run P w = .ok (.enter gf args) w)
    {encs : α → Array Value} {Kp : World → World → Prop} {S Sp : List α → Prop} {N : Nat} {w0 : World} (hseq : SeqO F (n - 1) P gf lb encs Kp S Sp N w0)
    (hKt : ∀ {A B C : World}, Kp A B → Kp B C → Kp A C) (hKb : ∀ (W : World) (l : Nat) (o o' : Obj), w.heap.size ≤ l → W.heap[l]? = some o → o.isCells = false → Kp W (W.putObj l o')) (hb0 : Below w0.heap.size w0 w) (hps : ∀ x, (encs x).size = ps.size)
    (I : List α → World → Prop) (Ix : Code → List α → World → Prop) (hI : OwnFrom w.heap.size I) (hIx : ∀ c, OwnFrom w.heap.size (Ix c)) (h0 : I [] w) (Ax : α → Act → World → Prop) (hAx : ∀ x a', OwnFrom w.heap.size (fun (_ : Unit) W => Ax x a' W))
    (hassign : ∀ (l : Nat) (pre : List α) (x : α) (W : World) (K : Act → World → Prop), I pre W → (∀ a' W', KeepsFrom w.heap.size W W' → Kp W W' → I pre W' → Ax x a' W' → K a' W') →
      assign.wpIn (F.inRound l) (n - 1 - 1) P (Exit.then K (fun _ _ _ => False)) { tmps := (ps.zip (encs x)).foldl (fun t (p, v) => t.setIfInBounds p v) a.tmps, defers := [] } W)
    (hbody : ∀ (l : Nat) (pre : List α) (x : α) (a' : Act) (W : World), w.heap.size ≤ l → (∃ r, W.heap[l]? = some (.loop r)) → I pre W → Ax x a' W → pre.length < N → body.wpIn (F.inRound l) (n - 1 - 1) P (ownPostG w.heap.size Kp I Ix (pre ++ [x]) W) a' W)
    (hdone : ∀ (xs : List α) (W : World), S xs → I xs W → Q .normal a W)
    (hstop : ∀ (c : Code) (pre : List α) (W : World), Sp pre → Ix c pre W → c.wpIn F n P Q a W) :
    (Code.rangeFunc g ps assign body).wpIn F n P Q a w :=
  wpIn_range_core (W0 := w) (mark := []) (fun fn => ⟨r0.defers, by rw [hro]; exact run_enterLoop_inner hlo _ _ _ _ _⟩) h1 hg hFg eg hseq hKt (fun W o o' ho hc => hKb W _ o o' (Nat.le_refl _) ho hc) hb0 hps I Ix hI hIx h0 Ax hAx
    (fun pre x W K hi hK => hassign _ pre x W K hi hK) (fun pre x a' W hr hi hax hlen => hbody _ pre x a' W (Nat.le_refl _) hr hi hax hlen) hdone hstop
/-- No loop around it, its one variable boxed in every round. -/
theorem wpIn_rangeO_cell {g : Operand} {ps : Array Tmp} {assign body : Code} {Q : Exit → Act → World → Prop} {a : Act} {w : World}
    (hro : F.round = none) (h1 : 1 ≤ n) {gf : Nat} {lb : Array Value} (hg : a.eval g = .func (.func gf) #[] lb) (hFg : F.fn gf) (eg : ∀ args w, (callFunc gf args).run P w = .ok (.enter gf args) w)
    {encs : α → Array Value} {Kp : World → World → Prop} {S Sp : List α → Prop} {N : Nat} {w0 : World} (hseq : SeqO F (n - 1) P gf lb encs Kp S Sp N w0)
    (hKt : ∀ {A B C : World}, Kp A B → Kp B C → Kp A C) (hKb : ∀ (W : World) (l : Nat) (o o' : Obj), w.heap.size ≤ l → W.heap[l]? = some o → o.isCells = false → Kp W (W.putObj l o')) (hb0 : Below w0.heap.size w0 w) (hps : ∀ x, (encs x).size = ps.size)
    (I : List α → World → Prop) (Ix : Code → List α → World → Prop) (hI : OwnFrom w.heap.size I) (hIx : ∀ c, OwnFrom w.heap.size (Ix c)) (h0 : I [] w) (cv : α → Array Value) (tb : Tmp) (ty : TypeId) (D : Nat)
    (hassign : ∀ (l : Nat) (pre : List α) (x : α) (W : World) (K : Act → World → Prop), I pre W →
      (∀ Bx W', D ≤ Bx → W'.heap[Bx]? = some (.cells (cv x) ty (0, 0)) → KeepsFrom w.heap.size W W' → Kp W W' → I pre W' → K { tmps := ((ps.zip (encs x)).foldl (fun t (p, v) => t.setIfInBounds p v) a.tmps).setIfInBounds tb (.pointer (some ⟨Bx, 0, none⟩)), defers := [] } W') →
      assign.wpIn (F.inRound l) (n - 1 - 1) P (Exit.then K (fun _ _ _ => False)) { tmps := (ps.zip (encs x)).foldl (fun t (p, v) => t.setIfInBounds p v) a.tmps, defers := [] } W)
    (hbody : ∀ (l : Nat) (pre : List α) (x : α) (Bx : Nat) (W : World), w.heap.size ≤ l → (∃ r, W.heap[l]? = some (.loop r)) → I pre W → D ≤ Bx → W.heap[Bx]? = some (.cells (cv x) ty (0, 0)) → pre.length < N →
      body.wpIn (F.inRound l) (n - 1 - 1) P (ownPostG w.heap.size Kp I Ix (pre ++ [x]) W) { tmps := ((ps.zip (encs x)).foldl (fun t (p, v) => t.setIfInBounds p v) a.tmps).setIfInBounds tb (.pointer (some ⟨Bx, 0, none⟩)), defers := [] } W)
    (hdone : ∀ (D : Nat) (xs : List α) (W : World), w.heap.size ≤ D → S xs → I xs W → W.heap[D]? = some (.deferred (some [])) → Q .normal { a with defers := { target := .collected D, args := #[] } :: a.defers } W)
    (hstop : ∀ (D : Nat) (c : Code) (pre : List α) (W : World), w.heap.size ≤ D → Sp pre → Ix c pre W → W.heap[D]? = some (.deferred (some [])) → c.wpIn F n P Q { a with defers := { target := .collected D, args := #[] } :: a.defers } W) :
    (Code.rangeFunc g ps assign body).wpIn F n P Q a w :=
  wpIn_rangeO hro h1 hg hFg eg hseq hKt hKb hb0 hps I Ix hI hIx h0
    (fun x a' W => ∃ Bx, D ≤ Bx ∧ W.heap[Bx]? = some (.cells (cv x) ty (0, 0)) ∧ a' = { tmps := ((ps.zip (encs x)).foldl (fun t (p, v) => t.setIfInBounds p v) a.tmps).setIfInBounds tb (.pointer (some ⟨Bx, 0, none⟩)), defers := [] })
    (fun x a' _ X Y row hs hg hr => by
      obtain ⟨Bx, h1, h2, h3⟩ := hs
      refine ⟨Bx, h1, ?_, h3⟩
      exact (hg.block Bx (Array.getElem?_eq_some_iff.1 h2).1 (fun e => by obtain ⟨_, ho, hc⟩ := (hr Bx e.symm).2; rw [h2] at ho; cases ho; cases hc)).trans h2)
    (fun l pre x W K hi hK => hassign l pre x W K hi (fun Bx W' hD hX hkf hkp hi' => hK _ W' hkf hkp hi' ⟨Bx, hD, hX, rfl⟩))
    (fun l pre x a' W hl hr hi hax hlt => by
      obtain ⟨Bx, hD, hX, rfl⟩ := hax
      exact hbody l pre x Bx W hl hr hi hD hX hlt)
    hdone hstop
/-- Within a round, its one variable boxed in every round. -/
theorem wpIn_rangeOin_cell {g : Operand} {ps : Array Tmp} {assign body : Code} {Q : Exit → Act → World → Prop} {a : Act} {w : World} {lo : Nat} {r0 : Loop}
    (hro : F.round = some lo) (hlo : w.heap[lo]? = some (.loop r0)) (h1 : 1 ≤ n) {gf : Nat} {lb : Array Value} (hg : a.eval g = .func (.func gf) #[] lb) (hFg : F.fn gf) (eg : ∀ args w, (callFunc gf args).run P w = .ok (.enter gf args) w)
    {encs : α → Array Value} {Kp : World → World → Prop} {S Sp : List α → Prop} {N : Nat} {w0 : World} (hseq : SeqO F (n - 1) P gf lb encs Kp S Sp N w0)
    (hKt : ∀ {A B C : World}, Kp A B → Kp B C → Kp A C) (hKb : ∀ (W : World) (l : Nat) (o o' : Obj), w.heap.size ≤ l → W.heap[l]? = some o → o.isCells = false → Kp W (W.putObj l o')) (hb0 : Below w0.heap.size w0 w) (hps : ∀ x, (encs x).size = ps.size)
    (I : List α → World → Prop) (Ix : Code → List α → World → Prop) (hI : OwnFrom w.heap.size I) (hIx : ∀ c, OwnFrom w.heap.size (Ix c)) (h0 : I [] w) (cv : α → Array Value) (tb : Tmp) (ty : TypeId) (D : Nat)
    (hassign : ∀ (l : Nat) (pre : List α) (x : α) (W : World) (K : Act → World → Prop), I pre W →
      (∀ Bx W', D ≤ Bx → W'.heap[Bx]? = some (.cells (cv x) ty (0, 0)) → KeepsFrom w.heap.size W W' → Kp W W' → I pre W' → K { tmps := ((ps.zip (encs x)).foldl (fun t (p, v) => t.setIfInBounds p v) a.tmps).setIfInBounds tb (.pointer (some ⟨Bx, 0, none⟩)), defers := [] } W') →
      assign.wpIn (F.inRound l) (n - 1 - 1) P (Exit.then K (fun _ _ _ => False)) { tmps := (ps.zip (encs x)).foldl (fun t (p, v) => t.setIfInBounds p v) a.tmps, defers := [] } W)
    (hbody : ∀ (l : Nat) (pre : List α) (x : α) (Bx : Nat) (W : World), w.heap.size ≤ l → (∃ r, W.heap[l]? = some (.loop r)) → I pre W → D ≤ Bx → W.heap[Bx]? = some (.cells (cv x) ty (0, 0)) → pre.length < N →
      body.wpIn (F.inRound l) (n - 1 - 1) P (ownPostG w.heap.size Kp I Ix (pre ++ [x]) W) { tmps := ((ps.zip (encs x)).foldl (fun t (p, v) => t.setIfInBounds p v) a.tmps).setIfInBounds tb (.pointer (some ⟨Bx, 0, none⟩)), defers := [] } W)
    (hdone : ∀ (xs : List α) (W : World), S xs → I xs W → Q .normal a W)
    (hstop : ∀ (c : Code) (pre : List α) (W : World), Sp pre → Ix c pre W → c.wpIn F n P Q a W) :
    (Code.rangeFunc g ps assign body).wpIn F n P Q a w :=
  wpIn_rangeOin hro hlo h1 hg hFg eg hseq hKt hKb hb0 hps I Ix hI hIx h0
    (fun x a' W => ∃ Bx, D ≤ Bx ∧ W.heap[Bx]? = some (.cells (cv x) ty (0, 0)) ∧ a' = { tmps := ((ps.zip (encs x)).foldl (fun t (p, v) => t.setIfInBounds p v) a.tmps).setIfInBounds tb (.pointer (some ⟨Bx, 0, none⟩)), defers := [] })
    (fun x a' _ X Y row hs hg hr => by
      obtain ⟨Bx, h1, h2, h3⟩ := hs
      refine ⟨Bx, h1, ?_, h3⟩
      exact (hg.block Bx (Array.getElem?_eq_some_iff.1 h2).1 (fun e => by obtain ⟨_, ho, hc⟩ := (hr Bx e.symm).2; rw [h2] at ho; cases ho; cases hc)).trans h2)
    (fun l pre x W K hi hK => hassign l pre x W K hi (fun Bx W' hD hX hkf hkp hi' => hK _ W' hkf hkp hi' ⟨Bx, hD, hX, rfl⟩))
    (fun l pre x a' W hl hr hi hax hlt => by
      obtain ⟨Bx, hD, hX, rfl⟩ := hax
      exact hbody l pre x Bx W hl hr hi hD hX hlt)
    hdone hstop
end
end Go.Proofs.Ytlopenephgabhaa


namespace Go.Proofs.Ytlopenephgabhaa
open Go.RowKit

def L4 (lo : Nat) := Sl lo (L3 lo)
theorem stable4 (lo : Nat) : Stable lo (L4 lo) := (stable3 lo).sl
theorem L4.below {lo : Nat} {w w' : World} {v : Value} {xs : List (List (List (List Int)))} (h : L4 lo w v xs) (hb : Below w.heap.size w w') : L4 lo w' v xs := stable4 lo _ _ _ _ (Keep.of_below hb) h

/-- A double complex as it is read. -/
structure Dx (lo : Nat) (w : World) (dv av vv : Value) (ds : List (List Int)) (ac dn : List (List (List (List Int)))) : Prop where
  dims : L2 lo w dv ds
  across : L4 lo w av ac
  down : L4 lo w vv dn
theorem Dx.below {lo : Nat} {w w' : World} {dv av vv : Value} {ds : List (List Int)} {ac dn : List (List (List (List Int)))} (h : Dx lo w dv av vv ds ac dn) (hb : Below w.heap.size w w') : Dx lo w' dv av vv ds ac dn :=
  ⟨h.dims.below hb, h.across.below hb, h.down.below hb⟩

/-- .. in a box. -/
structure DBx (w wr : World) (b : Nat) (p : Int) (dv av vv : Value) (ds : List (List Int)) (ac dn : List (List (List (List Int)))) : Prop where
  below : Below w.heap.size w wr
  c0 : wr.cell? ⟨b, 0, none⟩ = some (.int .i64 p)
  c1 : wr.cell? ⟨b, 1, none⟩ = some dv
  c2 : wr.cell? ⟨b, 2, none⟩ = some av
  c3 : wr.cell? ⟨b, 3, none⟩ = some vv
  lt : b < wr.heap.size
  dx : Dx 0 wr dv av vv ds ac dn
theorem DBx.next {w wr w' : World} {b : Nat} {p : Int} {dv av vv : Value} {ds : List (List Int)} {ac dn : List (List (List (List Int)))} (h : DBx w wr b p dv av vv ds ac dn) (hb : Below wr.heap.size wr w') : DBx w w' b p dv av vv ds ac dn :=
  ⟨h.below.trans (hb.mono h.below.size), later hb (Nat.le_refl _) h.c0, later hb (Nat.le_refl _) h.c1, later hb (Nat.le_refl _) h.c2, later hb (Nat.le_refl _) h.c3, Nat.lt_of_lt_of_le h.lt hb.size, h.dx.below hb⟩
theorem DBx.start {w : World} {p : Int} {dv av vv : Value} {ds : List (List Int)} {ac dn : List (List (List (List Int)))} (t : TypeId) (h : Dx 0 w dv av vv ds ac dn) : DBx w (w.alloc (.cells #[.int .i64 p, dv, av, vv] t)) w.heap.size p dv av vv ds ac dn :=
  ⟨(Below.refl _ _).alloc (Nat.le_refl _) _, by simp, by simp, by simp, by simp, by simp, h.below ((Below.refl _ _).alloc (Nat.le_refl _) _)⟩

/-- What the cells of a double complex keep. -/
structure DclOk (ds : List (List Int)) : Prop where
  len0 : 1 ≤ ds.length
  len1 : ds.length ≤ 4
  h0 : 1 ≤ (ds.getD 0 []).length
  h1 : (ds.getD 0 []).length ≤ 4
  col : ∀ r ∈ ds, r.length = (ds.getD 0 []).length ∧ AllIn 0 4 r

set_option maxRecDepth 100000 in
theorem widthOf_any (p : Int) (dv av vv : Value) (ds : List (List Int)) (w : World) (h : L2 0 w dv ds) :
    Calls Try.prog 58 #[.agg #[.int .i64 p, dv, av, vv]] w fun e w' => e = .returned (.int .i64 (ds.length : Int)) ∧ Below w.heap.size w w' := by
  obtain ⟨ad, cd, rfl⟩ := Sl.shape h
  clear h
  go_enter Try.func58, Try.ntmps58
  go_wp2
  go_ret
  exact ⟨rfl, by first | exact Below.refl _ _ | exact (Below.refl _ _).alloc (Nat.le_refl _) _⟩

set_option maxRecDepth 100000 in
theorem heightOf_any (p : Int) (dv av vv : Value) (ds : List (List Int)) (w : World) (h : L2 0 w dv ds) (h0 : 1 ≤ ds.length) :
    Calls Try.prog 93 #[.agg #[.int .i64 p, dv, av, vv]] w fun e w' => e = .returned (.int .i64 ((ds.getD 0 []).length : Int)) ∧ Below w.heap.size w w' := by
  rcases h with ⟨hx, _⟩ | ⟨b, o, cd, rfl, _, hpos, hc⟩
  · subst hx; simp at h0
  obtain ⟨u, hu, hr⟩ := hc 0 hpos
  obtain ⟨ar, cr, rfl⟩ := Sl.shape hr
  rw [getD_of_lt _ hpos]
  obtain ⟨q, hq⟩ : ∃ q, q = (ds[0]).length := ⟨_, rfl⟩
  rw [← hq] at hu ⊢
  obtain ⟨m, hm⟩ : ∃ m, m = ds.length := ⟨_, rfl⟩
  rw [← hm] at hpos ⊢
  rw [Nat.add_zero] at hu
  clear hc hr hq hm h0
  have hu1 : (w.alloc (.cells #[.int .i64 p, .slice (some ⟨b, o, none⟩) m cd, av, vv] 28)).cell? ⟨b, o, none⟩ = some (.slice ar q cr) := later (B := w.heap.size) ((Below.refl _ _).alloc (Nat.le_refl _) _) (Nat.le_refl _) hu
  go_enter Try.func93, Try.ntmps93
  go_wp2
  go_ret
  exact ⟨rfl, by first | exact Below.refl _ _ | exact (Below.refl _ _).alloc (Nat.le_refl _) _⟩
end Go.Proofs.Ytlopenephgabhaa


namespace Go.Proofs.Ytlopenephgabhaa
open Go.RowKit

/-- The dimension of a cell. -/
def dcl (ds : List (List Int)) (i j : Int) : Int := if i < 0 ∨ j < 0 then 0 else (ds.getD i.toNat []).getD j.toNat 0

set_option maxRecDepth 100000 in
theorem dimOfCell_any (p i j : Int) (dv av vv : Value) (ds : List (List Int)) (w : World) (h : L2 0 w dv ds) (hd : Bd2 1048576 ds) (hi : -1 ≤ i) (hj : -1 ≤ j) (hi1 : i < ds.length) (hj1 : 0 ≤ i → j < (ds.getD i.toNat []).length) :
    Calls Try.prog 95 #[.agg #[.int .i64 p, dv, av, vv], .agg #[.int .i64 i, .int .i64 j]] w fun e w' => e = .returned (.int .i64 (dcl ds i j)) ∧ Below w.heap.size w w' := by
  have hm0 : ds.length ≤ 1048576 := hd.1
  by_cases h1 : i < 0
  · rw [show dcl ds i j = 0 from if_pos (.inl h1)]
    obtain ⟨ad, cd, rfl⟩ := Sl.shape h
    clear h hj1
    go_enter Try.func95, Try.ntmps95
    go_wp2
    go_ret
    exact ⟨rfl, ((Below.refl _ _).alloc (Nat.le_refl _) _).alloc (by simp) _⟩
  · by_cases h2 : j < 0
    · rw [show dcl ds i j = 0 from if_pos (.inr h2)]
      obtain ⟨ad, cd, rfl⟩ := Sl.shape h
      clear h hj1
      go_enter Try.func95, Try.ntmps95
      go_wp2
      go_ret
      exact ⟨rfl, ((Below.refl _ _).alloc (Nat.le_refl _) _).alloc (by simp) _⟩
    · rw [show dcl ds i j = (ds.getD i.toNat []).getD j.toNat 0 from if_neg (by omega)]
      obtain ⟨a, rfl⟩ := Int.eq_ofNat_of_zero_le (show 0 ≤ i by omega)
      obtain ⟨b, rfl⟩ := Int.eq_ofNat_of_zero_le (show 0 ≤ j by omega)
      simp only [Int.toNat_natCast] at hj1 ⊢
      have ha : a < ds.length := by omega
      have hb := hj1 (by omega)
      have hb8 : (ds.getD a []).length ≤ 1048576 := by rw [getD_of_lt _ ha]; exact hd.2 _ (List.getElem_mem _)
      have hb' : b < (ds.getD a []).length := by omega
      rcases h with ⟨hx, _⟩ | ⟨bb, o, cd, rfl, _, hpos, hc⟩
      · subst hx; simp at ha
      obtain ⟨u, hu, hr⟩ := hc a ha
      rw [getD_of_lt _ ha] at hb' hb8 ⊢
      rcases hr with ⟨hx, _⟩ | ⟨b2, o2, cd2, rfl, _, hpos2, hc2⟩
      · rw [hx] at hb'; simp at hb'
      obtain ⟨u2, hu2, hr2⟩ := hc2 b hb'
      have hr2' : u2 = .int .i64 ((ds[a])[b]) := hr2
      subst hr2'
      rw [getD_of_lt _ hb']
      obtain ⟨z, hz⟩ : ∃ z, z = (ds[a])[b] := ⟨_, rfl⟩
      rw [← hz] at hu2 ⊢
      clear hz hc2 hr2 hc
      obtain ⟨q, hq⟩ : ∃ q, q = (ds[a]).length := ⟨_, rfl⟩
      rw [← hq] at hb' hb8 hu hpos2
      clear hq hj1 hb
      obtain ⟨m, hm⟩ : ∃ m, m = ds.length := ⟨_, rfl⟩
      rw [← hm] at ha hm0 hpos hi1 ⊢
      clear hm
      have hB : Below w.heap.size w ((w.alloc (.cells #[.int .i64 p, .slice (some ⟨bb, o, none⟩) m cd, av, vv] 28)).alloc (.cells #[.int .i64 (a : Int), .int .i64 (b : Int)] 101)) := ((Below.refl _ _).alloc (Nat.le_refl _) _).alloc (by simp) _
      have hu' := later hB (Nat.le_refl _) hu
      have hu2' := later hB (Nat.le_refl _) hu2
      go_enter Try.func95, Try.ntmps95
      go_wp2
      clear hi hj hi1
      go_region
      go_wp2
      go_ret
      exact ⟨rfl, hB.drew⟩
end Go.Proofs.Ytlopenephgabhaa


namespace Go.Proofs.Ytlopenephgabhaa
open Go.RowKit

theorem rowsIn_of {l n : Nat} {P : Program} {row : String} {args : Array Value} {w : World} {R : Value → World → Prop} (h : Rows P row args w R) : RowsIn (Fence.wide.inRound l) n P row args w R :=
  fun c cs _ => let ⟨v, w', r, s⟩ := h c cs; ⟨v, w', r, stepsIn_wide.2 s⟩

theorem wpOpIn_of {l n : Nat} {P : Program} {ops : Array Oper} {Q : Exit → Act → World → Prop} (hd : ∀ (i : Nat) (o : Oper) c, ops[i]? = some o → o.op ≠ .defer c) (hno : ¬ LetsOut Q) {i : Nat} {K : Act → World → Prop} {a : Act} {w : World}
    (h : wpOp P ops Q i K a w) : wpOpIn (Fence.wide.inRound l) n P ops Q i K a w := by
  unfold wpOp at h
  unfold wpOpIn
  cases ho : ops[i]? with
  | none => rw [ho] at h; exact h
  | some o =>
    rw [ho] at h
    dsimp only at h ⊢
    split
    · rename_i hw
      rw [if_pos hw] at h
      rcases h with h | ⟨_, h⟩
      · refine ⟨fun _ _ => trivial, ?_⟩
        rw [Oper.semAt_eq _ _ _ (fun c => hd i o c ho)]
        unfold Oper.wp at h
        generalize (execOp a.eval o).run P w = r at h
        cases r with
        | ok nx w' =>
          cases nx with
          | value v => exact h
          | skip => exact h
          | defer d => exact h
          | enter f args => exact ⟨fun hc => absurd hc (by simp [Fence.inRound, Fence.wide]), CallsIn.inRound l (callsIn_wide.2 h)⟩
          | row row args => exact ⟨fun hc => absurd hc (by simp [Fence.inRound, Fence.wide]), rowsIn_of h⟩
          | _ => exact h.elim
        | halt x w' => cases x <;> first | exact h | exact h.elim
      · exact absurd h hno
    · rename_i hw
      rw [if_neg hw] at h
      exact ⟨fun _ _ => trivial, h⟩

theorem wpAnyIn_of {l n : Nat} {P : Program} {ops : Array Oper} {md : Region.Mode} {Q : Exit → Act → World → Prop} (hd : ∀ (i : Nat) (o : Oper) c, ops[i]? = some o → o.op ≠ .defer c) (hno : ¬ LetsOut Q) :
    ∀ (fuel : Nat) (listed : Array Bool) (a : Act) (w : World), wpAny P md ops Q fuel listed a w → wpAnyIn (Fence.wide.inRound l) n P md ops Q fuel listed a w
  | 0, _, _, _, h => h
  | fuel + 1, _, _, _, h => ⟨h.1, fun i hi => wpOpIn_mono (fun _ _ h' => wpAnyIn_of hd hno fuel _ _ _ h') (wpOpIn_of hd hno (h.2 i hi))⟩

/-- No operation defers. -/
def noDefer (ops : Array Oper) : Bool := ops.all fun o => match o.op with | .defer _ => false | _ => true
theorem noDefer_spec {ops : Array Oper} (h : noDefer ops = true) (i : Nat) (o : Oper) (c) (ho : ops[i]? = some o) : o.op ≠ .defer c := fun e => by
  have hm : o ∈ ops := Array.mem_of_getElem? ho
  unfold noDefer at h
  rw [Array.all_eq_true'] at h
  have := h o hm
  rw [e] at this
  cases this

/-- **The beginning**: with the walk that holds S behind every operation. -/
theorem wpIn_region_held {l n id : Nat} {P : Program} {ops : Array Oper} {Q : Exit → Act → World → Prop} {S : World → Prop} {a : Act} {w : World} (hm : P.follows .mixedOrders = true)
    (hd : noDefer ops = true) (hno : ¬ LetsOut Q)
    (h : wpAnyH P .any ops Q S ops.size (Array.replicate ops.size false) a { w with drawn := w.drawn + 1 }) : (Code.region id ops true).wpIn (Fence.wide.inRound l) n P Q a w :=
  wpIn_region_any hm (wpAnyIn_of (noDefer_spec hd) hno _ _ _ _ (wpAny_of_held _ _ _ _ h))
end Go.Proofs.Ytlopenephgabhaa


namespace Go.Proofs.Ytlopenephgabhaa
open Go.RowKit Go.Shelf
attribute [local go_sem] Oper.semAt_some

/-- The two tables that lead from a cell have their sizes. -/
def DTab (p : Int) (ds : List (List Int)) (ac dn : List (List (List (List Int)))) (c : Nat × Nat) : Prop :=
  TabOk p (dcl ds c.1 c.2) (dcl ds ((c.1 : Int) - 1) c.2) ((ac.getD c.1 []).getD c.2 []) ∧ TabOk p (dcl ds c.1 c.2) (dcl ds c.1 ((c.2 : Int) - 1)) ((dn.getD c.1 []).getD c.2 [])
structure TbsOk (p : Int) (ds : List (List Int)) (ac dn : List (List (List (List Int)))) : Prop where
  la : ac.length = ds.length
  ld : dn.length = ds.length
  ca : ∀ i, i < ds.length → (ac.getD i []).length = (ds.getD i []).length
  cd : ∀ i, i < ds.length → (dn.getD i []).length = (ds.getD i []).length
  tab : ∀ c ∈ cellsTo ds ds.length, DTab p ds ac dn c
def Bd4 (n : Nat) (xs : List (List (List (List Int)))) : Prop := xs.length ≤ n ∧ ∀ x ∈ xs, Bd3 n x

section
variable {P : Program} {ops : Array Oper} {S : World → Prop}
theorem yieldsIf_binD {o : Oper} {a : Act} {x y : Operand} {v u i : Value} {b : BinOp} {t t' : TypeId} (hg : o.guard = none) (ho : o.op = .binOp b t x y t') (hx : a.eval x = u) (hy : a.eval y = i) (hge : ∀ w, (eqGuard b t x y u i).run P w = .ok () w) (hrun : ∀ w, (binOp b t u i).run P w = .ok v w) : YieldsIf P ops S o v a :=
  Or.inl ⟨by unfold Region.wanted; rw [hg], fun w _ => by
    unfold execOp
    simp only [ho, hx, hy, Sem.run_bind, hge w, hrun w, Result.andThen_ok]
    rfl⟩
theorem yieldsIf_indexD {o : Oper} {a : Act} {x y : Operand} {v u i : Value} {t : TypeId} (hw : Region.wanted o (yielded ops a.tmps) = true) (ho : o.op = .indexAddr t x y) (hx : a.eval x = u) (hy : a.eval y = i) (hrun : ∀ w, (Instr.indexAt t u i).run P w = .ok v w) : YieldsIf P ops S o v a :=
  Or.inl ⟨hw, fun w _ => by
    unfold execOp
    simp only [ho, hx, hy, Sem.run_bind, hrun w, Result.andThen_ok]
    rfl⟩
end
theorem hsubB {n : Nat} (hn : n ≤ 1000) (_ : 0 ≤ n) (w : World) : (binOp .sub 2 (.int .i64 (n : Int)) (.int .i64 1)).run Try.prog w = .ok (.int .i64 ((n : Int) - 1)) w := by
  have hz : IntKind.i64.wrap ((n : Int) - 1) = (n : Int) - 1 := IntWalk.i64_in _ (by omega)
  go_simp
theorem hloadDb (w : World) {w0 : World} {b : Nat} {p : Int} {dv av vv : Value} {ds : List (List Int)} {ac dn : List (List (List (List Int)))} (h : DBx w0 w b p dv av vv ds ac dn) : (Instr.loadAt 28 (.pointer (some ⟨b, 0, none⟩))).run Try.prog w = .ok (.agg #[.int .i64 p, dv, av, vv]) w := by
  have c0 := h.c0
  have c1 := h.c1
  have c2 := h.c2
  have c3 := h.c3
  go_simp
theorem hloadCe (w : World) {b : Nat} {x y : Value} (c0 : w.cell? ⟨b, 0, none⟩ = some x) (c1 : w.cell? ⟨b, 1, none⟩ = some y) : (Instr.loadAt 101 (.pointer (some ⟨b, 0, none⟩))).run Try.prog w = .ok (.agg #[x, y]) w := by go_simp
theorem hloadIn (w : World) {b o : Nat} {x : Value} (h : w.cell? ⟨b, o, none⟩ = some x) : (Instr.loadAt 2 (.pointer (some ⟨b, o, none⟩))).run Try.prog w = .ok x w := by go_simp

theorem hidx4 {aa : Option Addr} {b o k n cap : Nat} (haa : aa = some ⟨b, o, none⟩) (hk : k < n) (w : World) : (Instr.indexAt 23 (.slice aa n cap) (.int .i64 k)).run Try.prog w = .ok (.pointer (some ⟨b, o + k, none⟩)) w := by
  subst haa
  have h2 : (0 : Int) ≤ (k : Int) := by omega
  have h3 : (k : Int) < (n : Int) := by omega
  go_simp
theorem hidx3 (b o : Nat) {k n : Nat} (cap : Nat) (hk : k < n) (w : World) : (Instr.indexAt 36 (.slice (some ⟨b, o, none⟩) n cap) (.int .i64 k)).run Try.prog w = .ok (.pointer (some ⟨b, o + k, none⟩)) w := by
  have h2 : (0 : Int) ≤ (k : Int) := by omega
  have h3 : (k : Int) < (n : Int) := by omega
  go_simp
theorem hload4 (w : World) {b o : Nat} {x : Value} (h : w.cell? ⟨b, o, none⟩ = some x) : (Instr.loadAt 23 (.pointer (some ⟨b, o, none⟩))).run Try.prog w = .ok x w := by go_simp
theorem hload3s (w : World) {b o : Nat} {x : Value} (h : w.cell? ⟨b, o, none⟩ = some x) : (Instr.loadAt 36 (.pointer (some ⟨b, o, none⟩))).run Try.prog w = .ok x w := by go_simp
theorem hload2s (w : World) {b o : Nat} {x : Value} (h : w.cell? ⟨b, o, none⟩ = some x) : (Instr.loadAt 22 (.pointer (some ⟨b, o, none⟩))).run Try.prog w = .ok x w := by go_simp

theorem results_bool {fn : Func} {t : Tmp} (h : fn.results = #[.cell t 4]) (tmps : Array Value) (B : Nat) (b : Bool) (W : World) (ht : tmps.getD t undef = .pointer (some ⟨B, 0, none⟩)) (hc : W.cell? ⟨B, 0, none⟩ = some (.bool b)) :
    (results fn tmps).run Try.prog W = .ok (.bool b) W := by
  simp only [Array.getD_eq_getD_getElem?] at ht
  simp [results, h, ht, go_sem, hc]

set_option maxRecDepth 100000 in
set_option maxHeartbeats 8000000 in
theorem hasTables_any (p : Int) (dv av vv : Value) (ds : List (List Int)) (ac dn : List (List (List (List Int)))) (w : World) (h : Dx 0 w dv av vv ds ac dn) (hp : IsP p) (hok : DclOk ds) (hba : Bd4 1048576 ac) (hbd : Bd4 1048576 dn) :
    Calls Try.prog 46 #[.agg #[.int .i64 p, dv, av, vv]] w (BB (TbsOk p ds ac dn) w) := by
  have HP := Lib.hid hp
  have hp0 := hp.lo
  have hp1 := hp.hi
  have HOK := Lib.hid hok
  have HBA := Lib.hid hba
  have HBD := Lib.hid hbd
  have hm4 := hok.len1
  have hla8 := hba.1
  have hld8 := hbd.1
  clear hp hok hba hbd
  have hx0 := DBx.start (p := p) 28 h
  obtain ⟨ad, cd, rfl⟩ := Sl.shape h.dims
  obtain ⟨aa, ca, rfl⟩ := Sl.shape h.across
  obtain ⟨av, cv, rfl⟩ := Sl.shape h.down
  clear h
  obtain ⟨m, hm⟩ : ∃ m, m = ds.length := ⟨_, rfl⟩
  obtain ⟨ma, hma⟩ : ∃ m, m = ac.length := ⟨_, rfl⟩
  obtain ⟨md, hmd⟩ : ∃ m, m = dn.length := ⟨_, rfl⟩
  have HM := Lib.hid hm
  have HMA := Lib.hid hma
  have HMD := Lib.hid hmd
  rw [← hm] at hx0 hm4 ⊢
  rw [← hma] at hx0 hla8 ⊢
  rw [← hmd] at hx0 hld8 ⊢
  clear hm hma hmd
  have hx1 := hx0.next (w' := (w.alloc (.cells #[.int .i64 p, .slice ad m cd, .slice aa ma ca, .slice av md cv] 28)).alloc (.cells #[.bool false] 4)) ((Below.refl _ _).alloc (Nat.le_refl _) _)
  clear hx0
  have br := Go.Boxed.new (w.alloc (.cells #[.int .i64 p, .slice ad m cd, .slice aa ma ca, .slice av md cv] 28)) 4 (.bool false)
  rw [World.size_alloc] at br
  have hsz : ((w.alloc (.cells #[.int .i64 p, .slice ad m cd, .slice aa ma ca, .slice av md cv] 28)).alloc (.cells #[.bool false] 4)).heap.size = w.heap.size + 1 + 1 := by simp
  obtain ⟨w1, hw1⟩ : ∃ w1, w1 = (w.alloc (.cells #[.int .i64 p, .slice ad m cd, .slice aa ma ca, .slice av md cv] 28)).alloc (.cells #[.bool false] 4) := ⟨_, rfl⟩
  rw [← hw1] at hx1 br hsz
  have HX1 := Lib.hid hx1
  have c0 := hx1.c0
  have c1 := hx1.c1
  have c2 := hx1.c2
  have c3 := hx1.c3
  have cr := br.cell
  have fr := br.frozen
  have HBR := Lib.hid br
  clear hx1 br
  have hres : Try.f46.results = #[.cell 2 4] := by kernel_rfl
  have HRES := Lib.hid hres
  clear hres
  by_cases hea : ma = m
  · by_cases hed : md = m
    · subst hea
      subst hed
      refine (callsIn_wide (n := 6)).1 ?_
      refine callsIn_of_wp_marks Try.func46 rfl trivial ?_
      simp only [Try.ntmps46, List.size_toArray, List.length_cons, List.length_nil, Nat.reduceAdd, Nat.reduceSub, Array.replicate_succ, Array.replicate_zero, List.push_toArray, List.append_toArray, List.nil_append, List.cons_append]
      have hq1 : ((md : Int) != (md : Int)) = false := by simp
      gi_wp2
      rw [← hw1]
      clear hw1 hq1
      gi_loopw [28] (fun i wr => ∃ (k : Nat), k ≤ md ∧ i = .int .i64 k ∧ wr = w1 ∧ Hid (∀ i, i < k → (ac.getD i []).length = (ds.getD i []).length ∧ (dn.getD i []).length = (ds.getD i []).length)) (fun i _ => md - (intOf i).toNat)
      case atStart => exact ⟨0, Nat.zero_le _, rfl, rfl, Lib.hid (fun _ h => absurd h (Nat.not_lt_zero _))⟩
      case round =>
        obtain ⟨k, hk, rfl, rfl, HC⟩ := hrel
        by_cases hlt : k < md
        · have hlt' : k < ds.length := by rw [← HM.out]; exact hlt
          have hlta : k < ac.length := by rw [← HMA.out]; exact hlt
          have hltd : k < dn.length := by rw [← HMD.out]; exact hlt
          rcases HX1.out.dx.dims with ⟨hx, _⟩ | ⟨b, o, c2', hv, _, _, hcl⟩
          · exact absurd (hx ▸ hlt') (Nat.not_lt_zero _)
          injection hv with e1 e2 e3
          subst e1 e3
          rcases HX1.out.dx.across with ⟨hx, _⟩ | ⟨ba, oa, ca', hva, _, _, hcla⟩
          · exact absurd (hx ▸ hlta) (Nat.not_lt_zero _)
          injection hva with e4 e5 e6
          subst e4 e6
          rcases HX1.out.dx.down with ⟨hx, _⟩ | ⟨bd, od, cd', hvd, _, _, hcld⟩
          · exact absurd (hx ▸ hltd) (Nat.not_lt_zero _)
          injection hvd with e7 e8 e9
          subst e7 e9
          obtain ⟨ur, hur, hrr⟩ := hcl k hlt'
          obtain ⟨ua, hua, hra⟩ := hcla k hlta
          obtain ⟨ud, hud, hrd⟩ := hcld k hltd
          obtain ⟨a1, z1, rfl⟩ := Sl.shape hrr
          obtain ⟨a2, z2, rfl⟩ := Sl.shape hra
          obtain ⟨a3, z3, rfl⟩ := Sl.shape hrd
          rw [← getD_of_lt [] hlt'] at hur
          rw [← getD_of_lt [] hlta] at hua
          rw [← getD_of_lt [] hltd] at hud
          have hqa8 : (ac.getD k []).length ≤ 1048576 := by rw [getD_of_lt _ hlta]; exact (HBA.out.2 _ (List.getElem_mem _)).1
          have hqd8 : (dn.getD k []).length ≤ 1048576 := by rw [getD_of_lt _ hltd]; exact (HBD.out.2 _ (List.getElem_mem _)).1
          have hq4 : (ds.getD k []).length ≤ 4 := by rw [getD_of_lt _ hlt', (HOK.out.col _ (List.getElem_mem hlt')).1]; exact HOK.out.h1
          clear hcl hcla hcld hrr hra hrd e2 e5 e8 hlta hltd hlt'
          obtain ⟨q, hq⟩ : ∃ q, q = (ds.getD k []).length := ⟨_, rfl⟩
          obtain ⟨qa, hqa⟩ : ∃ q, q = (ac.getD k []).length := ⟨_, rfl⟩
          obtain ⟨qd, hqd⟩ : ∃ q, q = (dn.getD k []).length := ⟨_, rfl⟩
          rw [← hq] at hur hq4
          rw [← hqa] at hua hqa8
          rw [← hqd] at hud hqd8
          have HQ := Lib.hid hq
          have HQA := Lib.hid hqa
          have HQD := Lib.hid hqd
          clear hq hqa hqd
          by_cases h1 : qa = q
          · have hq1 : ((qa : Int) != (q : Int)) = false := by rw [h1]; simp
            by_cases h2 : qd = q
            · have hq2 : ((qd : Int) != (q : Int)) = false := by rw [h2]; simp
              gi_wp2
              go_roundw
              case rel => exact ⟨k + 1, by omega, by go_num, by simp, Lib.hid (fun i hi => by
                by_cases e : i = k
                · subst e; exact ⟨by rw [← HQA.out, ← HQ.out]; exact h1, by rw [← HQD.out, ← HQ.out]; exact h2⟩
                · exact HC.out i (by omega))⟩
              case measure => simp [intOf]; omega
            · have hq2 : ((qd : Int) != (q : Int)) = true := by have hz : (qd : Int) ≠ (q : Int) := (by omega); simp [hz]
              have HNO : Hid (¬ TbsOk p ds ac dn) := Lib.hid (fun h => h2 (by rw [HQD.out, HQ.out]; exact h.cd k (by rw [← HM.out]; exact hlt)))
              clear HC
              gi_wp2
              exact ⟨_, results_bool HRES.out _ _ _ _ rfl (HBR.out.set _).cell, bb_false (HX1.out.below.setCell (p := ⟨w.heap.size + 1, 0, none⟩) (Nat.le_succ _) _) HNO.out⟩
          · have hq1 : ((qa : Int) != (q : Int)) = true := by have hz : (qa : Int) ≠ (q : Int) := (by omega); simp [hz]
            have HNO : Hid (¬ TbsOk p ds ac dn) := Lib.hid (fun h => h1 (by rw [HQA.out, HQ.out]; exact h.ca k (by rw [← HM.out]; exact hlt)))
            clear HC
            gi_wp2
            exact ⟨_, results_bool HRES.out _ _ _ _ rfl (HBR.out.set _).cell, bb_false (HX1.out.below.setCell (p := ⟨w.heap.size + 1, 0, none⟩) (Nat.le_succ _) _) HNO.out⟩
        · obtain rfl : k = md := by omega
          gi_wp2_with fail
          refine ⟨trivial, (callsIn_wide.2 (cellsOf_any p _ _ _ _)).mono ?_⟩
          rintro e w2 ⟨rfl, rfl⟩
          dsimp only
          gi_wp2
          have hB0 : Below wr.heap.size wr (wr.alloc (.cells #[.int .i64 p, .slice ad k cd, .slice aa k ca, .slice av k cv] 28)) := (Below.refl _ _).alloc (Nat.le_refl _) _
          have hd0 : (wr.alloc (.cells #[.int .i64 p, .slice ad k cd, .slice aa k ca, .slice av k cv] 28)).cell? ⟨wr.heap.size, 1, none⟩ = some (.slice ad k cd) := by simp
          have hs0 : (wr.alloc (.cells #[.int .i64 p, .slice ad k cd, .slice aa k ca, .slice av k cv] 28)).heap.size = wr.heap.size + 1 := by simp
          have hwb := HX1.out.below.size
          obtain ⟨W0, hW0⟩ : ∃ W0, W0 = wr.alloc (.cells #[.int .i64 p, .slice ad k cd, .slice aa k ca, .slice av k cv] 28) := ⟨_, rfl⟩
          rw [← hW0] at hB0 hd0 hs0 ⊢
          clear hW0
          have hst := cells_stops Fence.wide 5 trivial rfl (by decide) wr.heap.size _ ds (by have := HM.out; omega) (fun r hr => by have := (HOK.out.col r hr).1; have := HOK.out.h1; omega) wr W0 (by omega) hd0 HX1.out.dx.dims hB0
          refine wpIn_rangeFunc_cell rfl (by decide : 1 ≤ 6) (gf := 118) (lb := #[.pointer (some ⟨wr.heap.size, 0, none⟩)]) rfl trivial (enters_of Try.func118 (by kernel_rfl) rfl)
            hst belowK_t (belowK_b (by omega)) (Below.refl _ _) (fun _ => rfl)
            (fun pre W => (∀ c ∈ pre, DTab p ds ac dn c.1) ∧ Below wr.heap.size wr W)
            (fun c _ W => ((c = .ret ∧ ¬ TbsOk p ds ac dn) ∧ Go.Boxed W (w.heap.size + 1) 4 (.bool false)) ∧ Below w.heap.size w W)
            (OwnFrom.and (ownFrom_pure (β := List (CellIn ds)) _ (fun pre => ∀ c ∈ pre, DTab p ds ac dn c.1)) (ownFrom_below (Nat.le_refl _) (by omega)))
            (fun c => OwnFrom.and (OwnFrom.and (ownFrom_pure (β := List (CellIn ds)) _ (fun _ => c = .ret ∧ ¬ TbsOk p ds ac dn)) (Own.from (boxed_own (β := List (CellIn ds)) _ _ (fun _ => Value.bool false)) _)) (ownFrom_below (Nat.le_refl _) (by omega)))
            ⟨fun c h => absurd h (by simp), hB0⟩
            (fun x => #[.int .i64 (x.1.1 : Int), .int .i64 (x.1.2 : Int)]) 5 101 wr.heap.size
            ?assign ?body ?done ?stop
          case assign =>
            rintro l pre x W K ⟨hI, hB1⟩ hK
            simp only [cellV] at hK ⊢
            gi_wp2
            have hk := hK W.heap.size _ hB1.size (World.alloc_heap_new W _) ((KeepsOthers.alloc _ _).from _) ((Below.refl _ W).alloc hB1.size _) ⟨hI, hB1.alloc hB1.size _⟩
            simp at hk
            refine Eq.mp ?_ hk
            congr 1
            all_goals (try congr 1)
            simp
          case body =>
            rintro l pre x Bx W hl ⟨r, hr⟩ ⟨hI, hB1⟩ hBx hX hlt
            obtain ⟨⟨i, j⟩, hxm⟩ := x
            dsimp only at hX
            have hxc := cells_fst hxm
            dsimp only at hxc
            have HX2 := Lib.hid (HX1.out.next hB1)
            have x0 : W.cell? ⟨Bx, 0, none⟩ = some (.int .i64 (i : Int)) := by simp [World.cell?, hX]
            have x1 : W.cell? ⟨Bx, 1, none⟩ = some (.int .i64 (j : Int)) := by simp [World.cell?, hX]
            have HI := Lib.hid hI
            have HB1 := Lib.hid hB1
            clear hI hB1
            have hil : ds.length ≤ 4 := HOK.out.len1
            have hi4 : i < 4 := by have := hxc.1; omega
            have hr1 : (ds.getD i []).length = (ds.getD 0 []).length := by rw [getD_of_lt _ hxc.1]; exact (HOK.out.col _ (List.getElem_mem hxc.1)).1
            have hj4 : j < 4 := by have := hxc.2; have := HOK.out.h1; omega
            have hid : (i : Int) < ds.length := by have := hxc.1; omega
            have HJ0 : Hid (0 ≤ (i : Int) → (j : Int) < (ds.getD (i : Int).toNat []).length) := Lib.hid (fun _ => by rw [Int.toNat_natCast]; have := hxc.2; omega)
            have HJ1 : Hid (0 ≤ (i : Int) - 1 → (j : Int) < (ds.getD ((i : Int) - 1).toNat []).length) := Lib.hid (fun h0 => by
              have hlt1 : ((i : Int) - 1).toNat < ds.length := by omega
              have := (HOK.out.col _ (List.getElem_mem hlt1)).1
              rw [getD_of_lt _ hlt1]
              have := hxc.2
              omega)
            have HJ2 : Hid (0 ≤ (i : Int) → (j : Int) < (ds.getD (i : Int).toNat []).length) := HJ0
            have HNX : Hid (∀ W2, Below W.heap.size W W2 → DBx w W2 w.heap.size p (.slice ad k cd) (.slice aa k ca) (.slice av k cv) ds ac dn) := Lib.hid (fun W2 h => HX2.out.next h)
            have HC0 : Hid (∀ W2, Below W.heap.size W W2 → W2.cell? ⟨Bx, 0, none⟩ = some (.int .i64 (i : Int))) := Lib.hid (fun W2 h => later h (Nat.le_refl _) x0)
            have HC1 : Hid (∀ W2, Below W.heap.size W W2 → W2.cell? ⟨Bx, 1, none⟩ = some (.int .i64 (j : Int))) := Lib.hid (fun W2 h => later h (Nat.le_refl _) x1)
            clear x0 x1 hX
            have HCALL : Hid (∀ W' : World, Below W.heap.size W W' → ∀ i j : Int, -1 ≤ i → -1 ≤ j → i < ds.length → (0 ≤ i → j < (ds.getD i.toNat []).length) → Calls Try.prog 95 #[.agg #[.int .i64 p, .slice ad k cd, .slice aa k ca, .slice av k cv], .agg #[.int .i64 i, .int .i64 j]] W' fun e w' => e = .returned (.int .i64 (dcl ds i j)) ∧ Below W.heap.size W w') :=
              Lib.hid (fun W' hb i j h1 h2 h3 h4 => (dimOfCell_any p i j _ _ _ ds W' (HX2.out.dx.dims.below hb) ⟨by omega, fun r hr => by have := (HOK.out.col r hr).1; have := HOK.out.h1; show r.length ≤ _; omega⟩ h1 h2 h3 h4).mono fun _ _ h => ⟨h.1, hb.trans (h.2.mono hb.size)⟩)
            have HNOUT : Hid (∀ (K : Act → World → Prop) (b : Nat) (xs : List (CellIn ds)), ¬ LetsOut (Exit.then K (Exit.inBlock b (ownPostG W0.heap.size (Below wr.heap.size) (fun pre W => (∀ c ∈ pre, DTab p ds ac dn c.1) ∧ Below wr.heap.size wr W)
              (fun c _ W => ((c = .ret ∧ ¬ TbsOk p ds ac dn) ∧ Go.Boxed W (w.heap.size + 1) 4 (.bool false)) ∧ Below w.heap.size w W) xs W)))) := Lib.hid (fun _ _ _ ⟨_, _, h⟩ => h)
            have hik : i < k := by have := HM.out; omega
            have hia : i < ac.length := by have := HMA.out; omega
            have hiv : i < dn.length := by have := HMD.out; omega
            have hca := (HC.out i hik).1
            have hcv := (HC.out i hik).2
            rcases HX2.out.dx.across with ⟨hx, _⟩ | ⟨ba, oa, ca', hva, _, _, hcla⟩
            · exact absurd (hx ▸ hia) (Nat.not_lt_zero _)
            injection hva with haa _ _
            rcases HX2.out.dx.down with ⟨hx, _⟩ | ⟨bd, od, cd', hvd, _, _, hcld⟩
            · exact absurd (hx ▸ hiv) (Nat.not_lt_zero _)
            injection hvd with hvv _ _
            obtain ⟨ua, hA1, hra⟩ := hcla i hia
            obtain ⟨ud, hD1, hrd⟩ := hcld i hiv
            rw [getD_of_lt _ hia] at hca
            rw [getD_of_lt _ hiv] at hcv
            have hja' : j < (ac[i]).length := by have := hxc.2; omega
            have hjd' : j < (dn[i]).length := by have := hxc.2; omega
            have hT1b : Bd2 1048576 (ac[i])[j] := (HBA.out.2 _ (List.getElem_mem hia)).2 _ (List.getElem_mem hja')
            have hT2b : Bd2 1048576 (dn[i])[j] := (HBD.out.2 _ (List.getElem_mem hiv)).2 _ (List.getElem_mem hjd')
            rcases hra with ⟨hx, _⟩ | ⟨b2, o2, c2, rfl, _, _, hcl2⟩
            · rw [hx] at hja'; exact absurd hja' (Nat.not_lt_zero _)
            rcases hrd with ⟨hx, _⟩ | ⟨b3, o3, c3, rfl, _, _, hcl3⟩
            · rw [hx] at hjd'; exact absurd hjd' (Nat.not_lt_zero _)
            obtain ⟨u2, hA2, hT1l⟩ := hcl2 j hja'
            obtain ⟨u3', hD2, hT2l⟩ := hcl3 j hjd'
            have HDT : Hid ((TabOk p (dcl ds i j) (dcl ds ((i : Int) - 1) j) (ac[i])[j] ∧ TabOk p (dcl ds i j) (dcl ds i ((j : Int) - 1)) (dn[i])[j]) ↔ DTab p ds ac dn (i, j)) := Lib.hid (by
              show _ ↔ (TabOk p _ _ ((ac.getD i []).getD j []) ∧ TabOk p _ _ ((dn.getD i []).getD j []))
              rw [getD_of_lt _ hia, getD_of_lt _ hiv, getD_of_lt _ hja', getD_of_lt _ hjd'])
            have HT1l := Lib.hid hT1l
            have HT2l := Lib.hid hT2l
            obtain ⟨t2a, t2c, rfl⟩ := Sl.shape hT1l
            obtain ⟨t3a, t3c, rfl⟩ := Sl.shape hT2l
            have HT1 : Hid (∀ W2, Below W.heap.size W W2 → Calls Try.prog 96 #[.int .i64 p, .slice t2a ((ac[i])[j]).length t2c, .int .i64 (dcl ds i j), .int .i64 (dcl ds ((i : Int) - 1) j)] W2 (BW (TabOk p (dcl ds i j) (dcl ds ((i : Int) - 1) j) (ac[i])[j]) W2)) := Lib.hid (fun W2 h => isTable_any p _ _ _ _ W2 HP.out (HT1l.out.below h) hT1b)
            have HT2 : Hid (∀ W2, Below W.heap.size W W2 → Calls Try.prog 96 #[.int .i64 p, .slice t3a ((dn[i])[j]).length t3c, .int .i64 (dcl ds i j), .int .i64 (dcl ds i ((j : Int) - 1))] W2 (BW (TabOk p (dcl ds i j) (dcl ds i ((j : Int) - 1)) (dn[i])[j]) W2)) := Lib.hid (fun W2 h => isTable_any p _ _ _ _ W2 HP.out (HT2l.out.below h) hT2b)
            have HYES : Hid (TabOk p (dcl ds i j) (dcl ds ((i : Int) - 1) j) (ac[i])[j] → TabOk p (dcl ds i j) (dcl ds i ((j : Int) - 1)) (dn[i])[j] → ∀ z : CellIn ds, z.1 = (i, j) → ∀ c ∈ pre ++ [z], DTab p ds ac dn c.1) := Lib.hid (fun h1 h2 z hz c hc => by
              rcases List.mem_append.1 hc with hc | hc
              · exact HI.out c hc
              · rw [List.mem_singleton.1 hc, hz]; exact HDT.out.1 ⟨h1, h2⟩)
            have HNO : Hid (¬ (TabOk p (dcl ds i j) (dcl ds ((i : Int) - 1) j) (ac[i])[j] ∧ TabOk p (dcl ds i j) (dcl ds i ((j : Int) - 1)) (dn[i])[j]) → ¬ TbsOk p ds ac dn) := Lib.hid (fun hn h => hn (HDT.out.2 (h.tab _ hxm)))
            have HBX : Hid (∀ W2, Below W.heap.size W W2 → Go.Boxed W2 (w.heap.size + 1) 4 (.bool false)) := Lib.hid (fun W2 h => ((HB1.out.trans (h.mono HB1.out.size)).block _ (by omega)).trans HBR.out)
            obtain ⟨t2n, ht2n⟩ : ∃ n, n = ((ac[i])[j]).length := ⟨_, rfl⟩
            obtain ⟨t3n, ht3n⟩ : ∃ n, n = ((dn[i])[j]).length := ⟨_, rfl⟩
            obtain ⟨TA, hTA⟩ : ∃ t, t = (ac[i])[j] := ⟨_, rfl⟩
            obtain ⟨TD, hTD⟩ : ∃ t, t = (dn[i])[j] := ⟨_, rfl⟩
            rw [← ht2n] at HT1 hA2
            rw [← ht3n] at HT2 hD2
            rw [← hTA] at HT1 HYES HNO
            rw [← hTD] at HT2 HYES HNO
            obtain ⟨qa, hqa⟩ : ∃ n, n = (ac[i]).length := ⟨_, rfl⟩
            obtain ⟨qd, hqd⟩ : ∃ n, n = (dn[i]).length := ⟨_, rfl⟩
            rw [← hqa] at hA1
            rw [← hqd] at hD1
            have hja : j < qa := by omega
            have hjd : j < qd := by omega
            clear hsz hcla hcld hcl2 hcl3 hT1l hT2l ht2n ht3n hTA hTD hqa hqd hT1b hT2b hja' hjd' hca hcv HDT HT1l HT2l
            gi_wp2_with fail
            -- ROUND
            refine wpIn_region_held (S := fun W2 => Below W.heap.size W W2) (by kernel_rfl) (by kernel_rfl) (HNOUT.out _ _ _) ?_
            have S0 : Below W.heap.size W W.drew := (Below.refl _ _).drew
            change wpAnyH _ _ _ _ _ _ _ _ W.drew
            generalize W.drew = wd at *
            refine held_take (i := 0) (v := .agg #[.int .i64 p, .slice ad k cd, .slice aa k ca, .slice av k cv]) (some 57) rfl rfl (by kernel_rfl) (by kernel_rfl) (by kernel_rfl) (fun _ _ _ h => h) (yieldsIf_cell (by kernel_rfl) rfl (by kernel_rfl) (fun W2 h => hloadDb W2 (HNX.out W2 h))) S0 ?_
            refine held_take (i := 1) (v := .agg #[.int .i64 (i : Int), .int .i64 (j : Int)]) (some 58) rfl rfl (by kernel_rfl) (by kernel_rfl) (by kernel_rfl) (fun _ _ _ h => h) (yieldsIf_cell (by kernel_rfl) rfl (by kernel_rfl) (fun W2 h => hloadCe W2 (HC0.out W2 h) (HC1.out W2 h))) S0 ?_
            refine held_take (i := 3) (v := .agg #[.int .i64 p, .slice ad k cd, .slice aa k ca, .slice av k cv]) (some 60) rfl rfl (by kernel_rfl) (by kernel_rfl) (by kernel_rfl) (fun _ _ _ h => h) (yieldsIf_cell (by kernel_rfl) rfl (by kernel_rfl) (fun W2 h => hloadDb W2 (HNX.out W2 h))) S0 ?_
            refine held_take (i := 4) (v := .pointer (some ⟨Bx, 0, none⟩)) (some 61) rfl rfl (by kernel_rfl) (by kernel_rfl) (by kernel_rfl) (fun _ _ _ h => h) (yieldsIf_run0 (by kernel_rfl) (fun W _ => by kernel_rfl)) S0 ?_
            refine held_take (i := 5) (v := .int .i64 (i : Int)) (some 62) rfl rfl (by kernel_rfl) (by kernel_rfl) (by kernel_rfl) (fun _ _ _ h => h) (yieldsIf_cell (by kernel_rfl) rfl (by kernel_rfl) (fun W2 h => hloadIn W2 (HC0.out W2 h))) S0 ?_
            refine held_take (i := 6) (v := .int .i64 ((i : Int) - 1)) (some 63) rfl rfl (by kernel_rfl) (by kernel_rfl) (by kernel_rfl) (fun _ _ _ h => h) (yieldsIf_binD (by kernel_rfl) rfl (by kernel_rfl) (by kernel_rfl) (fun _ => by kernel_rfl) (fun W2 => hsubB (by omega) (by omega) W2)) S0 ?_
            refine held_take (i := 7) (v := .pointer (some ⟨Bx, 1, none⟩)) (some 64) rfl rfl (by kernel_rfl) (by kernel_rfl) (by kernel_rfl) (fun _ _ _ h => h) (yieldsIf_run0 (by kernel_rfl) (fun W _ => by kernel_rfl)) S0 ?_
            refine held_take (i := 8) (v := .int .i64 (j : Int)) (some 65) rfl rfl (by kernel_rfl) (by kernel_rfl) (by kernel_rfl) (fun _ _ _ h => h) (yieldsIf_cell (by kernel_rfl) rfl (by kernel_rfl) (fun W2 h => hloadIn W2 (HC1.out W2 h))) S0 ?_
            refine held_take (i := 9) (v := .agg #[.int .i64 ((i : Int) - 1), .int .i64 (j : Int)]) (some 66) rfl rfl (by kernel_rfl) (by kernel_rfl) (by kernel_rfl) (fun _ _ _ h => h) (yieldsIf_run0 (by kernel_rfl) (fun W _ => by kernel_rfl)) S0 ?_
            refine held_take (i := 11) (v := .agg #[.int .i64 p, .slice ad k cd, .slice aa k ca, .slice av k cv]) (some 68) rfl rfl (by kernel_rfl) (by kernel_rfl) (by kernel_rfl) (fun _ _ _ h => h) (yieldsIf_cell (by kernel_rfl) rfl (by kernel_rfl) (fun W2 h => hloadDb W2 (HNX.out W2 h))) S0 ?_
            refine held_take (i := 12) (v := .pointer (some ⟨Bx, 0, none⟩)) (some 69) rfl rfl (by kernel_rfl) (by kernel_rfl) (by kernel_rfl) (fun _ _ _ h => h) (yieldsIf_run0 (by kernel_rfl) (fun W _ => by kernel_rfl)) S0 ?_
            refine held_take (i := 13) (v := .int .i64 (i : Int)) (some 70) rfl rfl (by kernel_rfl) (by kernel_rfl) (by kernel_rfl) (fun _ _ _ h => h) (yieldsIf_cell (by kernel_rfl) rfl (by kernel_rfl) (fun W2 h => hloadIn W2 (HC0.out W2 h))) S0 ?_
            refine held_take (i := 14) (v := .pointer (some ⟨Bx, 1, none⟩)) (some 71) rfl rfl (by kernel_rfl) (by kernel_rfl) (by kernel_rfl) (fun _ _ _ h => h) (yieldsIf_run0 (by kernel_rfl) (fun W _ => by kernel_rfl)) S0 ?_
            refine held_take (i := 15) (v := .int .i64 (j : Int)) (some 72) rfl rfl (by kernel_rfl) (by kernel_rfl) (by kernel_rfl) (fun _ _ _ h => h) (yieldsIf_cell (by kernel_rfl) rfl (by kernel_rfl) (fun W2 h => hloadIn W2 (HC1.out W2 h))) S0 ?_
            refine held_take (i := 16) (v := .int .i64 ((j : Int) - 1)) (some 73) rfl rfl (by kernel_rfl) (by kernel_rfl) (by kernel_rfl) (fun _ _ _ h => h) (yieldsIf_binD (by kernel_rfl) rfl (by kernel_rfl) (by kernel_rfl) (fun _ => by kernel_rfl) (fun W2 => hsubB (by omega) (by omega) W2)) S0 ?_
            refine held_take (i := 17) (v := .agg #[.int .i64 (i : Int), .int .i64 ((j : Int) - 1)]) (some 74) rfl rfl (by kernel_rfl) (by kernel_rfl) (by kernel_rfl) (fun _ _ _ h => h) (yieldsIf_run0 (by kernel_rfl) (fun W _ => by kernel_rfl)) S0 ?_
            refine held_enter (i := 2) (some 59) (f := 95) (args := #[.agg #[.int .i64 p, .slice ad k cd, .slice aa k ca, .slice av k cv], .agg #[.int .i64 (i : Int), .int .i64 (j : Int)]]) (by kernel_rfl) rfl rfl rfl (by kernel_rfl) (HCALL.out wd S0 (i : Int) (j : Int) (by omega) (by omega) (by omega) (fun h0 => by have := HJ0.out h0; omega)) ?_ (fun c w' h => by obtain ⟨h, _⟩ := h; cases h) (fun w' h => by obtain ⟨h, _⟩ := h; cases h)
            rintro v0 wa ⟨hv0, S1⟩
            injection hv0 with hv0
            subst hv0
            refine ⟨S1, ?_⟩
            refine held_enter (i := 10) (some 67) (f := 95) (args := #[.agg #[.int .i64 p, .slice ad k cd, .slice aa k ca, .slice av k cv], .agg #[.int .i64 ((i : Int) - 1), .int .i64 (j : Int)]]) (by kernel_rfl) rfl rfl rfl (by kernel_rfl) (HCALL.out wa S1 ((i : Int) - 1) (j : Int) (by omega) (by omega) (by omega) (fun h0 => by have := HJ1.out h0; omega)) ?_ (fun c w' h => by obtain ⟨h, _⟩ := h; cases h) (fun w' h => by obtain ⟨h, _⟩ := h; cases h)
            rintro v1 wb ⟨hv1, S2⟩
            injection hv1 with hv1
            subst hv1
            refine ⟨S2, ?_⟩
            refine held_enter (i := 18) (some 75) (f := 95) (args := #[.agg #[.int .i64 p, .slice ad k cd, .slice aa k ca, .slice av k cv], .agg #[.int .i64 (i : Int), .int .i64 ((j : Int) - 1)]]) (by kernel_rfl) rfl rfl rfl (by kernel_rfl) (HCALL.out wb S2 (i : Int) ((j : Int) - 1) (by omega) (by omega) (by omega) (fun h0 => by have := HJ2.out h0; omega)) ?_ (fun c w' h => by obtain ⟨h, _⟩ := h; cases h) (fun w' h => by obtain ⟨h, _⟩ := h; cases h)
            rintro v2 wc ⟨hv2, S3⟩
            injection hv2 with hv2
            subst hv2
            refine ⟨S3, ?_⟩
            refine held_take (i := 19) (v := .int .i64 (dcl ds i j)) (some 6) rfl rfl (by kernel_rfl) (by kernel_rfl) (by kernel_rfl) (fun _ _ _ h => h) (yieldsIf_run0 (by kernel_rfl) (fun W _ => by kernel_rfl)) S3 ?_
            refine held_take (i := 20) (v := .int .i64 (dcl ds ((i : Int) - 1) j)) (some 7) rfl rfl (by kernel_rfl) (by kernel_rfl) (by kernel_rfl) (fun _ _ _ h => h) (yieldsIf_run0 (by kernel_rfl) (fun W _ => by kernel_rfl)) S3 ?_
            refine held_take (i := 21) (v := .int .i64 (dcl ds i ((j : Int) - 1))) (some 8) rfl rfl (by kernel_rfl) (by kernel_rfl) (by kernel_rfl) (fun _ _ _ h => h) (yieldsIf_run0 (by kernel_rfl) (fun W _ => by kernel_rfl)) S3 ?_
            refine wpAnyH_done (by kernel_rfl) ?_ _
            simp only [Act.put, List.setIfInBounds_toArray, List.set_cons_zero, List.set_cons_succ]
            clear S0 S1 S2
            gi_wp2_with fail
            have HS3 := Lib.hid S3
            clear S3
            have hcr := fun W2 (h : Below W.heap.size W W2) => (HBX.out W2 h).cell
            clear hcr
            refine wpIn_region_held (S := fun W2 => Below W.heap.size W W2) (by kernel_rfl) (by kernel_rfl) (HNOUT.out _ _ _) ?_
            have S4 : Below W.heap.size W wc.drew := HS3.out.drew
            change wpAnyH _ _ _ _ _ _ _ _ wc.drew
            generalize wc.drew = we at *
            refine held_take (i := 0) (v := .pointer (some ⟨w.heap.size, 0, none⟩)) (some 76) rfl rfl (by kernel_rfl) (by kernel_rfl) (by kernel_rfl) (fun _ _ _ h => h) (yieldsIf_run0 (by kernel_rfl) (fun W _ => by kernel_rfl)) S4 ?_
            refine held_take (i := 1) (v := .int .i64 p) (some 77) rfl rfl (by kernel_rfl) (by kernel_rfl) (by kernel_rfl) (fun _ _ _ h => h) (yieldsIf_cell (by kernel_rfl) rfl (by kernel_rfl) (fun W2 h => hloadIn W2 ((HNX.out W2 h).c0))) S4 ?_
            refine held_take (i := 2) (v := .pointer (some ⟨w.heap.size, 2, none⟩)) (some 78) rfl rfl (by kernel_rfl) (by kernel_rfl) (by kernel_rfl) (fun _ _ _ h => h) (yieldsIf_run0 (by kernel_rfl) (fun W _ => by kernel_rfl)) S4 ?_
            refine held_take (i := 3) (v := .slice aa k ca) (some 79) rfl rfl (by kernel_rfl) (by kernel_rfl) (by kernel_rfl) (fun _ _ _ h => h) (yieldsIf_cell (by kernel_rfl) rfl (by kernel_rfl) (fun W2 h => hload4 W2 ((HNX.out W2 h).c2))) S4 ?_
            refine held_take (i := 4) (v := .pointer (some ⟨Bx, 0, none⟩)) (some 80) rfl rfl (by kernel_rfl) (by kernel_rfl) (by kernel_rfl) (fun _ _ _ h => h) (yieldsIf_run0 (by kernel_rfl) (fun W _ => by kernel_rfl)) S4 ?_
            refine held_take (i := 5) (v := .int .i64 (i : Int)) (some 81) rfl rfl (by kernel_rfl) (by kernel_rfl) (by kernel_rfl) (fun _ _ _ h => h) (yieldsIf_cell (by kernel_rfl) rfl (by kernel_rfl) (fun W2 h => hloadIn W2 (HC0.out W2 h))) S4 ?_
            refine held_take (i := 6) (v := .pointer (some ⟨ba, oa + i, none⟩)) (some 82) rfl rfl (by kernel_rfl) (by kernel_rfl) (by kernel_rfl) (fun _ _ _ h => h) (yieldsIf_index (u := .slice aa k ca) (i := .int .i64 (i : Int)) (by kernel_rfl) rfl (by kernel_rfl) (by kernel_rfl) (fun W2 => hidx4 haa hik W2)) S4 ?_
            refine held_take (i := 7) (v := .slice (some ⟨b2, o2, none⟩) qa c2) (some 83) rfl rfl (by kernel_rfl) (by kernel_rfl) (by kernel_rfl) (fun _ _ _ h => h) (yieldsIf_cell (by kernel_rfl) rfl (by kernel_rfl) (fun W2 h => hload3s W2 (later h (Nat.le_refl _) hA1))) S4 ?_
            refine held_take (i := 8) (v := .pointer (some ⟨Bx, 1, none⟩)) (some 84) rfl rfl (by kernel_rfl) (by kernel_rfl) (by kernel_rfl) (fun _ _ _ h => h) (yieldsIf_run0 (by kernel_rfl) (fun W _ => by kernel_rfl)) S4 ?_
            refine held_take (i := 9) (v := .int .i64 (j : Int)) (some 85) rfl rfl (by kernel_rfl) (by kernel_rfl) (by kernel_rfl) (fun _ _ _ h => h) (yieldsIf_cell (by kernel_rfl) rfl (by kernel_rfl) (fun W2 h => hloadIn W2 (HC1.out W2 h))) S4 ?_
            refine held_take (i := 10) (v := .pointer (some ⟨b2, o2 + j, none⟩)) (some 86) rfl rfl (by kernel_rfl) (by kernel_rfl) (by kernel_rfl) (fun _ _ _ h => h) (yieldsIf_index (u := .slice (some ⟨b2, o2, none⟩) qa c2) (i := .int .i64 (j : Int)) (by kernel_rfl) rfl (by kernel_rfl) (by kernel_rfl) (fun W2 => hidx3 b2 o2 c2 hja W2)) S4 ?_
            refine held_take (i := 11) (v := .slice t2a t2n t2c) (some 87) rfl rfl (by kernel_rfl) (by kernel_rfl) (by kernel_rfl) (fun _ _ _ h => h) (yieldsIf_cell (by kernel_rfl) rfl (by kernel_rfl) (fun W2 h => hload2s W2 (later h (Nat.le_refl _) hA2))) S4 ?_
            refine held_take (i := 12) (v := .int .i64 (dcl ds i j)) (some 88) rfl rfl (by kernel_rfl) (by kernel_rfl) (by kernel_rfl) (fun _ _ _ h => h) (yieldsIf_move (by kernel_rfl) rfl (by kernel_rfl)) S4 ?_
            refine held_take (i := 13) (v := .int .i64 (dcl ds ((i : Int) - 1) j)) (some 89) rfl rfl (by kernel_rfl) (by kernel_rfl) (by kernel_rfl) (fun _ _ _ h => h) (yieldsIf_move (by kernel_rfl) rfl (by kernel_rfl)) S4 ?_
            refine held_enter (i := 14) (some 90) (f := 96) (args := #[.int .i64 p, .slice t2a t2n t2c, .int .i64 (dcl ds i j), .int .i64 (dcl ds ((i : Int) - 1) j)]) (by kernel_rfl) rfl rfl rfl (by kernel_rfl) (HT1.out we S4) ?_ (fun c w' h => by obtain ⟨_, h, _⟩ := h; cases h) (fun w' h => by obtain ⟨_, h, _⟩ := h; cases h)
            rintro v5 w5 ⟨bb, hv5, hw5, hbb⟩
            injection hv5 with hv5
            subst hv5
            subst hw5
            refine ⟨S4, ?_⟩
            have HBB := Lib.hid hbb
            clear hbb
            cases bb with
            | true =>
              refine held_take (i := 15) (v := .bool false) (some 91) rfl rfl (by kernel_rfl) (by kernel_rfl) (by kernel_rfl) (fun _ _ _ h => h) (yieldsIf_run0 (by kernel_rfl) (fun W _ => by kernel_rfl)) S4 ?_
              refine held_take (i := 16) (v := .bool false) (some 92) rfl rfl (by kernel_rfl) (by kernel_rfl) (by kernel_rfl) (fun _ _ _ h => h) (yieldsIf_move (by kernel_rfl) rfl (by kernel_rfl)) S4 ?_
              refine held_take (i := 17) (v := .pointer (some ⟨w.heap.size, 0, none⟩)) (some 93) rfl rfl (by kernel_rfl) (by kernel_rfl) (by kernel_rfl) (fun _ _ _ h => h) (yieldsIf_runG (by kernel_rfl) (fun W _ => by kernel_rfl)) S4 ?_
              refine held_take (i := 18) (v := .int .i64 p) (some 94) rfl rfl (by kernel_rfl) (by kernel_rfl) (by kernel_rfl) (fun _ _ _ h => h) (yieldsIf_cellG (by kernel_rfl) rfl (by kernel_rfl) (fun W2 h => hloadIn W2 ((HNX.out W2 h).c0))) S4 ?_
              refine held_take (i := 19) (v := .pointer (some ⟨w.heap.size, 3, none⟩)) (some 95) rfl rfl (by kernel_rfl) (by kernel_rfl) (by kernel_rfl) (fun _ _ _ h => h) (yieldsIf_runG (by kernel_rfl) (fun W _ => by kernel_rfl)) S4 ?_
              refine held_take (i := 20) (v := .slice av k cv) (some 96) rfl rfl (by kernel_rfl) (by kernel_rfl) (by kernel_rfl) (fun _ _ _ h => h) (yieldsIf_cellG (by kernel_rfl) rfl (by kernel_rfl) (fun W2 h => hload4 W2 ((HNX.out W2 h).c3))) S4 ?_
              refine held_take (i := 21) (v := .pointer (some ⟨Bx, 0, none⟩)) (some 97) rfl rfl (by kernel_rfl) (by kernel_rfl) (by kernel_rfl) (fun _ _ _ h => h) (yieldsIf_runG (by kernel_rfl) (fun W _ => by kernel_rfl)) S4 ?_
              refine held_take (i := 22) (v := .int .i64 (i : Int)) (some 98) rfl rfl (by kernel_rfl) (by kernel_rfl) (by kernel_rfl) (fun _ _ _ h => h) (yieldsIf_cellG (by kernel_rfl) rfl (by kernel_rfl) (fun W2 h => hloadIn W2 (HC0.out W2 h))) S4 ?_
              refine held_take (i := 23) (v := .pointer (some ⟨bd, od + i, none⟩)) (some 99) rfl rfl (by kernel_rfl) (by kernel_rfl) (by kernel_rfl) (fun _ _ _ h => h) (yieldsIf_indexD (u := .slice av k cv) (i := .int .i64 (i : Int)) (by kernel_rfl) rfl (by kernel_rfl) (by kernel_rfl) (fun W2 => hidx4 hvv hik W2)) S4 ?_
              refine held_take (i := 24) (v := .slice (some ⟨b3, o3, none⟩) qd c3) (some 100) rfl rfl (by kernel_rfl) (by kernel_rfl) (by kernel_rfl) (fun _ _ _ h => h) (yieldsIf_cellG (by kernel_rfl) rfl (by kernel_rfl) (fun W2 h => hload3s W2 (later h (Nat.le_refl _) hD1))) S4 ?_
              refine held_take (i := 25) (v := .pointer (some ⟨Bx, 1, none⟩)) (some 101) rfl rfl (by kernel_rfl) (by kernel_rfl) (by kernel_rfl) (fun _ _ _ h => h) (yieldsIf_runG (by kernel_rfl) (fun W _ => by kernel_rfl)) S4 ?_
              refine held_take (i := 26) (v := .int .i64 (j : Int)) (some 102) rfl rfl (by kernel_rfl) (by kernel_rfl) (by kernel_rfl) (fun _ _ _ h => h) (yieldsIf_cellG (by kernel_rfl) rfl (by kernel_rfl) (fun W2 h => hloadIn W2 (HC1.out W2 h))) S4 ?_
              refine held_take (i := 27) (v := .pointer (some ⟨b3, o3 + j, none⟩)) (some 103) rfl rfl (by kernel_rfl) (by kernel_rfl) (by kernel_rfl) (fun _ _ _ h => h) (yieldsIf_indexD (u := .slice (some ⟨b3, o3, none⟩) qd c3) (i := .int .i64 (j : Int)) (by kernel_rfl) rfl (by kernel_rfl) (by kernel_rfl) (fun W2 => hidx3 b3 o3 c3 hjd W2)) S4 ?_
              refine held_take (i := 28) (v := .slice t3a t3n t3c) (some 104) rfl rfl (by kernel_rfl) (by kernel_rfl) (by kernel_rfl) (fun _ _ _ h => h) (yieldsIf_cellG (by kernel_rfl) rfl (by kernel_rfl) (fun W2 h => hload2s W2 (later h (Nat.le_refl _) hD2))) S4 ?_
              refine held_take (i := 29) (v := .int .i64 (dcl ds i j)) (some 105) rfl rfl (by kernel_rfl) (by kernel_rfl) (by kernel_rfl) (fun _ _ _ h => h) (yieldsIf_runG (by kernel_rfl) (fun W _ => by kernel_rfl)) S4 ?_
              refine held_take (i := 30) (v := .int .i64 (dcl ds i ((j : Int) - 1))) (some 106) rfl rfl (by kernel_rfl) (by kernel_rfl) (by kernel_rfl) (fun _ _ _ h => h) (yieldsIf_runG (by kernel_rfl) (fun W _ => by kernel_rfl)) S4 ?_
              refine held_enterG (i := 31) (some 107) (f := 96) (args := #[.int .i64 p, .slice t3a t3n t3c, .int .i64 (dcl ds i j), .int .i64 (dcl ds i ((j : Int) - 1))]) (by kernel_rfl) rfl (by kernel_rfl) rfl (by kernel_rfl) (HT2.out we S4) ?_ (fun c w' h => by obtain ⟨_, h, _⟩ := h; cases h) (fun w' h => by obtain ⟨_, h, _⟩ := h; cases h)
              rintro v6 w6 ⟨bc, hv6, hw6, hbc⟩
              injection hv6 with hv6
              subst hv6
              subst hw6
              refine ⟨S4, ?_⟩
              have HBC := Lib.hid hbc
              clear hbc
              cases bc with
              | true =>
                refine held_take (i := 32) (v := .bool false) (some 108) rfl rfl (by kernel_rfl) (by kernel_rfl) (by kernel_rfl) (fun _ _ _ h => h) (yieldsIf_runG (by kernel_rfl) (fun W _ => by kernel_rfl)) S4 ?_
                refine held_take (i := 33) (v := .bool false) (some 109) rfl rfl (by kernel_rfl) (by kernel_rfl) (by kernel_rfl) (fun _ _ _ h => h) (yieldsIf_run0 (by kernel_rfl) (fun W _ => by kernel_rfl)) S4 ?_
                refine wpAnyH_done (by kernel_rfl) ?_ _
                simp only [Act.put, List.setIfInBounds_toArray, List.set_cons_zero, List.set_cons_succ]
                have HS4 := Lib.hid S4
                clear S4
                gi_wp2
                exact ⟨keepsFrom_below HS4.out, HS4.out.mono HB1.out.size, HYES.out (HBB.out.1 (by simp)) (HBC.out.1 (by simp)) _ rfl, HB1.out.trans (HS4.out.mono HB1.out.size)⟩
              | false =>
                refine held_take (i := 32) (v := .bool true) (some 108) rfl rfl (by kernel_rfl) (by kernel_rfl) (by kernel_rfl) (fun _ _ _ h => h) (yieldsIf_runG (by kernel_rfl) (fun W _ => by kernel_rfl)) S4 ?_
                refine held_take (i := 33) (v := .bool true) (some 109) rfl rfl (by kernel_rfl) (by kernel_rfl) (by kernel_rfl) (fun _ _ _ h => h) (yieldsIf_run0 (by kernel_rfl) (fun W _ => by kernel_rfl)) S4 ?_
                refine wpAnyH_done (by kernel_rfl) ?_ _
                simp only [Act.put, List.setIfInBounds_toArray, List.set_cons_zero, List.set_cons_succ]
                have cr2 := (HBX.out we S4).cell
                have fr2 := (HBX.out we S4).frozen
                have HS4 := Lib.hid S4
                clear S4
                gi_wp2
                exact ⟨(keepsFrom_below HS4.out).trans ((KeepsOthers.setCell _ _ _).from _), ⟨⟨rfl, HNO.out (fun h => absurd (HBC.out.2 h.2) (by simp))⟩, (HBX.out we HS4.out).set _⟩, ((HNX.out we HS4.out).below).setCell (p := ⟨w.heap.size + 1, 0, none⟩) (Nat.le_succ _) _⟩
            | false =>
              refine held_take (i := 15) (v := .bool true) (some 91) rfl rfl (by kernel_rfl) (by kernel_rfl) (by kernel_rfl) (fun _ _ _ h => h) (yieldsIf_run0 (by kernel_rfl) (fun W _ => by kernel_rfl)) S4 ?_
              refine held_take (i := 16) (v := .bool true) (some 92) rfl rfl (by kernel_rfl) (by kernel_rfl) (by kernel_rfl) (fun _ _ _ h => h) (yieldsIf_move (by kernel_rfl) rfl (by kernel_rfl)) S4 ?_
              refine held_skip0 (i := 17) (some 93) rfl rfl (by kernel_rfl) (by kernel_rfl) (by kernel_rfl) (fun _ _ _ h => h) (by kernel_rfl) S4 ?_
              refine held_skip0 (i := 18) (some 94) rfl rfl (by kernel_rfl) (by kernel_rfl) (by kernel_rfl) (fun _ _ _ h => h) (by kernel_rfl) S4 ?_
              refine held_skip0 (i := 19) (some 95) rfl rfl (by kernel_rfl) (by kernel_rfl) (by kernel_rfl) (fun _ _ _ h => h) (by kernel_rfl) S4 ?_
              refine held_skip0 (i := 20) (some 96) rfl rfl (by kernel_rfl) (by kernel_rfl) (by kernel_rfl) (fun _ _ _ h => h) (by kernel_rfl) S4 ?_
              refine held_skip0 (i := 21) (some 97) rfl rfl (by kernel_rfl) (by kernel_rfl) (by kernel_rfl) (fun _ _ _ h => h) (by kernel_rfl) S4 ?_
              refine held_skip0 (i := 22) (some 98) rfl rfl (by kernel_rfl) (by kernel_rfl) (by kernel_rfl) (fun _ _ _ h => h) (by kernel_rfl) S4 ?_
              refine held_skip0 (i := 23) (some 99) rfl rfl (by kernel_rfl) (by kernel_rfl) (by kernel_rfl) (fun _ _ _ h => h) (by kernel_rfl) S4 ?_
              refine held_skip0 (i := 24) (some 100) rfl rfl (by kernel_rfl) (by kernel_rfl) (by kernel_rfl) (fun _ _ _ h => h) (by kernel_rfl) S4 ?_
              refine held_skip0 (i := 25) (some 101) rfl rfl (by kernel_rfl) (by kernel_rfl) (by kernel_rfl) (fun _ _ _ h => h) (by kernel_rfl) S4 ?_
              refine held_skip0 (i := 26) (some 102) rfl rfl (by kernel_rfl) (by kernel_rfl) (by kernel_rfl) (fun _ _ _ h => h) (by kernel_rfl) S4 ?_
              refine held_skip0 (i := 27) (some 103) rfl rfl (by kernel_rfl) (by kernel_rfl) (by kernel_rfl) (fun _ _ _ h => h) (by kernel_rfl) S4 ?_
              refine held_skip0 (i := 28) (some 104) rfl rfl (by kernel_rfl) (by kernel_rfl) (by kernel_rfl) (fun _ _ _ h => h) (by kernel_rfl) S4 ?_
              refine held_skip0 (i := 29) (some 105) rfl rfl (by kernel_rfl) (by kernel_rfl) (by kernel_rfl) (fun _ _ _ h => h) (by kernel_rfl) S4 ?_
              refine held_skip0 (i := 30) (some 106) rfl rfl (by kernel_rfl) (by kernel_rfl) (by kernel_rfl) (fun _ _ _ h => h) (by kernel_rfl) S4 ?_
              refine held_skip0 (i := 31) (some 107) rfl rfl (by kernel_rfl) (by kernel_rfl) (by kernel_rfl) (fun _ _ _ h => h) (by kernel_rfl) S4 ?_
              refine held_skip0 (i := 32) (some 108) rfl rfl (by kernel_rfl) (by kernel_rfl) (by kernel_rfl) (fun _ _ _ h => h) (by kernel_rfl) S4 ?_
              refine held_take (i := 33) (v := .bool true) (some 109) rfl rfl (by kernel_rfl) (by kernel_rfl) (by kernel_rfl) (fun _ _ _ h => h) (yieldsIf_run0 (by kernel_rfl) (fun W _ => by kernel_rfl)) S4 ?_
              refine wpAnyH_done (by kernel_rfl) ?_ _
              simp only [Act.put, List.setIfInBounds_toArray, List.set_cons_zero, List.set_cons_succ]
              have cr2 := (HBX.out we S4).cell
              have fr2 := (HBX.out we S4).frozen
              have HS4 := Lib.hid S4
              clear S4
              gi_wp2
              exact ⟨(keepsFrom_below HS4.out).trans ((KeepsOthers.setCell _ _ _).from _), ⟨⟨rfl, HNO.out (fun h => absurd (HBB.out.2 h.1) (by simp))⟩, (HBX.out we HS4.out).set _⟩, ((HNX.out we HS4.out).below).setCell (p := ⟨w.heap.size + 1, 0, none⟩) (Nat.le_succ _) _⟩
          case done =>
            rintro D zs W hD hS ⟨hI, hB1⟩ hK
            have hDw : w.heap.size ≤ D := by omega
            have hbw : Go.Boxed W (w.heap.size + 1) 4 (.bool false) := (hB1.block _ (by omega)).trans HBR.out
            have cr2 := hbw.cell
            have fr2 := hbw.frozen
            have HOK2 : Hid (TbsOk p ds ac dn) := Lib.hid ⟨by rw [← HMA.out, ← HM.out], by rw [← HMD.out, ← HM.out], fun i hi => (HC.out i (by rw [HM.out]; exact hi)).1, fun i hi => (HC.out i (by rw [HM.out]; exact hi)).2, fun c hc => by
              rw [← hS] at hc
              obtain ⟨z, hz, rfl⟩ := List.mem_map.1 hc
              exact hI z hz⟩
            have HK := Lib.hid hK
            have HBW := Lib.hid (hbw.set (.bool true))
            have HB2 : Hid (Below w.heap.size w (W.setCell ⟨w.heap.size + 1, 0, none⟩ (.bool true))) := Lib.hid ((HX1.out.below.trans (hB1.mono (by omega))).setCell (p := ⟨w.heap.size + 1, 0, none⟩) (Nat.le_succ _) _)
            clear hsz hI hS hbw hB1 hK
            gi_wp2
            have hK2 : (W.setCell ⟨w.heap.size + 1, 0, none⟩ (.bool true)).heap[D]? = some (.deferred (some [])) := (KeepsOthers.setCell W _ _).same D _ HK.out rfl
            refine ⟨by simp, .inl ⟨_, _, rfl, run_takeDeferred hK2, ?_⟩⟩
            exact ⟨_, results_bool HRES.out _ _ _ _ rfl (cell_kept HBW.out.cell (grownBy_putObj' _ D (.deferred none)) (fun r e => by cases e; exact ⟨_, hK2, rfl⟩)),
              bb_true (HB2.out.trans (belowK_b (w := w) (Nat.le_refl _) _ D _ _ hDw hK2 rfl rfl)) HOK2.out⟩
          case stop =>
            rintro D c pre W hD _ ⟨⟨⟨rfl, hno⟩, hbx⟩, hB1⟩ hK
            have hDw : w.heap.size ≤ D := by omega
            have HK := Lib.hid hK
            have HNO := Lib.hid hno
            clear hsz hno hK
            gi_wp2
            refine ⟨by simp, .inl ⟨_, _, rfl, run_takeDeferred HK.out, ?_⟩⟩
            exact ⟨_, results_bool HRES.out _ _ _ _ rfl (cell_kept hbx.cell (grownBy_putObj' _ D (.deferred none)) (fun r e => by cases e; exact ⟨_, HK.out, rfl⟩)),
              bb_false (hB1.trans (belowK_b (w := w) (Nat.le_refl _) _ D _ _ hDw HK.out rfl rfl)) HNO.out⟩
    · subst hea
      have hq2 : ((md : Int) != (ma : Int)) = true := by have hz : (md : Int) ≠ (ma : Int) := (by omega); simp [hz]
      refine (callsIn_wide (n := 6)).1 ?_
      refine callsIn_of_wp_marks Try.func46 rfl trivial ?_
      simp only [Try.ntmps46, List.size_toArray, List.length_cons, List.length_nil, Nat.reduceAdd, Nat.reduceSub, Array.replicate_succ, Array.replicate_zero, List.push_toArray, List.append_toArray, List.nil_append, List.cons_append]
      gi_wp2
      rw [← hw1]
      exact ⟨_, results_bool HRES.out _ _ _ _ rfl cr, bb_false HX1.out.below (fun h => hed (by rw [HMD.out, HM.out]; exact h.ld))⟩
  · have hq1 : ((ma : Int) != (m : Int)) = true := by have hz : (ma : Int) ≠ (m : Int) := (by omega); simp [hz]
    refine (callsIn_wide (n := 6)).1 ?_
    refine callsIn_of_wp_marks Try.func46 rfl trivial ?_
    simp only [Try.ntmps46, List.size_toArray, List.length_cons, List.length_nil, Nat.reduceAdd, Nat.reduceSub, Array.replicate_succ, Array.replicate_zero, List.push_toArray, List.append_toArray, List.nil_append, List.cons_append]
    gi_wp2
    rw [← hw1]
    exact ⟨_, results_bool HRES.out _ _ _ _ rfl cr, bb_false HX1.out.below (fun h => hea (by rw [HMA.out, HM.out]; exact h.la))⟩
end Go.Proofs.Ytlopenephgabhaa


namespace Go.Proofs.Ytlopenephgabhaa
open Go.RowKit

def cdim (ds : List (List Int)) (c : Nat × Nat) : Nat := ((ds.getD c.1 []).getD c.2 0).toNat
def dgn (ds : List (List Int)) (n : Nat) : List (Nat × Nat) := (cellsTo ds ds.length).filter fun c => c.1 + c.2 == n
def tbl (x : List (List (List (List Int)))) (c : Nat × Nat) : List (List Int) := (x.getD c.1 []).getD c.2 []
/-- The part in the cell c of the differential of the basis vector r of the cell f. -/
def prt (ds : List (List Int)) (ac dn : List (List (List (List Int)))) (f : Nat × Nat) (r : Nat) (c : Nat × Nat) : List Int :=
  if c.1 + 1 = f.1 ∧ c.2 = f.2 then (tbl ac f).getD r [] else if c.1 = f.1 ∧ c.2 + 1 = f.2 then (tbl dn f).getD r [] else List.replicate (cdim ds c) 0
def trow (ds : List (List Int)) (ac dn : List (List (List (List Int)))) (n : Nat) (f : Nat × Nat) (r : Nat) : List Int := (dgn ds n).flatMap (prt ds ac dn f r)
def ttab (ds : List (List Int)) (ac dn : List (List (List (List Int)))) (n : Nat) : List (List Int) := (dgn ds (n + 1)).flatMap fun f => (List.range (cdim ds f)).map fun r => trow ds ac dn n f r
def tdim (ds : List (List Int)) (n : Nat) : Nat := ((dgn ds n).map (cdim ds)).sum
/-- The sum of the first d products. -/
def mts (v : List Int) (t : List (List Int)) (d j : Nat) : Int := ((List.range d).map fun s => v.getD s 0 * (t.getD s []).getD j 0).sum

theorem mts_succ (v : List Int) (t : List (List Int)) (d j : Nat) : mts v t (d + 1) j = mts v t d j + v.getD d 0 * (t.getD d []).getD j 0 := by
  simp [mts, List.range_succ]
theorem apTo_mts {p : Int} {c : Nat} {v : List Int} {t : List (List Int)} (h : ApOk p c v t) {q : Nat} (hq : q < c) : ∀ {k : Nat}, k ≤ v.length → (apTo p c v t k).getD q 0 = mts v t k q % p := by
  intro k
  induction k with
  | zero => intro _; simp [apTo, mts, List.getD, hq]
  | succ k ih =>
    intro hk
    rw [apTo_at h (by omega) hq, ih (by omega), mts_succ, Int.emod_add_emod]
theorem apT_mts {p : Int} {c : Nat} {v : List Int} {t : List (List Int)} (h : ApOk p c v t) {q : Nat} (hq : q < c) : (apT p c v t).getD q 0 = mts v t v.length q % p := apTo_mts h hq (Nat.le_refl _)
theorem apT_null {p : Int} {c : Nat} {v : List Int} {t : List (List Int)} (h : ApOk p c v t) : (∀ x ∈ apT p c v t, x = 0) ↔ ∀ q, q < c → mts v t v.length q % p = 0 := by
  have hl := apT_length h
  constructor
  · intro hz q hq
    rw [← apT_mts h hq, getD_of_lt _ (by omega)]
    exact hz _ (List.getElem_mem _)
  · intro hz x hx
    obtain ⟨q, hq, rfl⟩ := List.getElem_of_mem hx
    have := hz q (by omega)
    rwa [← apT_mts h (by omega), getD_of_lt _ hq] at this

theorem mem_cells {ds : List (List Int)} {m : Nat} {c : Nat × Nat} : c ∈ cellsTo ds m ↔ c.1 < m ∧ c.2 < (ds.getD c.1 []).length := by
  constructor
  · exact cells_fst
  · rintro ⟨h1, h2⟩
    unfold cellsTo rowCells
    simp only [List.mem_flatMap, List.mem_range, List.mem_map]
    exact ⟨c.1, h1, c.2, h2, rfl⟩
theorem mem_dgn {ds : List (List Int)} {n : Nat} {c : Nat × Nat} : c ∈ dgn ds n ↔ (c.1 < ds.length ∧ c.2 < (ds.getD c.1 []).length) ∧ c.1 + c.2 = n := by
  unfold dgn
  rw [List.mem_filter, mem_cells]
  simp
theorem cells_nodup (ds : List (List Int)) : ∀ m, (cellsTo ds m).Nodup
  | 0 => by simp [cellsTo]
  | m + 1 => by
    rw [cellsTo_succ]
    refine List.nodup_append.2 ⟨cells_nodup ds m, ?_, ?_⟩
    · unfold rowCells
      refine List.pairwise_map.2 ((List.nodup_range).imp ?_)
      intro a b hab e
      exact hab (by cases e; rfl)
    · intro a ha b hb e
      have h1 := (mem_cells.1 ha).1
      unfold rowCells at hb
      obtain ⟨j, _, rfl⟩ := List.mem_map.1 hb
      rw [e] at h1
      exact absurd h1 (Nat.lt_irrefl _)
theorem dgn_nodup (ds : List (List Int)) (n : Nat) : (dgn ds n).Nodup := (cells_nodup ds _).filter _

theorem sum_flat {α β : Type} (f : α → List β) (g : β → Int) : ∀ L : List α, ((L.flatMap f).map g).sum = (L.map fun c => ((f c).map g).sum).sum
  | [] => rfl
  | c :: L => by simp [sum_flat f g L]
theorem sum_zero {α : Type} (f : α → Int) : ∀ L : List α, (∀ c ∈ L, f c = 0) → (L.map f).sum = 0
  | [], _ => rfl
  | c :: L, h => by
    rw [List.map_cons, List.sum_cons, h c (by simp), sum_zero f L (fun d hd => h d (by simp [hd]))]
    rfl
/-- A sum with one place that counts. -/
theorem sum_one (f : Nat × Nat → Int) (a : Nat × Nat) : ∀ L : List (Nat × Nat), L.Nodup → (∀ c ∈ L, c ≠ a → f c = 0) → (L.map f).sum = if a ∈ L then f a else 0
  | [], _, _ => by simp
  | c :: L, hn, h => by
    rw [List.map_cons, List.sum_cons]
    have hn' := List.nodup_cons.1 hn
    by_cases e : c = a
    · subst e
      rw [sum_zero f L (fun d hd => h d (by simp [hd]) (fun e => hn'.1 (e ▸ hd)))]
      simp
    · rw [h c (by simp) e, sum_one f a L hn'.2 (fun d hd => h d (by simp [hd]))]
      by_cases ha : a ∈ L
      · simp [ha]
      · simp [ha, Ne.symm e]
/-- .. with two. -/
theorem sum_two (f : Nat × Nat → Int) {a b : Nat × Nat} (hab : a ≠ b) : ∀ L : List (Nat × Nat), L.Nodup → (∀ c ∈ L, c ≠ a → c ≠ b → f c = 0) → (L.map f).sum = (if a ∈ L then f a else 0) + (if b ∈ L then f b else 0)
  | [], _, _ => by simp
  | c :: L, hn, h => by
    rw [List.map_cons, List.sum_cons]
    have hn' := List.nodup_cons.1 hn
    by_cases e : c = a
    · subst e
      rw [sum_one f b L hn'.2 (fun d hd hb => h d (by simp [hd]) (fun e => hn'.1 (e ▸ hd)) hb)]
      simp [Ne.symm hab]
    · by_cases e2 : c = b
      · subst e2
        rw [sum_one f a L hn'.2 (fun d hd ha => h d (by simp [hd]) ha (fun e => hn'.1 (e ▸ hd)))]
        have : a ≠ c := hab
        simp [this]
        by_cases ha : a ∈ L <;> simp [ha] <;> omega
      · rw [h c (by simp) e e2, sum_two f hab L hn'.2 (fun d hd => h d (by simp [hd]))]
        simp [Ne.symm e, Ne.symm e2]

theorem getD_appL {xs ys : List Int} {j : Nat} (h : j < xs.length) : (xs ++ ys).getD j 0 = xs.getD j 0 := by simp [List.getD, List.getElem?_append_left h]
theorem getD_appR {xs ys : List Int} {j : Nat} (h : xs.length ≤ j) : (xs ++ ys).getD j 0 = ys.getD (j - xs.length) 0 := by simp [List.getD, List.getElem?_append_right h]
/-- Sums over rows in blocks are 0 where those of the blocks are. -/
theorem blocks_null {α : Type} {p : Int} {d : α → Nat} (K : List (Int × (α → List Int))) : ∀ L : List α, (∀ k ∈ K, ∀ c ∈ L, (k.2 c).length = d c) →
    ((∀ j, j < (L.map d).sum → (K.map fun k => k.1 * (L.flatMap k.2).getD j 0).sum % p = 0) ↔ ∀ c ∈ L, ∀ t, t < d c → (K.map fun k => k.1 * (k.2 c).getD t 0).sum % p = 0)
  | [], _ => by simp
  | c :: L, h => by
    have ih := blocks_null (p := p) K L (fun k hk e he => h k hk e (by simp [he]))
    have hl : ∀ j, j < d c → (K.map fun k => k.1 * ((c :: L).flatMap k.2).getD j 0) = K.map fun k => k.1 * (k.2 c).getD j 0 := fun j hj => List.map_congr_left (fun k hk => by
      rw [List.flatMap_cons, getD_appL (by rw [h k hk c (by simp)]; exact hj)])
    have hr : ∀ j, d c ≤ j → (K.map fun k => k.1 * ((c :: L).flatMap k.2).getD j 0) = K.map fun k => k.1 * (L.flatMap k.2).getD (j - d c) 0 := fun j hj => List.map_congr_left (fun k hk => by
      rw [List.flatMap_cons, getD_appR (by rw [h k hk c (by simp)]; exact hj), h k hk c (by simp)])
    rw [List.map_cons, List.sum_cons]
    constructor
    · intro hz e he t ht
      rcases List.mem_cons.1 he with rfl | he
      · have := hz t (by omega)
        rwa [hl t ht] at this
      · exact (ih.1 (fun j hj => by have := hz (d c + j) (by omega); rwa [hr _ (by omega), Nat.add_sub_cancel_left] at this)) e he t ht
    · intro hz j hj
      by_cases hjc : j < d c
      · rw [hl j hjc]; exact hz c (by simp) j hjc
      · rw [hr j (by omega)]
        exact ih.2 (fun e he => hz e (by simp [he])) _ (by omega)

theorem zip_flat {α β γ : Type} (f : α → List β) (g : α → List γ) : ∀ L : List α, (∀ c ∈ L, (f c).length = (g c).length) → (L.flatMap f).zip (L.flatMap g) = L.flatMap fun c => (f c).zip (g c)
  | [], _ => rfl
  | c :: L, h => by
    rw [List.flatMap_cons, List.flatMap_cons, List.flatMap_cons, List.zip_append (h c (by simp)), zip_flat f g L (fun d hd => h d (by simp [hd]))]
theorem mts_zip {v : List Int} {t : List (List Int)} (h : v.length ≤ t.length) (j : Nat) : mts v t v.length j = ((v.zip t).map fun a => a.1 * a.2.getD j 0).sum := by
  unfold mts
  congr 1
  refine List.ext_getElem (by simp [List.length_zip]; omega) (fun i h1 h2 => ?_)
  simp at h1
  simp [h1, show i < t.length by omega]
section
variable {p : Int} {ds : List (List Int)} {ac dn : List (List (List (List Int)))}
theorem dcl_nat (ds : List (List Int)) (a b : Nat) : dcl ds a b = (ds.getD a []).getD b 0 := by
  unfold dcl
  rw [if_neg (by omega)]
  simp
theorem cdim_cast (hok : DclOk ds) {c : Nat × Nat} (h : c ∈ cellsTo ds ds.length) : ((cdim ds c : Nat) : Int) = dcl ds c.1 c.2 ∧ cdim ds c ≤ 4 := by
  obtain ⟨h1, h2⟩ := mem_cells.1 h
  have hm : (ds.getD c.1 []).getD c.2 0 ∈ ds.getD c.1 [] := by rw [getD_of_lt _ h2]; exact List.getElem_mem _
  have hr : ds.getD c.1 [] ∈ ds := by rw [getD_of_lt _ h1]; exact List.getElem_mem _
  have := (hok.col _ hr).2 _ hm
  rw [dcl_nat]
  unfold cdim
  omega
theorem cell_left (hok : DclOk ds) {a b : Nat} (h : (a + 1, b) ∈ cellsTo ds ds.length) : (a, b) ∈ cellsTo ds ds.length := by
  obtain ⟨h1, h2⟩ := mem_cells.1 h
  dsimp only at h1 h2
  refine mem_cells.2 ⟨show a < _ by omega, ?_⟩
  dsimp only
  rw [getD_of_lt _ h1] at h2
  rw [getD_of_lt _ (show a < ds.length by omega), (hok.col _ (List.getElem_mem _)).1]
  rwa [(hok.col _ (List.getElem_mem _)).1] at h2
theorem cell_low {a b : Nat} (h : (a, b + 1) ∈ cellsTo ds ds.length) : (a, b) ∈ cellsTo ds ds.length := by
  obtain ⟨h1, h2⟩ := mem_cells.1 h
  exact mem_cells.2 ⟨h1, by dsimp only at h2 ⊢; omega⟩

theorem prt_a {f c : Nat × Nat} (r : Nat) (h : c.1 + 1 = f.1 ∧ c.2 = f.2) : prt ds ac dn f r c = (tbl ac f).getD r [] := if_pos h
theorem prt_d {f c : Nat × Nat} (r : Nat) (h : c.1 = f.1 ∧ c.2 + 1 = f.2) : prt ds ac dn f r c = (tbl dn f).getD r [] := by
  unfold prt
  rw [if_neg (by omega), if_pos h]
theorem prt_o {f c : Nat × Nat} (r : Nat) (h : ¬ (c.1 + 1 = f.1 ∧ c.2 = f.2)) (h2 : ¬ (c.1 = f.1 ∧ c.2 + 1 = f.2)) : prt ds ac dn f r c = List.replicate (cdim ds c) 0 := by
  unfold prt
  rw [if_neg h, if_neg h2]
theorem rep_getD (n j : Nat) : (List.replicate n (0 : Int)).getD j 0 = 0 := by
  by_cases h : j < n
  · simp [List.getD, h]
  · simp [List.getD, h]

/-- A part is a row of numbers modulo p, as long as its cell says. -/
theorem prt_ok (hp : IsP p) (hok : DclOk ds) (ht : TbsOk p ds ac dn) {f c : Nat × Nat} (hf : f ∈ cellsTo ds ds.length) (hc : c ∈ cellsTo ds ds.length) {r : Nat} (hr : r < cdim ds f) : RowOk p (cdim ds c) (prt ds ac dn f r c) := by
  have hp0 := hp.lo
  obtain ⟨ta, td⟩ := ht.tab f hf
  have hcf := (cdim_cast hok hf).1
  have hcc := (cdim_cast hok hc).1
  by_cases h1 : c.1 + 1 = f.1 ∧ c.2 = f.2
  · rw [prt_a r h1]
    have hl := ta.1
    have hr' : r < (tbl ac f).length := by unfold tbl; omega
    rw [getD_of_lt _ hr']
    have := ta.2 _ (List.getElem_mem hr')
    rwa [show ((f.1 : Int) - 1) = (c.1 : Int) by omega, ← h1.2, ← hcc] at this
  · by_cases h2 : c.1 = f.1 ∧ c.2 + 1 = f.2
    · rw [prt_d r h2]
      have hl := td.1
      have hr' : r < (tbl dn f).length := by unfold tbl; omega
      rw [getD_of_lt _ hr']
      have := td.2 _ (List.getElem_mem hr')
      rwa [show ((f.2 : Int) - 1) = (c.2 : Int) by omega, ← h2.1, ← hcc] at this
    · rw [prt_o r h1 h2]
      refine ⟨by simp, fun x hx => ?_⟩
      rw [List.eq_of_mem_replicate hx]
      omega
theorem trow_ok (hp : IsP p) (hok : DclOk ds) (ht : TbsOk p ds ac dn) {f : Nat × Nat} (hf : f ∈ cellsTo ds ds.length) {r : Nat} (hr : r < cdim ds f) (n : Nat) : RowOk p (tdim ds n) (trow ds ac dn n f r) := by
  have hpr : ∀ c ∈ dgn ds n, RowOk p (cdim ds c) (prt ds ac dn f r c) := fun c hc => prt_ok hp hok ht hf (mem_cells.2 (mem_dgn.1 hc).1) hr
  refine ⟨?_, fun x hx => ?_⟩
  · unfold trow tdim
    rw [List.length_flatMap, List.map_congr_left (g := cdim ds) (fun c hc => by have := (hpr c hc).1; omega)]
  · unfold trow at hx
    obtain ⟨c, hc, hx⟩ := List.mem_flatMap.1 hx
    exact (hpr c hc).2 x hx
theorem ttab_mem {n : Nat} {x : List Int} (h : x ∈ ttab ds ac dn n) : ∃ f r, f ∈ dgn ds (n + 1) ∧ r < cdim ds f ∧ x = trow ds ac dn n f r := by
  unfold ttab at h
  obtain ⟨f, hf, h⟩ := List.mem_flatMap.1 h
  obtain ⟨r, hr, rfl⟩ := List.mem_map.1 h
  exact ⟨f, r, hf, List.mem_range.1 hr, rfl⟩
theorem ttab_ok (hp : IsP p) (hok : DclOk ds) (ht : TbsOk p ds ac dn) (n : Nat) : TabOk p (tdim ds (n + 1)) (tdim ds n) (ttab ds ac dn n) := by
  refine ⟨?_, fun x hx => ?_⟩
  · unfold ttab tdim
    rw [List.length_flatMap, List.map_congr_left (g := cdim ds) (fun c _ => by simp)]
  · obtain ⟨f, r, hf, hr, rfl⟩ := ttab_mem hx
    exact trow_ok hp hok ht (mem_cells.2 (mem_dgn.1 hf).1) hr n
theorem tot_ap (hp : IsP p) (hok : DclOk ds) (ht : TbsOk p ds ac dn) {f : Nat × Nat} (hf : f ∈ cellsTo ds ds.length) {r : Nat} (hr : r < cdim ds f) (q : Nat) : ApOk p (tdim ds q) (trow ds ac dn (q + 1) f r) (ttab ds ac dn q) := by
  have h1 := trow_ok hp hok ht hf hr (q + 1)
  have h2 := ttab_ok hp hok ht q
  exact ⟨hp, by have e1 := h1.1; have e2 := h2.1; omega, h1.2, h2.2⟩

/-- What the way through the cell c adds at the place t of the cell e. -/
def thr (ds : List (List Int)) (ac dn : List (List (List (List Int)))) (f : Nat × Nat) (r : Nat) (e : Nat × Nat) (t : Nat) (c : Nat × Nat) : Int :=
  ((List.range (cdim ds c)).map fun s => (prt ds ac dn f r c).getD s 0 * (prt ds ac dn c s e).getD t 0).sum

theorem tot_null (hp : IsP p) (hok : DclOk ds) (ht : TbsOk p ds ac dn) {f : Nat × Nat} (hf : f ∈ cellsTo ds ds.length) {r : Nat} (hr : r < cdim ds f) (q : Nat) :
    (∀ x ∈ apT p (tdim ds q) (trow ds ac dn (q + 1) f r) (ttab ds ac dn q), x = 0) ↔ ∀ e ∈ dgn ds q, ∀ t, t < cdim ds e → ((dgn ds (q + 1)).map (thr ds ac dn f r e t)).sum % p = 0 := by
  have hpr : ∀ c ∈ dgn ds (q + 1), RowOk p (cdim ds c) (prt ds ac dn f r c) := fun c hc => prt_ok hp hok ht hf (mem_cells.2 (mem_dgn.1 hc).1) hr
  have hap := tot_ap hp hok ht hf hr q
  rw [apT_null hap]
  have hK : ∀ j, mts (trow ds ac dn (q + 1) f r) (ttab ds ac dn q) (trow ds ac dn (q + 1) f r).length j =
      (((dgn ds (q + 1)).flatMap fun c => (List.range (cdim ds c)).map fun s => ((prt ds ac dn f r c).getD s 0, prt ds ac dn c s)).map fun k => k.1 * ((dgn ds q).flatMap k.2).getD j 0).sum := fun j => by
    rw [mts_zip hap.len]
    unfold trow ttab
    rw [zip_flat _ _ _ (fun c hc => by have := (hpr c hc).1; simp; omega), sum_flat, sum_flat]
    congr 1
    refine List.map_congr_left (fun c hc => ?_)
    congr 1
    have hl := (hpr c hc).1
    refine List.ext_getElem (by simp; omega) (fun i h1 h2 => ?_)
    simp at h1 h2
    simp [trow, show i < (prt ds ac dn f r c).length by omega]
  have hlen : ∀ k ∈ ((dgn ds (q + 1)).flatMap fun c => (List.range (cdim ds c)).map fun s => ((prt ds ac dn f r c).getD s 0, prt ds ac dn c s)), ∀ e ∈ dgn ds q, (k.2 e).length = cdim ds e := fun k hk e he => by
    obtain ⟨c, hc, hk⟩ := List.mem_flatMap.1 hk
    obtain ⟨s, hs, rfl⟩ := List.mem_map.1 hk
    have := (prt_ok hp hok ht (mem_cells.2 (mem_dgn.1 hc).1) (mem_cells.2 (mem_dgn.1 he).1) (List.mem_range.1 hs)).1
    dsimp only
    omega
  rw [show (∀ j, j < tdim ds q → mts (trow ds ac dn (q + 1) f r) (ttab ds ac dn q) (trow ds ac dn (q + 1) f r).length j % p = 0) ↔
      (∀ j, j < ((dgn ds q).map (cdim ds)).sum → (((dgn ds (q + 1)).flatMap fun c => (List.range (cdim ds c)).map fun s => ((prt ds ac dn f r c).getD s 0, prt ds ac dn c s)).map fun k => k.1 * ((dgn ds q).flatMap k.2).getD j 0).sum % p = 0) from by
    constructor
    · intro h j hj; rw [← hK j]; exact h j hj
    · intro h j hj; rw [hK j]; exact h j hj]
  rw [blocks_null _ _ hlen]
  have he : ∀ e t, (((dgn ds (q + 1)).flatMap fun c => (List.range (cdim ds c)).map fun s => ((prt ds ac dn f r c).getD s 0, prt ds ac dn c s)).map fun k => k.1 * (k.2 e).getD t 0).sum = ((dgn ds (q + 1)).map (thr ds ac dn f r e t)).sum := fun e t => by
    rw [sum_flat]
    congr 1
    refine List.map_congr_left (fun c _ => ?_)
    unfold thr
    rw [List.map_map]
    rfl
  constructor
  · intro h e hem t ht'
    rw [← he]; exact h e hem t ht'
  · intro h e hem t ht'
    rw [he]; exact h e hem t ht'

theorem thr_o {f c e : Nat × Nat} {r t : Nat} (h : ∀ s, (prt ds ac dn f r c).getD s 0 * (prt ds ac dn c s e).getD t 0 = 0) : thr ds ac dn f r e t c = 0 := sum_zero _ _ (fun s _ => h s)
/-- The ways are two. -/
theorem ways {f e : Nat × Nat} {q r t : Nat} (hf : f.1 + f.2 = q + 2) : ((dgn ds (q + 1)).map (thr ds ac dn f r e t)).sum =
    (if (f.1 - 1, f.2) ∈ dgn ds (q + 1) then thr ds ac dn f r e t (f.1 - 1, f.2) else 0) + (if (f.1, f.2 - 1) ∈ dgn ds (q + 1) then thr ds ac dn f r e t (f.1, f.2 - 1) else 0) := by
  refine sum_two (thr ds ac dn f r e t) (fun h => ?_) _ (dgn_nodup ds _) (fun c _ ha hb => thr_o (fun s => ?_))
  · injection h with h1 h2
    omega
  · rw [prt_o r (fun h => ha (by ext <;> simp <;> omega)) (fun h => hb (by ext <;> simp <;> omega)), rep_getD, Int.zero_mul]

/-- When the squares of the total are 0. -/
structure CndOk (p : Int) (ds : List (List Int)) (ac dn : List (List (List (List Int)))) : Prop where
  aa : ∀ a j r t, (a + 2, j) ∈ cellsTo ds ds.length → r < cdim ds (a + 2, j) → t < cdim ds (a, j) → mts ((tbl ac (a + 2, j)).getD r []) (tbl ac (a + 1, j)) (cdim ds (a + 1, j)) t % p = 0
  dd : ∀ i b r t, (i, b + 2) ∈ cellsTo ds ds.length → r < cdim ds (i, b + 2) → t < cdim ds (i, b) → mts ((tbl dn (i, b + 2)).getD r []) (tbl dn (i, b + 1)) (cdim ds (i, b + 1)) t % p = 0
  ad : ∀ a b r t, (a + 1, b + 1) ∈ cellsTo ds ds.length → r < cdim ds (a + 1, b + 1) → t < cdim ds (a, b) →
    (mts ((tbl ac (a + 1, b + 1)).getD r []) (tbl dn (a, b + 1)) (cdim ds (a, b + 1)) t + mts ((tbl dn (a + 1, b + 1)).getD r []) (tbl ac (a + 1, b)) (cdim ds (a + 1, b)) t) % p = 0

theorem way_aa {a j r t : Nat} (hok : DclOk ds) (hc : (a + 2, j) ∈ cellsTo ds ds.length) : ((dgn ds (a + j + 1)).map (thr ds ac dn (a + 2, j) r (a, j) t)).sum = mts ((tbl ac (a + 2, j)).getD r []) (tbl ac (a + 1, j)) (cdim ds (a + 1, j)) t := by
  have hm : (a + 1, j) ∈ dgn ds (a + j + 1) := mem_dgn.2 ⟨mem_cells.1 (cell_left hok hc), by dsimp only; omega⟩
  rw [ways (by dsimp only; omega)]
  dsimp only
  rw [show a + 2 - 1 = a + 1 by omega, if_pos hm]
  have h2 : (if (a + 2, j - 1) ∈ dgn ds (a + j + 1) then thr ds ac dn (a + 2, j) r (a, j) t (a + 2, j - 1) else 0) = 0 := by
    split
    · refine thr_o (fun s => ?_)
      rw [prt_o (f := (a + 2, j - 1)) (c := (a, j)) s (by dsimp only; omega) (by dsimp only; omega), rep_getD, Int.mul_zero]
    · rfl
  rw [h2, Int.add_zero]
  unfold thr mts
  congr 1
  refine List.map_congr_left (fun s _ => ?_)
  rw [prt_a r (by dsimp only; omega), prt_a s (by dsimp only; omega)]
theorem way_dd {i b r t : Nat} (hc : (i, b + 2) ∈ cellsTo ds ds.length) : ((dgn ds (i + b + 1)).map (thr ds ac dn (i, b + 2) r (i, b) t)).sum = mts ((tbl dn (i, b + 2)).getD r []) (tbl dn (i, b + 1)) (cdim ds (i, b + 1)) t := by
  have hm : (i, b + 1) ∈ dgn ds (i + b + 1) := mem_dgn.2 ⟨mem_cells.1 (cell_low hc), by dsimp only; omega⟩
  rw [ways (by dsimp only; omega)]
  dsimp only
  rw [show b + 2 - 1 = b + 1 by omega, if_pos hm]
  have h2 : (if (i - 1, b + 2) ∈ dgn ds (i + b + 1) then thr ds ac dn (i, b + 2) r (i, b) t (i - 1, b + 2) else 0) = 0 := by
    split
    · refine thr_o (fun s => ?_)
      rw [prt_o (f := (i - 1, b + 2)) (c := (i, b)) s (by dsimp only; omega) (by dsimp only; omega), rep_getD, Int.mul_zero]
    · rfl
  rw [h2, Int.zero_add]
  unfold thr mts
  congr 1
  refine List.map_congr_left (fun s _ => ?_)
  rw [prt_d r (by dsimp only; omega), prt_d s (by dsimp only; omega)]
theorem way_ad {a b r t : Nat} (hok : DclOk ds) (hc : (a + 1, b + 1) ∈ cellsTo ds ds.length) : ((dgn ds (a + b + 1)).map (thr ds ac dn (a + 1, b + 1) r (a, b) t)).sum =
    mts ((tbl ac (a + 1, b + 1)).getD r []) (tbl dn (a, b + 1)) (cdim ds (a, b + 1)) t + mts ((tbl dn (a + 1, b + 1)).getD r []) (tbl ac (a + 1, b)) (cdim ds (a + 1, b)) t := by
  have hm1 : (a, b + 1) ∈ dgn ds (a + b + 1) := mem_dgn.2 ⟨mem_cells.1 (cell_left hok hc), by dsimp only; omega⟩
  have hm2 : (a + 1, b) ∈ dgn ds (a + b + 1) := mem_dgn.2 ⟨mem_cells.1 (cell_low hc), by dsimp only; omega⟩
  rw [ways (by dsimp only; omega)]
  dsimp only
  rw [Nat.add_sub_cancel, Nat.add_sub_cancel, if_pos hm1, if_pos hm2]
  unfold thr mts
  refine congr (congrArg HAdd.hAdd (congrArg List.sum (List.map_congr_left fun s _ => ?_))) (congrArg List.sum (List.map_congr_left fun s _ => ?_))
  · rw [prt_a r (by dsimp only; omega), prt_d s (by dsimp only; omega)]
  · rw [prt_d r (by dsimp only; omega), prt_a s (by dsimp only; omega)]

/-- **The total's squares are 0 where the cells say so.** -/
theorem square_iff (hp : IsP p) (hok : DclOk ds) (ht : TbsOk p ds ac dn) :
    (∀ q f r, f ∈ dgn ds (q + 2) → r < cdim ds f → ∀ x ∈ apT p (tdim ds q) (trow ds ac dn (q + 1) f r) (ttab ds ac dn q), x = 0) ↔ CndOk p ds ac dn := by
  constructor
  · intro h
    have h' : ∀ q f r, f ∈ dgn ds (q + 2) → r < cdim ds f → ∀ e ∈ dgn ds q, ∀ t, t < cdim ds e → ((dgn ds (q + 1)).map (thr ds ac dn f r e t)).sum % p = 0 := fun q f r hf hr =>
      (tot_null hp hok ht (mem_cells.2 (mem_dgn.1 hf).1) hr q).1 (h q f r hf hr)
    refine ⟨fun a j r t hc hr ht' => ?_, fun i b r t hc hr ht' => ?_, fun a b r t hc hr ht' => ?_⟩
    · rw [← way_aa (dn := dn) hok hc]
      exact h' _ _ r (mem_dgn.2 ⟨mem_cells.1 hc, by dsimp only; omega⟩) hr _ (mem_dgn.2 ⟨mem_cells.1 (cell_left hok (cell_left hok hc)), by dsimp only⟩) t ht'
    · rw [← way_dd (ac := ac) hc]
      exact h' _ _ r (mem_dgn.2 ⟨mem_cells.1 hc, by dsimp only; omega⟩) hr _ (mem_dgn.2 ⟨mem_cells.1 (cell_low (cell_low hc)), by dsimp only⟩) t ht'
    · rw [← way_ad hok hc]
      exact h' _ _ r (mem_dgn.2 ⟨mem_cells.1 hc, by dsimp only; omega⟩) hr _ (mem_dgn.2 ⟨mem_cells.1 (cell_low (cell_left hok hc)), by dsimp only⟩) t ht'
  · intro h q f r hf hr
    have hfc := mem_cells.2 (mem_dgn.1 hf).1
    refine (tot_null hp hok ht hfc hr q).2 (fun e he t ht' => ?_)
    obtain ⟨i, j⟩ := f
    obtain ⟨a, b⟩ := e
    have hs := (mem_dgn.1 hf).2
    have hse := (mem_dgn.1 he).2
    dsimp only at hs hse
    by_cases h1 : a + 2 = i
    · obtain rfl : j = b := by omega
      subst h1
      rw [← hse, way_aa hok hfc]
      exact h.aa a j r t hfc hr ht'
    · by_cases h2 : a + 1 = i
      · subst h2
        obtain rfl : j = b + 1 := by omega
        rw [← hse, way_ad hok hfc]
        exact h.ad a b r t hfc hr ht'
      · by_cases h3 : a = i
        · subst h3
          obtain rfl : j = b + 2 := by omega
          rw [← hse, way_dd hfc]
          exact h.dd a b r t hfc hr ht'
        · have h0 : ((dgn ds (q + 1)).map (thr ds ac dn (i, j) r (a, b) t)).sum = 0 := by
            rw [ways (by dsimp only; omega)]
            dsimp only
            have e1 : thr ds ac dn (i, j) r (a, b) t (i - 1, j) = 0 := thr_o (fun s => by
              rw [prt_o (f := (i - 1, j)) (c := (a, b)) s (by dsimp only; omega) (by dsimp only; omega), rep_getD, Int.mul_zero])
            have e2 : thr ds ac dn (i, j) r (a, b) t (i, j - 1) = 0 := thr_o (fun s => by
              rw [prt_o (f := (i, j - 1)) (c := (a, b)) s (by dsimp only; omega) (by dsimp only; omega), rep_getD, Int.mul_zero])
            rw [e1, e2]
            simp
          rw [h0]
          simp
end
end Go.Proofs.Ytlopenephgabhaa


namespace Go.Proofs.Ytlopenephgabhaa
open Go.RowKit Go.Shelf
attribute [local go_sem] Oper.semAt_some

def DgIn (ds : List (List Int)) (n : Nat) : Type := { c : Nat × Nat // c ∈ dgn ds n }
def dgV {ds : List (List Int)} {n : Nat} (x : DgIn ds n) : Value := .agg #[.int .i64 (x.1.1 : Int), .int .i64 (x.1.2 : Int)]
def onD (n : Nat) (c : Nat × Nat) : Bool := c.1 + c.2 == n
theorem dgn_eq (ds : List (List Int)) (n : Nat) : dgn ds n = (cellsTo ds ds.length).filter (onD n) := rfl

theorem filt_in {ds : List (List Int)} {n : Nat} (pre : List (CellIn ds)) (c : Nat × Nat) (h : c ∈ cellsTo ds ds.length) : ((pre ++ ([⟨c, h⟩] : List (CellIn ds))).map (·.1)).filter (onD n) = (pre.map (·.1)).filter (onD n) ++ if onD n c then [c] else [] := by
  rw [List.map_append, List.filter_append]
  refine congrArg _ ?_
  show List.filter (onD n) [c] = _
  by_cases h : onD n c <;> simp [h]
theorem yieldAt_wide {l0 m m2 : Nat} {P : Program} {l : Nat} {args : Array Value} {W : World} {R : Ending → World → Prop} (h : YieldAt Fence.wide m P l args W R) : YieldAt (Fence.wide.inRound l0) m2 P l args W R := by
  obtain ⟨fn, tmps, assign, body, hy, hR⟩ := h
  exact ⟨fn, tmps, assign, body, hy, trivial, fun c cs _ => hR.2 c cs (fun d h => by cases h)⟩

set_option maxRecDepth 100000 in
theorem diagonalOf_any (p n : Int) (dv av vv : Value) (w : World) :
    Calls Try.prog 120 #[.agg #[.int .i64 p, dv, av, vv], .int .i64 n] w fun e w' => e = .returned (.func (.func 131) #[] #[.pointer (some ⟨w.heap.size, 0, none⟩), .pointer (some ⟨w.heap.size + 1, 0, none⟩)]) ∧ w' = (w.alloc (.cells #[.int .i64 p, dv, av, vv] 28)).alloc (.cells #[.int .i64 n] 2) := by
  go_enter Try.func120, Try.ntmps120
  go_wp2
  go_ret
  exact ⟨by simp, rfl⟩

theorem new_c1 (W : World) (p : Int) (dv av vv : Value) : (W.alloc (.cells #[.int .i64 p, dv, av, vv] 28)).cell? ⟨W.heap.size, 1, none⟩ = some dv := by simp
/-- What a body may do to the iterator's boxes. -/
structure DgK (Kp : World → World → Prop) (w : World) (bn : Nat) (n : Int) (dv : Value) (ds : List (List Int)) : Prop where
  refl : ∀ A, Kp A A
  trans : ∀ {A B C : World}, Kp A B → Kp B C → Kp A C
  dims : ∀ {A B : World}, Below w.heap.size w A → Kp A B → L2 0 B dv ds
  num : ∀ {A B : World}, Go.Boxed A bn 2 (.int .i64 n) → Kp A B → Go.Boxed B bn 2 (.int .i64 n)
  fns : ∀ {A B : World} {k : Nat} {v : Value}, Go.Boxed A k 121 v → Kp A B → Go.Boxed B k 121 v
  put : ∀ (A : World) (k : Nat) (o o' : Obj), w.heap.size ≤ k → A.heap[k]? = some o → o.isCells = false → Kp A (A.putObj k o')
  alloc : ∀ (A : World) (o : Obj), w.heap.size ≤ A.heap.size → Kp A (A.alloc o)

set_option maxRecDepth 100000 in
set_option maxHeartbeats 4000000 in
theorem diag_seq (m : Nat) (hm : 3 ≤ m) (p : Int) (n : Nat) (hn : n ≤ 1000) (bx bn : Nat) (dv av vv : Value) (ds : List (List Int)) (hl1 : ds.length ≤ 1000) (hl2 : ∀ r ∈ ds, r.length ≤ 1000) (Kp : World → World → Prop) (w : World) (hK : DgK Kp w bn n dv ds)
    (hbx : bx < w.heap.size) (c0 : w.cell? ⟨bx, 0, none⟩ = some (.int .i64 p)) (c1 : w.cell? ⟨bx, 1, none⟩ = some dv) (c2 : w.cell? ⟨bx, 2, none⟩ = some av) (c3 : w.cell? ⟨bx, 3, none⟩ = some vv) (hbn : Go.Boxed w bn 2 (.int .i64 (n : Int))) :
    SeqO Fence.wide m Try.prog 131 #[.pointer (some ⟨bx, 0, none⟩), .pointer (some ⟨bn, 0, none⟩)] (fun x : DgIn ds n => #[dgV x]) Kp (fun ys => ys.map (·.1) = dgn ds n) (fun _ => True) (cellsTo ds ds.length).length w := by
  intro l J Jx W hW hJ hJx hY h0
  have HK := Lib.hid hK
  have HJ := Lib.hid hJ
  have HJX := Lib.hid hJx
  have HY := Lib.hid hY
  have HW := Lib.hid hW
  have d0 := (hW.cell (p := ⟨bx, 0, none⟩) hbx).trans c0
  have d1 := (hW.cell (p := ⟨bx, 1, none⟩) hbx).trans c1
  have d2 := (hW.cell (p := ⟨bx, 2, none⟩) hbx).trans c2
  have d3 := (hW.cell (p := ⟨bx, 3, none⟩) hbx).trans c3
  have hbl : bx < W.heap.size := Nat.lt_of_lt_of_le hbx hW.size
  have HBN : Hid (Go.Boxed W bn 2 (.int .i64 (n : Int))) := Lib.hid ((hW.block bn hbn.lt).trans hbn)
  have H0 := Lib.hid h0
  have hws := hW.size
  clear hK hJ hJx hY c0 c1 c2 c3 hW h0 hbn
  refine callsIn_of_wp_marks Try.func131 rfl trivial ?_
  simp only [Try.ntmps131, List.size_toArray, List.length_cons, List.length_nil, Nat.reduceAdd, Nat.reduceSub, Array.replicate_succ, Array.replicate_zero, List.push_toArray, List.append_toArray, List.nil_append, List.cons_append]
  gi_wp2_with fail
  refine ⟨trivial, (fun h => by cases h), (callsIn_wide.2 (cellsOf_any p dv av vv _)).mono ?_⟩
  rintro e w2 ⟨rfl, rfl⟩
  dsimp only
  gi_wp2
  rw [World.size_alloc]
  have hs0 : ((W.alloc (.cells #[.func (.yield l) #[] #[]] 121)).alloc (.cells #[.int .i64 p, dv, av, vv] 28)).heap.size = W.heap.size + 2 := by simp
  have hB0 : Below W.heap.size W ((W.alloc (.cells #[.func (.yield l) #[] #[]] 121)).alloc (.cells #[.int .i64 p, dv, av, vv] 28)) := ((Below.refl _ _).alloc (Nat.le_refl _) _).alloc (by simp) _
  have hd0 : ((W.alloc (.cells #[.func (.yield l) #[] #[]] 121)).alloc (.cells #[.int .i64 p, dv, av, vv] 28)).cell? ⟨W.heap.size + 1, 1, none⟩ = some dv := by
    have := new_c1 (W.alloc (.cells #[.func (.yield l) #[] #[]] 121)) p dv av vv
    rwa [World.size_alloc] at this
  have HBY : Hid (Go.Boxed ((W.alloc (.cells #[.func (.yield l) #[] #[]] 121)).alloc (.cells #[.int .i64 p, dv, av, vv] 28)) W.heap.size 121 (.func (.yield l) #[] #[])) := Lib.hid ((Go.Boxed.new W _ _).alloc _)
  have HJ0 : Hid (J [] ((W.alloc (.cells #[.func (.yield l) #[] #[]] 121)).alloc (.cells #[.int .i64 p, dv, av, vv] 28))) := Lib.hid (HJ.out.alloc _ (HJ.out.alloc _ H0.out))
  obtain ⟨W0, hW0⟩ : ∃ W0, W0 = (W.alloc (.cells #[.func (.yield l) #[] #[]] 121)).alloc (.cells #[.int .i64 p, dv, av, vv] 28) := ⟨_, rfl⟩
  rw [← hW0] at hs0 hB0 hd0 HBY HJ0 ⊢
  clear hW0
  have HB0 := Lib.hid hB0
  have HS0 := Lib.hid hs0
  have hst := cells_stopsK Fence.wide (m - 1) trivial rfl (by omega) (W.heap.size + 1) dv ds (by omega) (fun r hr => by have := hl2 r hr; omega) Kp HK.out.refl (fun h k => HK.out.trans h k) W0 (by omega) hd0
    (fun A B hA hAB => HK.out.dims (HW.out.trans ((hB0.trans (hA.mono hB0.size)).mono hws)) hAB)
  refine wpIn_rangeFunc_cell rfl (by omega : 1 ≤ m) (gf := 118) (lb := #[.pointer (some ⟨W.heap.size + 1, 0, none⟩)]) rfl trivial (enters_of Try.func118 (by kernel_rfl) rfl)
    hst (fun h k => HK.out.trans h k) (fun A k o o' hk ho hc _ => HK.out.put A k o o' (by omega) ho hc) (Below.refl _ _) (fun _ => rfl)
    (fun pre A => (∃ ys : List (DgIn ds n), ys.map (·.1) = (pre.map (·.1)).filter (onD n) ∧ J ys A) ∧ Go.Boxed A W.heap.size 121 (.func (.yield l) #[] #[]) ∧ Go.Boxed A bn 2 (.int .i64 (n : Int)))
    (fun c _ A => c = .ret ∧ ∃ ys : List (DgIn ds n), Jx ys A)
    (OwnFrom.and (fun pre A B row ⟨ys, hys, hj⟩ hg hr => ⟨ys, hys, HJ.out ys A B row hj hg (fun r e => ⟨by have := (hr r e).1; omega, (hr r e).2⟩)⟩)
      (OwnFrom.and (Own.from (boxed_own (β := List (CellIn ds)) _ _ (fun _ => Value.func (.yield l) #[] #[])) _) (Own.from (boxed_own (β := List (CellIn ds)) _ _ (fun _ => Value.int .i64 (n : Int))) _)))
    (fun c pre A B row ⟨hc, ys, hj⟩ hg hr => ⟨hc, ys, HJX.out ys A B row hj hg (fun r e => ⟨by have := (hr r e).1; omega, (hr r e).2⟩)⟩)
    ⟨⟨[], rfl, HJ0.out⟩, HBY.out, (HB0.out.block bn HBN.out.lt).trans HBN.out⟩
    (fun x => #[.int .i64 (x.1.1 : Int), .int .i64 (x.1.2 : Int)]) 4 101 (W.heap.size + 1)
    ?assign ?body ?done ?stop
  case assign =>
    rintro l2 pre x A K ⟨⟨ys, hys, hj⟩, hby, hbn⟩ hKK
    simp only [cellV] at hKK ⊢
    have hsz := hby.lt
    gi_wp2
    have hk := hKK A.heap.size _ hsz (World.alloc_heap_new A _) ((KeepsOthers.alloc _ _).from _) (HK.out.alloc A _ (by omega)) ⟨⟨ys, hys, HJ.out.alloc _ hj⟩, hby.alloc _, hbn.alloc _⟩
    · simp at hk
      refine Eq.mp ?_ hk
      congr 1
      all_goals (try congr 1)
  case body =>
    rintro l2 pre x Bx A hl ⟨r, hr⟩ ⟨⟨ys, hys, hJy⟩, hby, hbn⟩ hBx hX hlt
    obtain ⟨⟨i, j⟩, hxm⟩ := x
    dsimp only at hX
    have hxc := cells_fst hxm
    dsimp only at hxc
    have hi1 : i ≤ 1000 := by have := hxc.1; omega
    have hj1 : j ≤ 1000 := by
      have h1 := hxc.2
      rw [getD_of_lt _ hxc.1] at h1
      have := hl2 _ (List.getElem_mem hxc.1)
      omega
    have x0 : A.cell? ⟨Bx, 0, none⟩ = some (.int .i64 (i : Int)) := by simp [World.cell?, hX]
    have x1 : A.cell? ⟨Bx, 1, none⟩ = some (.int .i64 (j : Int)) := by simp [World.cell?, hX]
    have y0 := hby.cell
    have n0 := hbn.cell
    have hylen : ys.length < (cellsTo ds ds.length).length := by
      have h1 := congrArg List.length hys
      rw [List.length_map] at h1
      have h2 := List.length_filter_le (onD n) (pre.map (·.1))
      rw [List.length_map] at h2
      omega
    have HBYA := Lib.hid hby
    have HBNA := Lib.hid hbn
    have HYS := Lib.hid hys
    have HJY := Lib.hid hJy
    clear hX hr hby hbn hys hJy hlt hBx hl
    by_cases hd : i + j = n
    · have hq : (((i : Int) + (j : Int)) == (n : Int)) = true := by simp; omega
      have hmem : (i, j) ∈ dgn ds n := by rw [dgn_eq]; exact List.mem_filter.2 ⟨hxm, by simp [onD, hd]⟩
      obtain ⟨fn, tmps, assign, body, hy, hR⟩ := yieldAt_wide (l0 := l2) (m2 := m - 1 - 1 - 1) (HY.out ys ⟨(i, j), hmem⟩ A HJY.out hylen)
      dsimp only [dgV] at hy
      have hnext : ∀ W3, KeepsFrom W.heap.size A W3 → J (ys ++ [⟨(i, j), hmem⟩]) W3 → Kp A W3 →
          KeepsFrom W0.heap.size A W3 ∧ Kp A W3 ∧ (∃ ys : List (DgIn ds n), ys.map (·.1) = ((pre ++ ([⟨(i, j), hxm⟩] : List (CellIn ds))).map (·.1)).filter (onD n) ∧ J ys W3) ∧ Go.Boxed W3 W.heap.size 121 (.func (.yield l) #[] #[]) ∧ Go.Boxed W3 bn 2 (.int .i64 (n : Int)) := fun W3 hk hj hkp =>
        ⟨kf_narrow hk (by have := HS0.out; omega), hkp, ⟨_, by rw [filt_in, if_pos (by simp [onD, hd]), ← HYS.out, List.map_append]; rfl, hj⟩, HK.out.fns HBYA.out hkp, HK.out.num HBNA.out hkp⟩
      have HNEXT := Lib.hid hnext
      clear hnext
      have HS0' := HS0
      gi_wp2
      refine ⟨(fun h => by cases h), hR.mono ?_⟩
      rintro e W3 ⟨hk, (⟨rfl, hJ3, hkp⟩ | ⟨rfl, hJx3⟩)⟩
      · have HF := Lib.hid (HNEXT.out W3 hk hJ3 hkp)
        clear hk hJ3 hkp
        gi_wp2
        exact HF.out
      · have HF : Hid (KeepsFrom W0.heap.size A W3 ∧ Jx (ys ++ [⟨(i, j), hmem⟩]) W3) := Lib.hid ⟨kf_narrow hk (by have := HS0.out; omega), hJx3⟩
        clear hk hJx3
        gi_wp2
        exact ⟨HF.out.1, rfl, _, HF.out.2⟩
    · have hq : (((i : Int) + (j : Int)) == (n : Int)) = false := by simp; omega
      have HF : Hid (KeepsFrom W0.heap.size A A ∧ Kp A A ∧ (∃ ys : List (DgIn ds n), ys.map (·.1) = ((pre ++ ([⟨(i, j), hxm⟩] : List (CellIn ds))).map (·.1)).filter (onD n) ∧ J ys A) ∧ Go.Boxed A W.heap.size 121 (.func (.yield l) #[] #[]) ∧ Go.Boxed A bn 2 (.int .i64 (n : Int))) :=
        Lib.hid ⟨KeepsFrom.refl _ _, HK.out.refl _, ⟨ys, by rw [filt_in, if_neg (by simp [onD, hd]), List.append_nil, HYS.out], HJY.out⟩, HBYA.out, HBNA.out⟩
      gi_wp2
      refine ⟨fun _ h => (by cases h), ?_⟩
      gi_wp2
      exact HF.out
  case done =>
    rintro D zs A hD hS ⟨⟨ys, hys, hJy⟩, _, _⟩ hKD
    have HJY := Lib.hid hJy
    have HYS : Hid (ys.map (·.1) = dgn ds n) := Lib.hid (by rw [hys, hS]; rfl)
    have HKD := Lib.hid hKD
    have hDW : W.heap.size ≤ D := by have := HS0.out; omega
    clear hKD hJy hys hS
    gi_wp2
    refine ⟨by simp, .inl ⟨_, _, rfl, run_takeDeferred HKD.out, ?_⟩⟩
    exact ⟨_, results_none rfl _ _ _, ⟨_, rfl⟩, .inl ⟨ys, HYS.out, HJ.out.putObj _ HJY.out hDW HKD.out rfl⟩⟩
  case stop =>
    rintro D c pre A hD _ ⟨rfl, ys, hj⟩ hKD
    have HJY := Lib.hid hj
    have HKD := Lib.hid hKD
    have hDW : W.heap.size ≤ D := by have := HS0.out; omega
    clear hKD hj
    gi_wp2
    refine ⟨by simp, .inl ⟨_, _, rfl, run_takeDeferred HKD.out, ?_⟩⟩
    exact ⟨_, results_none rfl _ _ _, ⟨_, rfl⟩, .inr ⟨ys, HJX.out.putObj _ HJY.out hDW HKD.out rfl⟩⟩
end Go.Proofs.Ytlopenephgabhaa


namespace Go.Proofs.Ytlopenephgabhaa
open Go.RowKit

set_option maxRecDepth 100000 in
set_option maxHeartbeats 4000000 in
/-- Down: from the cell (i, j + 1) to the cell (i, j). -/
theorem partOfRow_down (p : Int) (i j r : Nat) (dv av vv : Value) (ds : List (List Int)) (ac dn : List (List (List (List Int)))) (w : World) (h : Dx 0 w dv av vv ds ac dn) (hi : i < dn.length) (hj : j + 1 < (dn[i]).length) (hr : r < ((dn[i])[j + 1]).length) (hi1 : i ≤ 1000) (hj1 : j ≤ 1000) (_ : r ≤ 1000) :
    Calls Try.prog 121 #[.agg #[.int .i64 p, dv, av, vv], .agg #[.int .i64 (i : Int), .int .i64 ((j : Int) + 1)], .int .i64 (r : Int), .agg #[.int .i64 (i : Int), .int .i64 (j : Int)]] w fun e w' => ∃ v, e = .returned v ∧ L1 0 w' v (((dn[i])[j + 1])[r]) ∧ Below w.heap.size w w' := by
  have hx0 := DBx.start (p := p) 28 h
  obtain ⟨ad, cd, rfl⟩ := Sl.shape h.dims
  obtain ⟨aa, ca, rfl⟩ := Sl.shape h.across
  rcases h.down with ⟨hx, _⟩ | ⟨bd, od, cv, rfl, _, _, hcl⟩
  · exact absurd (hx ▸ hi) (Nat.not_lt_zero _)
  obtain ⟨u1, hu1, hr1'⟩ := hcl i hi
  rcases hr1' with ⟨hx, _⟩ | ⟨b2, o2, c2, rfl, _, _, hcl2⟩
  · rw [hx] at hj; exact absurd hj (Nat.not_lt_zero _)
  obtain ⟨u2, hu2, hr2'⟩ := hcl2 (j + 1) hj
  rcases hr2' with ⟨hx, _⟩ | ⟨b3, o3, c3, rfl, _, _, hcl3⟩
  · rw [hx] at hr; exact absurd hr (Nat.not_lt_zero _)
  obtain ⟨u3, hu3, hr3⟩ := hcl3 r hr
  have HR3 := Lib.hid hr3
  have hB : Below w.heap.size w (((w.alloc (.cells #[.int .i64 p, .slice ad ds.length cd, .slice aa ac.length ca, .slice (some ⟨bd, od, none⟩) dn.length cv] 28)).alloc (.cells #[.int .i64 (i : Int), .int .i64 ((j : Int) + 1)] 101)).alloc (.cells #[.int .i64 (i : Int), .int .i64 (j : Int)] 101)) := (((Below.refl _ _).alloc (Nat.le_refl _) _).alloc (by simp) _).alloc (by simp; omega) _
  have hv1 := later hB (Nat.le_refl _) hu1
  have hv2 := later hB (Nat.le_refl _) hu2
  have hv3 := later hB (Nat.le_refl _) hu3
  obtain ⟨n0, hn0⟩ : ∃ n, n = ds.length := ⟨_, rfl⟩
  obtain ⟨n1, hn1⟩ : ∃ n, n = ac.length := ⟨_, rfl⟩
  obtain ⟨n2, hn2⟩ : ∃ n, n = dn.length := ⟨_, rfl⟩
  obtain ⟨n3, hn3⟩ : ∃ n, n = (dn[i]).length := ⟨_, rfl⟩
  obtain ⟨n4, hn4⟩ : ∃ n, n = ((dn[i])[j + 1]).length := ⟨_, rfl⟩
  obtain ⟨row, hrow⟩ : ∃ x, x = ((dn[i])[j + 1])[r] := ⟨_, rfl⟩
  rw [← hrow] at HR3 ⊢
  have hi' := hi
  rw [← hn2] at hi'
  have hj' := hj
  rw [← hn3] at hj'
  have hr' := hr
  rw [← hn4] at hr'
  rw [← hn0, ← hn1, ← hn2] at hB hv1 hv2 hv3 ⊢
  rw [← hn3] at hv1
  rw [← hn4] at hv2
  clear hx0 hcl hcl2 hcl3 hr3 hu1 hu2 hu3 hn0 hn1 hn2 hn3 hn4 hrow
  have hr := hr'
  have hj := hj'
  have hi := hi'
  have hjj : (((j : Int) + 1).toNat) = j + 1 := by omega
  go_enter Try.func121, Try.ntmps121
  go_wp2
  go_region
  go_wp2
  go_ret
  exact ⟨_, rfl, L1.below HR3.out hB.drew, hB.drew⟩
set_option maxRecDepth 100000 in
set_option maxHeartbeats 4000000 in
/-- Across: from the cell (i + 1, j) to the cell (i, j). -/
theorem partOfRow_across (p : Int) (i j r : Nat) (dv av vv : Value) (ds : List (List Int)) (ac dn : List (List (List (List Int)))) (w : World) (h : Dx 0 w dv av vv ds ac dn) (hi : i + 1 < ac.length) (hj : j < (ac[i + 1]).length) (hr : r < ((ac[i + 1])[j]).length) (hi1 : i ≤ 1000) (_ : j ≤ 1000) (_ : r ≤ 1000) :
    Calls Try.prog 121 #[.agg #[.int .i64 p, dv, av, vv], .agg #[.int .i64 ((i : Int) + 1), .int .i64 (j : Int)], .int .i64 (r : Int), .agg #[.int .i64 (i : Int), .int .i64 (j : Int)]] w fun e w' => ∃ v, e = .returned v ∧ L1 0 w' v (((ac[i + 1])[j])[r]) ∧ Below w.heap.size w w' := by
  have hx0 := DBx.start (p := p) 28 h
  obtain ⟨ad, cd, rfl⟩ := Sl.shape h.dims
  obtain ⟨aa, ca, rfl⟩ := Sl.shape h.down
  rcases h.across with ⟨hx, _⟩ | ⟨bd, od, cv, rfl, _, _, hcl⟩
  · exact absurd (hx ▸ hi) (Nat.not_lt_zero _)
  obtain ⟨u1, hu1, hr1'⟩ := hcl (i + 1) hi
  rcases hr1' with ⟨hx, _⟩ | ⟨b2, o2, c2, rfl, _, _, hcl2⟩
  · rw [hx] at hj; exact absurd hj (Nat.not_lt_zero _)
  obtain ⟨u2, hu2, hr2'⟩ := hcl2 j hj
  rcases hr2' with ⟨hx, _⟩ | ⟨b3, o3, c3, rfl, _, _, hcl3⟩
  · rw [hx] at hr; exact absurd hr (Nat.not_lt_zero _)
  obtain ⟨u3, hu3, hr3⟩ := hcl3 r hr
  have HR3 := Lib.hid hr3
  have hB : Below w.heap.size w (((w.alloc (.cells #[.int .i64 p, .slice ad ds.length cd, .slice (some ⟨bd, od, none⟩) ac.length cv, .slice aa dn.length ca] 28)).alloc (.cells #[.int .i64 ((i : Int) + 1), .int .i64 (j : Int)] 101)).alloc (.cells #[.int .i64 (i : Int), .int .i64 (j : Int)] 101)) := (((Below.refl _ _).alloc (Nat.le_refl _) _).alloc (by simp) _).alloc (by simp; omega) _
  have hv1 := later hB (Nat.le_refl _) hu1
  have hv2 := later hB (Nat.le_refl _) hu2
  have hv3 := later hB (Nat.le_refl _) hu3
  obtain ⟨n0, hn0⟩ : ∃ n, n = ds.length := ⟨_, rfl⟩
  obtain ⟨n1, hn1⟩ : ∃ n, n = ac.length := ⟨_, rfl⟩
  obtain ⟨n2, hn2⟩ : ∃ n, n = dn.length := ⟨_, rfl⟩
  obtain ⟨n3, hn3⟩ : ∃ n, n = (ac[i + 1]).length := ⟨_, rfl⟩
  obtain ⟨n4, hn4⟩ : ∃ n, n = ((ac[i + 1])[j]).length := ⟨_, rfl⟩
  obtain ⟨row, hrow⟩ : ∃ x, x = ((ac[i + 1])[j])[r] := ⟨_, rfl⟩
  rw [← hrow] at HR3 ⊢
  have hi' := hi
  rw [← hn1] at hi'
  have hj' := hj
  rw [← hn3] at hj'
  have hr' := hr
  rw [← hn4] at hr'
  rw [← hn0, ← hn1, ← hn2] at hB hv1 hv2 hv3 ⊢
  rw [← hn3] at hv1
  rw [← hn4] at hv2
  clear hx0 hcl hcl2 hcl3 hr3 hu1 hu2 hu3 hn0 hn1 hn2 hn3 hn4 hrow
  have hr := hr'
  have hj := hj'
  have hi := hi'
  have hjj : (((i : Int) + 1).toNat) = i + 1 := by omega
  go_enter Try.func121, Try.ntmps121
  go_wp2
  go_region
  go_wp2
  go_ret
  exact ⟨_, rfl, L1.below HR3.out hB.drew, hB.drew⟩
end Go.Proofs.Ytlopenephgabhaa


namespace Go.Proofs.Ytlopenephgabhaa
open Go.RowKit

theorem l1_zeros (W : World) (q : Nat) : L1 0 (W.alloc (.cells (madeCells #[.int .i64 0] q) 2)) (.slice (some ⟨W.heap.size, 0, none⟩) q q) (List.replicate q 0) := by
  by_cases h : q = 0
  · subst h; exact .inl ⟨rfl, _, _, rfl⟩
  · refine .inr ⟨W.heap.size, 0, q, by simp, Nat.zero_le _, by simp; omega, fun k hk => ⟨.int .i64 0, ?_, by simp [IsI]⟩⟩
    simp at hk
    rw [Nat.zero_add]
    exact (World.rowIs_made W (.int .i64 0) q _).cell hk

set_option maxRecDepth 100000 in
set_option maxHeartbeats 4000000 in
theorem partOfRow_zero (p : Int) (i j a b r : Nat) (dv av vv : Value) (ds : List (List Int)) (ac dn : List (List (List (List Int)))) (w : World) (h : Dx 0 w dv av vv ds ac dn) (hok : DclOk ds) (hc : (a, b) ∈ cellsTo ds ds.length) (h1 : ¬ (a + 1 = i ∧ b = j)) (h2 : ¬ (a = i ∧ b + 1 = j)) (hi1 : i ≤ 1000) (hj1 : j ≤ 1000) :
    Calls Try.prog 121 #[.agg #[.int .i64 p, dv, av, vv], .agg #[.int .i64 (i : Int), .int .i64 (j : Int)], .int .i64 (r : Int), .agg #[.int .i64 (a : Int), .int .i64 (b : Int)]] w fun e w' => ∃ v, e = .returned v ∧ L1 0 w' v (List.replicate (cdim ds (a, b)) 0) ∧ Below w.heap.size w w' := by
  have hcd := cdim_cast hok hc
  have hm := mem_cells.1 hc
  dsimp only at hm hcd
  have hm1 : a ≤ 1000 := by have := hok.len1; omega
  have hm2 : b ≤ 1000 := by
    have h2 := hm.2
    rw [getD_of_lt _ hm.1, (hok.col _ (List.getElem_mem hm.1)).1] at h2
    have := hok.h1
    omega
  have hd4 : cdim ds (a, b) ≤ 1000 := by omega
  have HD : Hid (∀ W, Below w.heap.size w W → Calls Try.prog 95 #[.agg #[.int .i64 p, dv, av, vv], .agg #[.int .i64 (a : Int), .int .i64 (b : Int)]] W fun e w' => e = .returned (.int .i64 ((cdim ds (a, b) : Nat) : Int)) ∧ Below w.heap.size w w') := Lib.hid (fun W hb => by
    rw [hcd.1]
    exact (dimOfCell_any p a b _ _ _ ds W (h.dims.below hb) ⟨by have := hok.len1; omega, fun r hr => by have := (hok.col r hr).1; have := hok.h1; show r.length ≤ _; omega⟩ (by omega) (by omega) (by omega) (fun _ => by simp only [Int.toNat_natCast]; exact Int.ofNat_lt.2 hm.2)).mono fun _ _ hh => ⟨hh.1, hb.trans (hh.2.mono hb.size)⟩)
  obtain ⟨ad, cd, rfl⟩ := Sl.shape h.dims
  obtain ⟨aa, ca, rfl⟩ := Sl.shape h.across
  obtain ⟨ae, ce, rfl⟩ := Sl.shape h.down
  clear h
  obtain ⟨n0, hn0⟩ : ∃ n, n = ds.length := ⟨_, rfl⟩
  obtain ⟨n1, hn1⟩ : ∃ n, n = ac.length := ⟨_, rfl⟩
  obtain ⟨n2, hn2⟩ : ∃ n, n = dn.length := ⟨_, rfl⟩
  rw [← hn0, ← hn1, ← hn2] at HD ⊢
  obtain ⟨q, hq⟩ : ∃ q, q = cdim ds (a, b) := ⟨_, rfl⟩
  rw [← hq] at HD hd4 ⊢
  clear hn0 hn1 hn2 hcd hm hq hok hc
  have hmk := run_make_row' (P := Try.prog) 35 2 (.int .i64 0) 8 Try.underlying35 Try.infoI rfl .i64 .i64 q (by omega) (by omega)
  have HEND : Hid (∀ W1 : World, Below w.heap.size w W1 → ∃ v, Ending.returned (Value.slice (some ⟨W1.heap.size, 0, none⟩) q q) = .returned v ∧ L1 0 (W1.alloc (.cells (madeCells #[.int .i64 0] q) 2)) v (List.replicate q 0) ∧ Below w.heap.size w (W1.alloc (.cells (madeCells #[.int .i64 0] q) 2))) := Lib.hid (fun W1 hb => ⟨_, rfl, l1_zeros _ _, hb.alloc hb.size _⟩)
  by_cases e1 : a + 1 = i
  · subst e1
    have e2 : ¬ ((b : Int) = (j : Int)) := by omega
    go_enter Try.func121, Try.ntmps121
    go_wp2_with fail
    refine (HD.out _ ?_).mono ?_
    · exact (((Below.refl _ _).alloc (Nat.le_refl _) _).alloc (by simp) _).alloc (by simp; omega) _
    rintro e w2 ⟨rfl, hb2⟩
    go_wp2
    go_ret
    exact HEND.out w2 hb2
  · by_cases e3 : a = i
    · subst e3
      have e2 : ¬ ((b : Int) = (j : Int) - 1) := by omega
      go_enter Try.func121, Try.ntmps121
      go_wp2_with fail
      refine (HD.out _ ?_).mono ?_
      · exact (((Below.refl _ _).alloc (Nat.le_refl _) _).alloc (by simp) _).alloc (by simp; omega) _
      rintro e w2 ⟨rfl, hb2⟩
      go_wp2
      go_ret
      exact HEND.out w2 hb2
    · have e2 : ¬ ((a : Int) = (i : Int) - 1) := by omega
      have e4 : ¬ ((a : Int) = (i : Int)) := by omega
      go_enter Try.func121, Try.ntmps121
      go_wp2_with fail
      refine (HD.out _ ?_).mono ?_
      · exact (((Below.refl _ _).alloc (Nat.le_refl _) _).alloc (by simp) _).alloc (by simp; omega) _
      rintro e w2 ⟨rfl, hb2⟩
      go_wp2
      go_ret
      exact HEND.out w2 hb2

/-- The part, as a whole. -/
theorem partOfRow_any (p : Int) (f c : Nat × Nat) (r : Nat) (dv av vv : Value) (ds : List (List Int)) (ac dn : List (List (List (List Int)))) (w : World) (h : Dx 0 w dv av vv ds ac dn) (hok : DclOk ds) (ht : TbsOk p ds ac dn) (hf : f ∈ cellsTo ds ds.length) (hc : c ∈ cellsTo ds ds.length) (hr : r < cdim ds f) :
    Calls Try.prog 121 #[.agg #[.int .i64 p, dv, av, vv], .agg #[.int .i64 (f.1 : Int), .int .i64 (f.2 : Int)], .int .i64 (r : Int), .agg #[.int .i64 (c.1 : Int), .int .i64 (c.2 : Int)]] w fun e w' => ∃ v, e = .returned v ∧ L1 0 w' v (prt ds ac dn f r c) ∧ Below w.heap.size w w' := by
  obtain ⟨i, j⟩ := f
  obtain ⟨a, b⟩ := c
  dsimp only
  have hmf := mem_cells.1 hf
  dsimp only at hmf
  have hi1 : i ≤ 1000 := by have := hok.len1; omega
  have hcol : (ds.getD i []).length = (ds.getD 0 []).length := by rw [getD_of_lt _ hmf.1]; exact (hok.col _ (List.getElem_mem hmf.1)).1
  have hj1 : j ≤ 1000 := by have := hok.h1; omega
  have hcd := cdim_cast hok hf
  obtain ⟨ta, td⟩ := ht.tab _ hf
  dsimp only at hcd ta td
  have hr1 : r ≤ 1000 := by omega
  by_cases h1 : a + 1 = i ∧ b = j
  · obtain ⟨rfl, rfl⟩ := h1
    have hia : a + 1 < ac.length := by rw [ht.la]; exact hmf.1
    have hj : b < (ac[a + 1]).length := by have := ht.ca (a + 1) hmf.1; rw [getD_of_lt _ hia] at this; rw [this]; exact hmf.2
    have hl := ta.1
    rw [getD_of_lt _ hia, getD_of_lt _ hj] at hl
    have hr' : r < ((ac[a + 1])[b]).length := by omega
    rw [prt_a (f := (a + 1, b)) (c := (a, b)) r ⟨rfl, rfl⟩]
    unfold tbl
    dsimp only
    rw [getD_of_lt _ hia, getD_of_lt _ hj, getD_of_lt _ hr']
    exact partOfRow_across p a b r dv av vv ds ac dn w h hia hj hr' (by omega) (by omega) hr1
  · by_cases h2 : a = i ∧ b + 1 = j
    · obtain ⟨rfl, rfl⟩ := h2
      have hia : a < dn.length := by rw [ht.ld]; exact hmf.1
      have hj : b + 1 < (dn[a]).length := by have := ht.cd a hmf.1; rw [getD_of_lt _ hia] at this; rw [this]; exact hmf.2
      have hl := td.1
      rw [getD_of_lt _ hia, getD_of_lt _ hj] at hl
      have hr' : r < ((dn[a])[b + 1]).length := by omega
      rw [prt_d (f := (a, b + 1)) (c := (a, b)) r ⟨rfl, rfl⟩]
      unfold tbl
      dsimp only
      rw [getD_of_lt _ hia, getD_of_lt _ hj, getD_of_lt _ hr']
      exact partOfRow_down p a b r dv av vv ds ac dn w h hia hj hr' (by omega) (by omega) hr1
    · rw [prt_o (f := (i, j)) (c := (a, b)) r h1 h2]
      exact partOfRow_zero p i j a b r dv av vv ds ac dn w h hok hc h1 h2 hi1 hj1
end Go.Proofs.Ytlopenephgabhaa


namespace Go.Proofs.Ytlopenephgabhaa
open Go.RowKit

/-! ### The conditions of the program. -/
/-! ### What a test keeps of the places. -/
def kept (P : Nat → Bool) (d : Nat) : List Nat := (List.range d).filter P
end Go.Proofs.Ytlopenephgabhaa

namespace Go.Proofs.Ytlopenephgabhaa
open Go.RowKit

end Go.Proofs.Ytlopenephgabhaa

namespace Go.Proofs.Ytlopenephgabhaa
open Go.RowKit

end Go.Proofs.Ytlopenephgabhaa

namespace Go.Proofs.Ytlopenephgabhaa
open Go.RowKit

end Go.Proofs.Ytlopenephgabhaa

namespace Go.Proofs.Ytlopenephgabhaa
open Go.RowKit

end Go.Proofs.Ytlopenephgabhaa

namespace Go.Proofs.Ytlopenephgabhaa
open Go.RowKit

end Go.Proofs.Ytlopenephgabhaa

namespace Go.Proofs.Ytlopenephgabhaa
open Go.RowKit

end Go.Proofs.Ytlopenephgabhaa

namespace Go.Proofs.Ytlopenephgabhaa
open Go.RowKit

end Go.Proofs.Ytlopenephgabhaa


namespace Go.Proofs.Ytlopenephgabhaa
open Go.RowKit

section
variable {P : Program} {ops : Array Oper} {Q : Exit → Act → World → Prop} {md : Region.Mode} {S : World → Prop}
/-- A drawn region within a round, its last operation apart. -/
theorem wpIn_region_last {l m id : Nat} {a : Act} {w : World} {on : Oper} (S : World → Prop) (n : Nat) (hm : P.follows .mixedOrders = true) (hd : noDefer ops = true) (hno : ¬ LetsOut Q) (hn : ops[n]? = some on) (hB : lastB .any ops n = true)
    (h : wpAnyH P .any (ops.setIfInBounds n (calmOp on)) (lastQ P ops n Q) S ops.size (Array.replicate ops.size false) a { w with drawn := w.drawn + 1 }) : (Code.region id ops true).wpIn (Fence.wide.inRound l) m P Q a w := by
  have hl := lastB_ok hn hB
  refine wpIn_region_any hm (wpAnyIn_of (noDefer_spec hd) hno _ _ _ _ (any_of_calm (S := S) hl _ _ _ _ (by simp) ?_ h))
  have := hl.size
  have hlt : n < ops.size := by omega
  simp [hlt]
/-- append, by the run's equation. -/
theorem held_app {i : Nat} {oi : Oper} {fuel : Nat} {listed : Array Bool} {a : Act} {w w' : World} {v x y : Value} (d : Option Tmp) (ta : Array TypeId) (l c : Operand) (hr : Region.ready md ops listed = [i]) (hi : ops[i]? = some oi) (hg : oi.guard = none) (hd : oi.dst = d)
    (ho : oi.op = .call { callee := .builtin .append, args := #[l, c], argTypes := ta }) (hl : a.eval l = x) (hc : a.eval c = y) (h : ∀ ty, (Builtin.append_ ta ty #[x, y]).run P w = .ok v w') (hS : S w') (hh : wpAnyH P md ops Q S fuel (listed.setIfInBounds i true) (a.put d v) w') : wpAnyH P md ops Q S (fuel + 1) listed a w :=
  held_mem d hr hi hg hd (by simp [execOp, ho, resolve, invoke, builtin, hl, hc, h, Result.andThen]) hS hh
end
section
variable {ops : Array Oper} {Q : Exit → Act → World → Prop} {n : Nat}
theorem lastQ_storeN {on : Oper} {a : Act} {w : World} (hn : ops[n]? = some on) (hg : on.guard = none) (_ : on.dst = none) (x y : Operand) (ho : on.op = .store 35 x y)
    (b o : Nat) (ad : Option Addr) (l c : Nat) (u : Value) (hx : a.eval x = .pointer (some ⟨b, o, none⟩)) (hy : a.eval y = .slice ad l c) (hc : w.cell? ⟨b, o, none⟩ = some u) (hf : w.frozen? ⟨b, o, none⟩ = false)
    (h : Q .normal a (w.setCell ⟨b, o, none⟩ (.slice ad l c))) : lastQ Try.prog ops n Q .normal a w :=
  lastQ_of hn hg (by
    unfold Oper.wp execOp
    simp only [ho, hx, hy]
    go_simp
    exact h)
end

/-- append of a row: where the new one lies. -/
theorem run_append_at {base : Nat} (w : World) (ty : TypeId) (v : Value) (xs : List Int) (hown : Gb base w v xs) (u : Value) (ys : List Int) (hy : L1 0 w u ys) (h63 : xs.length + ys.length ≤ 2097152) (hb : base ≤ w.heap.size) :
    ∃ v' w', (Builtin.append_ #[35, 35] ty #[v, u]).run Try.prog w = .ok v' w' ∧ Gb base w' v' (xs ++ ys) ∧ w.grownBy w' v.ownBlock ∧ (v'.ownBlock = v.ownBlock ∨ v'.ownBlock = some w.heap.size) := by
  obtain ⟨i, hi, hz, hs, hbt⟩ := info_parts Try.infoI
  rcases hy with ⟨rfl, ad, cap, rfl⟩ | ⟨b, o, cap, rfl, _, hpos, hc⟩
  · exact ⟨v, w, run_append_none' w _ _ _ i Try.underlying35 hi hown ad cap, by rw [List.append_nil]; exact hown, ⟨rfl, rfl, rfl, Nat.le_refl _, fun _ _ _ => rfl⟩, .inl rfl⟩
  · obtain ⟨g, cp, w', hr, h2, h3, h4, _⟩ := run_append_lies (P := Try.prog) (w := w) 35 ty base 2 i _ 1 8 Try.underlying35 hi hz hs hbt (by rfl) (by decide) v xs.length (xs.map (Value.int .i64)) hown ⟨b, o, none⟩ ys.length cap (ys.map (Value.int .i64)) (by simp)
      (fun j u hj => by
        have hj' : j < ys.length := by have := (List.getElem?_eq_some_iff.1 hj).1; simpa using this
        obtain ⟨u2, hu2, hr2⟩ := hc j hj'
        rw [Addr.add_mid, hu2, hr2]
        simp [hj'] at hj
        rw [← hj]) (fun u hu => by
        obtain ⟨y, _, rfl⟩ := List.mem_map.1 hu
        rfl) hpos (by unfold maxLen; omega) (by omega) hb w.heap.size rfl
    refine ⟨_, w', hr, by simpa [Gb] using h2, h3, ?_⟩
    rcases h4 with h4 | h4
    · exact .inl h4.symm
    · exact .inr (by rw [h4]; rfl)

/-- What a block that a list of numbers owns is. -/
theorem own_cells {base : Nat} {W : World} {v : Value} {xs : List Int} (h : Gb base W v xs) {g : Nat} (hg : v.ownBlock = some g) : ∃ c, W.heap[g]? = some (.cells c 2 (0, 0)) ∧ base ≤ g := by
  rcases h.2 with ⟨rfl, _⟩ | ⟨g', cap, cur, rfl, hb, hgb, _⟩
  · cases hg
  · obtain rfl : g' = g := by simpa [Value.ownBlock] using hg
    exact ⟨cur, hgb, hb⟩
theorem own_lt {base : Nat} {W : World} {v : Value} {xs : List Int} (h : Gb base W v xs) {g : Nat} (hg : v.ownBlock = some g) : g < W.heap.size := by
  obtain ⟨c, hc, _⟩ := own_cells h hg
  exact (Array.getElem?_eq_some_iff.1 hc).1
theorem off_type {base : Nat} {W : World} {v : Value} {xs : List Int} (h : Gb base W v xs) {b : Nat} {c : Array Value} {t : TypeId} {f : Nat × Nat} (hb : W.heap[b]? = some (.cells c t f)) (ht : t ≠ 2) : some b ≠ v.ownBlock := fun e => by
  obtain ⟨c', hc, _⟩ := own_cells h e.symm
  rw [hc] at hb
  cases hb
  exact ht rfl
theorem off_other {base : Nat} {W : World} {v : Value} {xs : List Int} (h : Gb base W v xs) {b : Nat} {o : Obj} (hb : W.heap[b]? = some o) (ho : o.isCells = false) : some b ≠ v.ownBlock := fun e => by
  obtain ⟨c', hc, _⟩ := own_cells h e.symm
  rw [hc] at hb
  cases hb
  cases ho
theorem off_low {base : Nat} {W : World} {v : Value} {xs : List Int} (h : Gb base W v xs) {b : Nat} (hb : b < base) : some b ≠ v.ownBlock := fun e => by
  obtain ⟨_, _, h2⟩ := own_cells h e.symm
  omega
theorem off_new {base : Nat} {W : World} {v : Value} {xs : List Int} (h : Gb base W v xs) {b : Nat} (hb : W.heap.size ≤ b) : some b ≠ v.ownBlock := fun e => by
  have := own_lt h e.symm
  omega

/-- The list in its box. -/
structure Tn (Bn base : Nat) (W : World) (v : Value) (xs : List Int) : Prop where
  box : Go.Boxed W Bn 35 v
  row : Gb base W v xs
/-- Nothing changed but the box and the block that its value owns. -/
structure Stp (Bn : Nat) (A W : World) (v v' : Value) : Prop where
  os : W.os = A.os
  tape : W.tape = A.tape
  output : W.output = A.output
  size : A.heap.size ≤ W.heap.size
  block : ∀ k, k < A.heap.size → k ≠ Bn → some k ≠ v.ownBlock → W.heap[k]? = A.heap[k]?
  own : v'.ownBlock = v.ownBlock ∨ ∃ g, v'.ownBlock = some g ∧ A.heap.size ≤ g
theorem Stp.refl (Bn : Nat) (A : World) (v : Value) : Stp Bn A A v v := ⟨rfl, rfl, rfl, Nat.le_refl _, fun _ _ _ _ => rfl, .inl rfl⟩
theorem Stp.off {Bn : Nat} {A W : World} {v v' : Value} (h : Stp Bn A W v v') {b : Nat} (hb : b < A.heap.size) (ho : some b ≠ v.ownBlock) : some b ≠ v'.ownBlock := fun e => by
  rcases h.own with h1 | ⟨g, h1, h2⟩
  · exact ho (e.trans h1)
  · rw [h1] at e
    cases e
    omega
theorem Stp.trans {Bn : Nat} {A B C : World} {u v z : Value} (h : Stp Bn A B u v) (k : Stp Bn B C v z) : Stp Bn A C u z :=
  ⟨k.os.trans h.os, k.tape.trans h.tape, k.output.trans h.output, Nat.le_trans h.size k.size, fun i hi hn ho => (k.block i (Nat.lt_of_lt_of_le hi h.size) hn (h.off hi ho)).trans (h.block i hi hn ho), by
    rcases k.own with h1 | ⟨g, h1, h2⟩
    · rcases h.own with h3 | ⟨g, h3, h4⟩
      · exact .inl (h1.trans h3)
      · exact .inr ⟨g, h1.trans h3, h4⟩
    · exact .inr ⟨g, h1, Nat.le_trans h.size h2⟩⟩
theorem Stp.of_below {Bn : Nat} {A W : World} (v : Value) (h : Below A.heap.size A W) : Stp Bn A W v v := ⟨h.os, h.tape, h.output, h.size, fun k hk _ _ => h.block k hk, .inl rfl⟩
/-- One append and its store. -/
theorem Stp.app {Bn : Nat} {A X W : World} {v v' : Value} (h : Below A.heap.size A X) (hg : X.grownBy W v.ownBlock) (ho : v'.ownBlock = v.ownBlock ∨ v'.ownBlock = some X.heap.size) : Stp Bn A (W.setCell ⟨Bn, 0, none⟩ v') v v' :=
  ⟨hg.os.trans h.os, hg.tape.trans h.tape, hg.output.trans h.output, by simpa [World.setCell] using Nat.le_trans h.size hg.size, fun k hk hn hk2 =>
    ((Below.heap_setCell W ⟨Bn, 0, none⟩ v' k (by exact hn)).trans (hg.block k (Nat.lt_of_lt_of_le hk h.size) hk2)).trans (h.block k hk), by
    rcases ho with ho | ho
    · exact .inl ho
    · exact .inr ⟨_, ho, h.size⟩⟩
theorem Stp.low {Bn base n0 : Nat} {A W : World} {v v' : Value} {xs : List Int} (h : Stp Bn A W v v') (hr : Gb base A v xs) (h1 : n0 ≤ Bn) (h2 : n0 ≤ base) (h3 : n0 ≤ A.heap.size) : Below n0 A W :=
  ⟨h.os, h.tape, h.output, h.size, fun k hk => h.block k (by omega) (by omega) (off_low hr (by omega))⟩
theorem Stp.keeps {Bn base B : Nat} {A W : World} {v v' : Value} {xs : List Int} (h : Stp Bn A W v v') (hr : Tn Bn base A v xs) : KeepsFrom B A W :=
  ⟨h.size, fun k o _ hk ho => (h.block k (Array.getElem?_eq_some_iff.1 hk).1 (fun e => by
    subst e
    rw [show A.heap[k]? = _ from hr.box] at hk
    cases hk
    cases ho) (off_other hr.row hk ho)).trans hk⟩
theorem Tn.below {Bn base : Nat} {W W' : World} {v : Value} {xs : List Int} (h : Tn Bn base W v xs) (hb : Below W.heap.size W W') : Tn Bn base W' v xs := ⟨(hb.block _ h.box.lt).trans h.box, h.row.below hb⟩
theorem Tn.kept {Bn base : Nat} {W W' : World} {v : Value} {xs : List Int} {row : Option Nat} (h : Tn Bn base W v xs) (hg : W.grownBy W' row) (hr : ∀ r, row = some r → ∃ o : Obj, W.heap[r]? = some o ∧ o.isCells = false) : Tn Bn base W' v xs := by
  refine ⟨h.box.kept hg (fun e => ?_), h.row.kept hg ?_⟩
  · obtain ⟨o, ho, hc⟩ := hr _ e.symm
    rw [show W.heap[Bn]? = _ from h.box] at ho
    cases ho
    cases hc
  · cases hv : v.ownBlock with
    | none => exact .inl rfl
    | some g =>
      refine .inr (fun e => ?_)
      obtain ⟨o, ho, hc⟩ := hr g e.symm
      obtain ⟨c, hcc, _⟩ := own_cells h.row hv
      rw [hcc] at ho
      cases ho
      cases hc
/-- The two together abide turns of blocks beyond the beginning. -/
theorem tn_own {β : Type} {Bn base : Nat} {A : World} {v0 : Value} (f : β → List Int) : OwnFrom A.heap.size (fun (s : β) W => ∃ v, Tn Bn base W v (f s) ∧ Stp Bn A W v0 v) := fun s X Y row ⟨v, ht, hs⟩ hg hr =>
  ⟨v, ht.kept hg (fun r e => (hr r e).2), ⟨hg.os.trans hs.os, hg.tape.trans hs.tape, hg.output.trans hs.output, Nat.le_trans hs.size hg.size, fun k hk hn ho =>
    (hg.block k (Nat.lt_of_lt_of_le hk hs.size) (fun e => by have := (hr k e.symm).1; omega)).trans (hs.block k hk hn ho), hs.own⟩⟩

/-- What the bodies keep of the iterator's boxes. -/
structure Kd (n0 bn : Nat) (A W : World) : Prop where
  bel : Below n0 A W
  num : W.heap[bn]? = A.heap[bn]?
  fns : ∀ k v, Go.Boxed A k 121 v → Go.Boxed W k 121 v
theorem Stp.kd {Bn base n0 bn : Nat} {A W : World} {v v' : Value} {xs : List Int} (h : Stp Bn A W v v') (hr : Tn Bn base A v xs) (h1 : n0 ≤ Bn) (h2 : n0 ≤ base) (h3 : n0 ≤ A.heap.size) (h4 : bn ≠ Bn) (h5 : some bn ≠ v.ownBlock) (h6 : bn < A.heap.size) : Kd n0 bn A W :=
  ⟨h.low hr.row h1 h2 h3, h.block bn h6 h4 h5, fun k u hu => (h.block k hu.lt (fun e => by
    subst e
    have := (show A.heap[k]? = _ from hu).symm.trans hr.box
    simp at this) (off_type hr.row hu (by decide))).trans hu⟩
theorem kd_dgk {n0 bn : Nat} {n : Int} {dv : Value} {ds : List (List Int)} {w0 w : World} (h0 : w0.heap.size = n0) (hl : L2 0 w0 dv ds) (hb : Below n0 w0 w) (hbn : bn < w.heap.size) : DgK (Kd n0 bn) w bn n dv ds where
  refl A := ⟨Below.refl _ _, rfl, fun _ _ h => h⟩
  trans h k := ⟨h.bel.trans k.bel, k.num.trans h.num, fun i v hv => k.fns i v (h.fns i v hv)⟩
  dims hA hAB := by
    subst h0
    exact hl.below ((hb.trans (hA.mono hb.size)).trans hAB.bel)
  num h k := k.num.trans h
  fns h k := k.fns _ _ h
  put A k o o' hk ho hc := by
    have hs := hb.size
    refine ⟨⟨rfl, rfl, rfl, by simp, fun i hi => World.putObj_heap_other (by omega)⟩, World.putObj_heap_other (by omega), fun i v hv => ?_⟩
    refine (World.putObj_heap_other (fun e => ?_)).trans hv
    subst e
    rw [show A.heap[_]? = _ from hv] at ho
    cases ho
    cases hc
  alloc A o hA := by
    have hs := hb.size
    exact ⟨(Below.refl _ _).alloc (by omega) _, Below.heap_alloc A o bn (by omega), fun i v hv => hv.alloc _⟩
end Go.Proofs.Ytlopenephgabhaa


namespace Go.Proofs.Ytlopenephgabhaa
open Go.RowKit

/-- A step that turns at most one block, of the tag k (or no block of cells); what was there keeps its tag. -/
structure Stp1 (L L' : Nat → Nat) (k : Nat) (W W' : World) : Prop where
  ex : ∃ row, W.grownBy W' row ∧ ∀ r, row = some r → r < W.heap.size → L r = k ∨ ∃ o : Obj, W.heap[r]? = some o ∧ o.isCells = false
  old : ∀ b, b < W.heap.size → L' b = L b
section
variable {L L' : Nat → Nat} {k j s base : Nat} {W W' : World} {u y : Value}
theorem Stp1.own (st : Stp1 L L' k W W') {e : TypeId} {n : Nat} {xs : List Value} (h : W.ownsRow base e 1 u n xs) (hj : ∀ g, u.ownBlock = some g → L g ≠ k) : W'.ownsRow base e 1 u n xs := by
  obtain ⟨⟨row, hg, hr⟩, _⟩ := st
  refine h.kept hg ?_
  cases hv : u.ownBlock with
  | none => exact .inl rfl
  | some g =>
    refine .inr (fun e => ?_)
    rcases hr g e.symm (h.lt g hv).2 with h1 | ⟨o, ho, hc⟩
    · exact hj g hv h1
    · rcases h.2 with ⟨h0, _⟩ | ⟨g', c', cur, hu, _, hh, _⟩
      · rw [h0] at hv; simp [Value.ownBlock] at hv
      · rw [hu] at hv
        simp [Value.ownBlock] at hv
        subst hv
        rw [hh] at ho
        cases ho
        cases hc
theorem Stp1.of_below (hb : Below W.heap.size W W') (ho : ∀ b, b < W.heap.size → L' b = L b) (k : Nat) : Stp1 L L' k W W' := ⟨⟨none, ⟨hb.os, hb.tape, hb.output, hb.size, fun i hi _ => hb.block i hi⟩, fun r e => by cases e⟩, ho⟩
theorem grown_setCell (W : World) (D i : Nat) (r : Value) : W.grownBy (W.setCell ⟨D, i, none⟩ r) (some D) := ⟨by first | rfl | simp, by first | rfl | simp, by first | rfl | simp, by first | simp | exact Nat.le_refl _, fun q _ hne => Below.heap_setCell W ⟨D, i, none⟩ r q (fun e => hne (by rw [e]))⟩
theorem Stp1.of_set {D : Nat} (hL : L D = k) (W : World) (i : Nat) (r : Value) : Stp1 L L k W (W.setCell ⟨D, i, none⟩ r) := ⟨⟨some D, grown_setCell W D i r, fun q e _ => by cases e; exact .inl hL⟩, fun _ _ => rfl⟩
/-- A list in a block of a tag. -/
def TR (L : Nat → Nat) (k base : Nat) (e : TypeId) (W : World) (u : Value) (n : Nat) (xs : List Value) : Prop := W.ownsRow base e 1 u n xs ∧ ∀ g, u.ownBlock = some g → L g = k
theorem TR.kept {e : TypeId} {n : Nat} {xs : List Value} (h : TR L j base e W u n xs) (st : Stp1 L L' k W W') (hjk : j ≠ k) : TR L' j base e W' u n xs :=
  ⟨st.own h.1 (fun g hg => by rw [h.2 g hg]; exact hjk), fun g hg => by rw [st.old g (h.1.lt g hg).2]; exact h.2 g hg⟩
theorem TR.set {e : TypeId} {D n cap : Nat} {xs : List Value} (h : TR L k base e W (.slice (some ⟨D, 0, none⟩) n cap) n xs) {i : Nat} (_ : i < n) (r : Value) : TR L k base e (W.setCell ⟨D, i, none⟩ r) (.slice (some ⟨D, 0, none⟩) n cap) n (xs.set i r) := by
  refine ⟨⟨by simpa using h.1.1, ?_⟩, h.2⟩
  rcases h.1.2 with ⟨h0, _⟩ | ⟨g', c', cur, hv, hlo, hh, hnc, hcm, hcs, htk⟩
  · cases h0
  injection hv with e1 e2 e3
  injection e1 with e1
  injection e1 with e1
  subst e1 e3
  refine Or.inr ⟨D, cap, cur.setIfInBounds i r, rfl, hlo, block_setCell' hh _, hnc, hcm, by simpa using hcs, ?_⟩
  simp only [Nat.mul_one] at htk ⊢
  rw [Array.toList_setIfInBounds, List.take_set, htk]
theorem TR.at' {e : TypeId} {D n cap : Nat} {xs : List Value} (h : TR L k base e W (.slice (some ⟨D, 0, none⟩) n cap) n xs) {i : Nat} (hi : i < xs.length) : W.cell? ⟨D, i, none⟩ = some xs[i] ∧ W.frozen? ⟨D, i, none⟩ = false ∧ L D = k ∧ base ≤ D ∧ ∃ cs, W.heap[D]? = some (.cells cs e (0, 0)) := by
  have hl := h.1.1
  have hk := h.2 D rfl
  rcases h.1.2 with ⟨h0, _⟩ | ⟨g', c', cur, hv, hlo, hh, hnc, hcm, hcs, htk⟩
  · cases h0
  injection hv with e1 e2 e3
  injection e1 with e1
  injection e1 with e1
  subst e1
  have h5 : (cur.toList.take (n * 1))[i]? = xs[i]? := by rw [htk]
  rw [List.getElem?_take, if_pos (by omega), List.getElem?_eq_getElem hi] at h5
  exact ⟨by simp [World.cell?, hh]; simpa using h5, by simp [World.frozen?, hh], hk, hlo, _, hh⟩
/-- A list of numbers in a block of a tag. -/
def TI (L : Nat → Nat) (k base : Nat) (W : World) (u : Value) (xs : List Int) : Prop := Gb base W u xs ∧ ∀ g, u.ownBlock = some g → L g = k
theorem TI.kept {xs : List Int} (h : TI L j base W u xs) (st : Stp1 L L' k W W') (hjk : j ≠ k) : TI L' j base W' u xs :=
  ⟨st.own h.1 (fun g hg => by rw [h.2 g hg]; exact hjk), fun g hg => by rw [st.old g (h.1.lt g hg).2]; exact h.2 g hg⟩
/-- A table, its rows apart, in blocks of a tag. -/
def TTab (L : Nat → Nat) (s base : Nat) (W : World) (u : Value) (t : List (List Int)) : Prop := ∃ vs, Gqv base W u vs t ∧ (∀ g, u.ownBlock = some g → L g = s) ∧ ∀ k (h : k < vs.length) g, vs[k].ownBlock = some g → L g = s
theorem TTab.kept {t : List (List Int)} (h : TTab L s base W u t) (st : Stp1 L L' k W W') (hsk : s ≠ k) : TTab L' s base W' u t := by
  obtain ⟨vs, hq, h1, h2⟩ := h
  exact ⟨vs, ⟨st.own hq.own (fun g hg => by rw [h1 g hg]; exact hsk), fun i a b => st.own (hq.rows i a b) (fun g hg => by rw [h2 i a g hg]; exact hsk), hq.ap⟩, fun g hg => by rw [st.old g (hq.own.lt g hg).2]; exact h1 g hg, fun i a g hg => by rw [st.old g ((hq.rows i a (by have := hq.len; omega)).lt g hg).2]; exact h2 i a g hg⟩
theorem TTab.l2 {t : List (List Int)} (h : TTab L s base W u t) : L2 0 W u t := by
  obtain ⟨vs, hq, _⟩ := h
  exact hq.gs.l2
/-- A list of tables. -/
def TTabs (L : Nat → Nat) (k : Nat) (τ : Nat → Nat) (base : Nat) (W : World) (u : Value) (ts : List (List (List Int))) : Prop := ∃ vs, TR L k base 22 W u ts.length vs ∧ ∀ i (h1 : i < vs.length) (h2 : i < ts.length), TTab L (τ i) base W vs[i] ts[i]
theorem TTabs.kept {τ : Nat → Nat} {ts : List (List (List Int))} (h : TTabs L k τ base W u ts) (st : Stp1 L L' j W W') (hk : k ≠ j) (hτ : ∀ i, i < ts.length → τ i ≠ j) : TTabs L' k τ base W' u ts := by
  obtain ⟨vs, ho, hr⟩ := h
  exact ⟨vs, ho.kept st hk, fun i h1 h2 => (hr i h1 h2).kept st (hτ i h2)⟩
theorem TTabs.nil (L : Nat → Nat) (k : Nat) (τ : Nat → Nat) (base : Nat) (W : World) : TTabs L k τ base W (.slice none 0 0) [] := ⟨[], ⟨⟨rfl, .inl ⟨rfl, rfl⟩⟩, fun g hg => by simp [Value.ownBlock] at hg⟩, fun i h1 => absurd h1 (Nat.not_lt_zero _)⟩
theorem TI.nil (L : Nat → Nat) (k base : Nat) (W : World) : TI L k base W (.slice none 0 0) [] := ⟨⟨rfl, Or.inl ⟨rfl, rfl⟩⟩, fun g hg => by simp [Value.ownBlock] at hg⟩
theorem TTabs.cap {τ : Nat → Nat} {ts : List (List (List Int))} (h : TTabs L k τ base W u ts) : ∃ a n c, u = .slice a n c ∧ n ≤ c := by
  obtain ⟨vs, ho, _⟩ := h
  rcases ho.1.2 with ⟨h0, _⟩ | ⟨g', c', cur, hv, hlo, hh, hnc, _⟩
  · exact ⟨_, _, _, h0, Nat.le_refl _⟩
  · exact ⟨_, _, _, hv, hnc⟩
end
/-- append of one number. -/
theorem TI.append {L : Nat → Nat} {k base : Nat} {W : World} {u : Value} {xs : List Int} (h : TI L k base W u xs) (g : Nat) (x : Int) (hc : W.cell? ⟨g, 0, none⟩ = some (.int .i64 x)) (hl : xs.length ≤ 1000) (hb : base ≤ W.heap.size) :
    ∃ g' cap W', (Builtin.append_ #[35, 35] 35 #[u, .slice (some ⟨g, 0, none⟩) 1 1]).run Try.prog W = .ok (.slice (some ⟨g', 0, none⟩) (xs.length + 1) cap) W' ∧ W.grownBy W' u.ownBlock ∧ g' < W'.heap.size ∧
      ∀ L' : Nat → Nat, (∀ b, b < W.heap.size → L' b = L b) → (∀ b, W.heap.size ≤ b → L' b = k) → TI L' k base W' (.slice (some ⟨g', 0, none⟩) (xs.length + 1) cap) (xs ++ [x]) := by
  obtain ⟨i, hi, hz, hs, hbt⟩ := info_parts Try.infoI
  obtain ⟨g', cap, W', hr, h2, h3, h4, h5⟩ := run_append_lies (P := Try.prog) (w := W) 35 35 base 2 i _ 1 8 Try.underlying35 hi hz hs hbt (by rfl) (by decide) u xs.length (xs.map (Value.int .i64)) h.1 ⟨g, 0, none⟩ 1 1 [.int .i64 x] rfl
    (fun q v hq => by
      match q, hq with
      | 0, hq =>
        simp at hq
        subst hq
        exact hc) (fun v hv => by
      simp at hv
      subst hv
      rfl) (by omega) (by unfold maxLen; omega) (by omega) hb W.heap.size rfl
  refine ⟨g', cap, W', hr, h3, h5, fun L' hL hN => ⟨by unfold Gb; simpa using h2, fun q hq => ?_⟩⟩
  have e : g' = q := by simpa [Value.ownBlock] using hq
  subst e
  rcases h4 with h4 | h4
  · rw [hL _ (h.1.lt _ h4).2]
    exact h.2 _ h4
  · exact hN _ (by omega)
/-- append of one table. -/
theorem TTabs.append {L : Nat → Nat} {k base : Nat} {τ : Nat → Nat} {W : World} {u y : Value} {ts : List (List (List Int))} {t : List (List Int)} (h : TTabs L k τ base W u ts) (hτ : ∀ i, i ≤ ts.length → τ i ≠ k) (hx : TTab L (τ ts.length) base W y t) (g : Nat) (hc : W.cell? ⟨g, 0, none⟩ = some y) (hl : ts.length ≤ 1000) (hb : base ≤ W.heap.size) :
    ∃ g' cap W', (Builtin.append_ #[36, 36] 36 #[u, .slice (some ⟨g, 0, none⟩) 1 1]).run Try.prog W = .ok (.slice (some ⟨g', 0, none⟩) (ts.length + 1) cap) W' ∧ W.grownBy W' u.ownBlock ∧ g' < W'.heap.size ∧
      ∀ L' : Nat → Nat, (∀ b, b < W.heap.size → L' b = L b) → (∀ b, W.heap.size ≤ b → L' b = k) → TTabs L' k τ base W' (.slice (some ⟨g', 0, none⟩) (ts.length + 1) cap) (ts ++ [t]) := by
  obtain ⟨i, hi, hz, hs, hbt⟩ := info_parts Try.infoSS
  obtain ⟨vs, ho, hr⟩ := h
  have hyo : y.oneCell' = true := by
    obtain ⟨a, c, rfl⟩ := Sl.shape hx.l2
    rfl
  obtain ⟨g', cap, W', hrun, h2, h3, h4, h5⟩ := run_append_lies (P := Try.prog) (w := W) 36 36 base 22 i _ 1 24 Try.underlying36 hi hz hs hbt (by rfl) (by decide) u ts.length vs ho.1 ⟨g, 0, none⟩ 1 1 [y] rfl
    (fun q v hq => by
      match q, hq with
      | 0, hq =>
        simp at hq
        subst hq
        exact hc) (fun v hv => by
      simp at hv
      subst hv
      exact hyo) (by omega) (by unfold maxLen; omega) (by omega) hb W.heap.size rfl
  refine ⟨g', cap, W', hrun, h3, h5, fun L' hL hN => ?_⟩
  have st : Stp1 L L' k W W' := ⟨⟨_, h3, fun r e _ => .inl (ho.2 r e)⟩, hL⟩
  have hvl : vs.length = ts.length := by have := ho.1.1; omega
  refine ⟨vs ++ [y], ⟨by simpa using h2, fun q hq => ?_⟩, fun q a b => ?_⟩
  · have e : g' = q := by simpa [Value.ownBlock] using hq
    subst e
    rcases h4 with h4 | h4
    · rw [hL _ (ho.1.lt _ h4).2]
      exact ho.2 _ h4
    · exact hN _ (by omega)
  · by_cases e : q < vs.length
    · rw [List.getElem_append_left e, List.getElem_append_left (by omega)]
      exact (hr q e (by omega)).kept st (hτ q (by omega))
    · have e2 : q = vs.length := by simp at a; omega
      subst e2
      rw [List.getElem_append_right (Nat.le_refl _), List.getElem_append_right (by omega)]
      simp only [Nat.sub_self, hvl, List.getElem_cons_zero]
      exact hx.kept st (hτ _ (Nat.le_refl _))
/-- A made table. -/
theorem TTab.of_mat {L : Nat → Nat} {s base r c : Nat} {W W' : World} {Z : Nat → Nat → Int} (h : Mat W W' r c Z) (hb : base ≤ W.heap.size) (hr : r ≤ 1048576) (hc : c ≤ 1048576) (hL : ∀ b, W.heap.size ≤ b → L b = s) : TTab L s base W' (.slice (some ⟨W.heap.size, 0, none⟩) r r) (tableOf r c Z) := by
  have hrow : ∀ {g n : Nat} {t : TypeId} {f : Nat → Value} {xs : List Value}, W'.rowIs g t n f → base ≤ g → n ≤ 1048576 → xs.length = n → (∀ i (h : i < xs.length), f i = xs[i]) → W'.ownsRow base t 1 (.slice (some ⟨g, 0, none⟩) n n) n xs := fun {g n t f xs} hw hg hn hx hf => by
    obtain ⟨cs, hh, hsz, hget⟩ := hw
    refine ⟨by omega, Or.inr ⟨g, n, cs, rfl, hg, hh, Nat.le_refl _, by unfold maxLen; omega, by omega, ?_⟩⟩
    refine List.ext_getElem? (fun q => ?_)
    by_cases hq : q < n
    · rw [List.getElem?_take, if_pos (by omega), Array.getElem?_toList, hget q hq, List.getElem?_eq_getElem (by omega), hf q (by omega)]
    · rw [List.getElem?_eq_none (by simp; omega), List.getElem?_eq_none (by omega)]
  refine ⟨(List.range r).map (fun j => .slice (some ⟨W.heap.size + 1 + j, 0, none⟩) c c), ⟨?_, fun q h1 h2 => ?_, fun i j hi hj hij g hg => ?_⟩, fun g hg => ?_, fun q hq g hg => ?_⟩
  · have e : (tableOf r c Z).length = r := by simp [tableOf]
    rw [e]
    exact hrow h.top hb hr (by simp) (fun i hi => by simp)
  · have hq : q < r := by simpa using h1
    simp only [List.getElem_map, List.getElem_range, tableOf]
    unfold Gb
    have e : ((List.range c).map fun i => Z q i).length = c := by simp
    rw [e]
    exact hrow (h.rows q hq) (by omega) hc (by simp) (fun i hi => by simp)
  · simp only [List.getElem_map, List.getElem_range, Value.ownBlock] at hg ⊢
    injection hg with hg
    intro e
    injection e with e
    omega
  · have e : W.heap.size = g := by simpa [Value.ownBlock] using hg
    exact hL g (by omega)
  · simp only [List.getElem_map, List.getElem_range, Value.ownBlock] at hg
    injection hg with hg
    exact hL g (by omega)
end Go.Proofs.Ytlopenephgabhaa


namespace Go.Proofs.Ytlopenephgabhaa
open Go.RowKit

structure Fl (L : Nat → Nat) (base : Nat) (W : World) (D A V n : Nat) (dvs avs vvs : List Value) (d2 : List (List Int)) (a2 v2 : List (List (List (List Int)))) : Prop where
  d0 : TR L 1 base 35 W (.slice (some ⟨D, 0, none⟩) n n) n dvs
  a0 : TR L 2 base 36 W (.slice (some ⟨A, 0, none⟩) n n) n avs
  v0 : TR L 3 base 36 W (.slice (some ⟨V, 0, none⟩) n n) n vvs
  ld : d2.length = n
  la : a2.length = n
  lv : v2.length = n
  dr : ∀ i (h1 : i < dvs.length) (h2 : i < d2.length), TI L (4 + 3 * i) base W dvs[i] d2[i]
  ar : ∀ i (h1 : i < avs.length) (h2 : i < a2.length), TTabs L (5 + 3 * i) (fun x => 100 + 200 * i + x) base W avs[i] a2[i]
  vr : ∀ i (h1 : i < vvs.length) (h2 : i < v2.length), TTabs L (6 + 3 * i) (fun x => 200 + 200 * i + x) base W vvs[i] v2[i]
  lo : ∀ b, b < base → L b = 0
section
variable {L L' : Nat → Nat} {base : Nat} {W W' : World} {D A V n : Nat} {dvs avs vvs : List Value} {d2 : List (List Int)} {a2 v2 : List (List (List (List Int)))}
theorem Fl.lens (h : Fl L base W D A V n dvs avs vvs d2 a2 v2) : dvs.length = n ∧ avs.length = n ∧ vvs.length = n := ⟨by have := h.d0.1.1; omega, by have := h.a0.1.1; omega, by have := h.v0.1.1; omega⟩
theorem Fl.base_le (h : Fl L base W D A V n dvs avs vvs d2 a2 v2) : base ≤ W.heap.size := by have := h.d0.1.lt D rfl; omega
/-- A step beside it. -/
theorem Fl.kept (h : Fl L base W D A V n dvs avs vvs d2 a2 v2) (st : Stp1 L L' 0 W W') : Fl L' base W' D A V n dvs avs vvs d2 a2 v2 :=
  ⟨h.d0.kept st (by omega), h.a0.kept st (by omega), h.v0.kept st (by omega), h.ld, h.la, h.lv, fun i h1 h2 => (h.dr i h1 h2).kept st (by omega),
    fun i h1 h2 => (h.ar i h1 h2).kept st (by omega) (fun x _ => by show 100 + 200 * i + x ≠ 0; omega), fun i h1 h2 => (h.vr i h1 h2).kept st (by omega) (fun x _ => by show 200 + 200 * i + x ≠ 0; omega), fun b hb => by rw [st.old b (by have := h.base_le; omega)]; exact h.lo b hb⟩
theorem Fl.growD (h : Fl L base W D A V n dvs avs vvs d2 a2 v2) {i : Nat} (hi : i < n) (hn : n ≤ 20) {r : Value} {y : List Int} (st : Stp1 L L' (4 + 3 * i) W W') (hr : TI L' (4 + 3 * i) base W' r y) :
    Fl L' base (W'.setCell ⟨D, i, none⟩ r) D A V n (dvs.set i r) avs vvs (d2.set i y) a2 v2 := by
  have hD := h.d0.kept st (by omega)
  have s2 : Stp1 L' L' 1 W' (W'.setCell ⟨D, i, none⟩ r) := Stp1.of_set (hD.2 D rfl) W' i r
  refine ⟨hD.set hi r, (h.a0.kept st (by omega)).kept s2 (by omega), (h.v0.kept st (by omega)).kept s2 (by omega), by simp [h.ld], h.la, h.lv, fun q h1 h2 => ?_, fun q h1 h2 => ?_, fun q h1 h2 => ?_, fun b hb => by rw [st.old b (by have := h.base_le; omega)]; exact h.lo b hb⟩
  · rw [List.getElem_set, List.getElem_set]
    by_cases e : i = q
    · subst e
      rw [if_pos rfl, if_pos rfl]
      exact hr.kept s2 (by omega)
    · rw [if_neg e, if_neg e]
      exact ((h.dr q (by simpa using h1) (by simpa using h2)).kept st (by omega)).kept s2 (by omega)
  · exact ((h.ar q h1 h2).kept st (by omega) (fun x _ => by show 100 + 200 * q + x ≠ 4 + 3 * i; omega)).kept s2 (by omega) (fun x _ => by show 100 + 200 * q + x ≠ 1; omega)
  · exact ((h.vr q h1 h2).kept st (by omega) (fun x _ => by show 200 + 200 * q + x ≠ 4 + 3 * i; omega)).kept s2 (by omega) (fun x _ => by show 200 + 200 * q + x ≠ 1; omega)
theorem Fl.growA (h : Fl L base W D A V n dvs avs vvs d2 a2 v2) {i : Nat} (hi : i < n) (hn : n ≤ 20) {r : Value} {y : List (List (List Int))} (st : Stp1 L L' (5 + 3 * i) W W') (hr : TTabs L' (5 + 3 * i) (fun x => 100 + 200 * i + x) base W' r y) :
    Fl L' base (W'.setCell ⟨A, i, none⟩ r) D A V n dvs (avs.set i r) vvs d2 (a2.set i y) v2 := by
  have hA := h.a0.kept st (by omega)
  have s2 : Stp1 L' L' 2 W' (W'.setCell ⟨A, i, none⟩ r) := Stp1.of_set (hA.2 A rfl) W' i r
  refine ⟨(h.d0.kept st (by omega)).kept s2 (by omega), hA.set hi r, (h.v0.kept st (by omega)).kept s2 (by omega), h.ld, by simp [h.la], h.lv, fun q h1 h2 => ?_, fun q h1 h2 => ?_, fun q h1 h2 => ?_, fun b hb => by rw [st.old b (by have := h.base_le; omega)]; exact h.lo b hb⟩
  · exact ((h.dr q h1 h2).kept st (by omega)).kept s2 (by omega)
  · rw [List.getElem_set, List.getElem_set]
    by_cases e : i = q
    · subst e
      rw [if_pos rfl, if_pos rfl]
      exact hr.kept s2 (by omega) (fun x _ => by show 100 + 200 * i + x ≠ 2; omega)
    · rw [if_neg e, if_neg e]
      exact ((h.ar q (by simpa using h1) (by simpa using h2)).kept st (by omega) (fun x _ => by show 100 + 200 * q + x ≠ 5 + 3 * i; omega)).kept s2 (by omega) (fun x _ => by show 100 + 200 * q + x ≠ 2; omega)
  · exact ((h.vr q h1 h2).kept st (by omega) (fun x _ => by show 200 + 200 * q + x ≠ 5 + 3 * i; omega)).kept s2 (by omega) (fun x _ => by show 200 + 200 * q + x ≠ 2; omega)
theorem Fl.growV (h : Fl L base W D A V n dvs avs vvs d2 a2 v2) {i : Nat} (hi : i < n) (hn : n ≤ 20) {r : Value} {y : List (List (List Int))} (st : Stp1 L L' (6 + 3 * i) W W') (hr : TTabs L' (6 + 3 * i) (fun x => 200 + 200 * i + x) base W' r y) :
    Fl L' base (W'.setCell ⟨V, i, none⟩ r) D A V n dvs avs (vvs.set i r) d2 a2 (v2.set i y) := by
  have hV := h.v0.kept st (by omega)
  have s2 : Stp1 L' L' 3 W' (W'.setCell ⟨V, i, none⟩ r) := Stp1.of_set (hV.2 V rfl) W' i r
  refine ⟨(h.d0.kept st (by omega)).kept s2 (by omega), (h.a0.kept st (by omega)).kept s2 (by omega), hV.set hi r, h.ld, h.la, by simp [h.lv], fun q h1 h2 => ?_, fun q h1 h2 => ?_, fun q h1 h2 => ?_, fun b hb => by rw [st.old b (by have := h.base_le; omega)]; exact h.lo b hb⟩
  · exact ((h.dr q h1 h2).kept st (by omega)).kept s2 (by omega)
  · exact ((h.ar q h1 h2).kept st (by omega) (fun x _ => by show 100 + 200 * q + x ≠ 6 + 3 * i; omega)).kept s2 (by omega) (fun x _ => by show 100 + 200 * q + x ≠ 3; omega)
  · rw [List.getElem_set, List.getElem_set]
    by_cases e : i = q
    · subst e
      rw [if_pos rfl, if_pos rfl]
      exact hr.kept s2 (by omega) (fun x _ => by show 200 + 200 * i + x ≠ 3; omega)
    · rw [if_neg e, if_neg e]
      exact ((h.vr q (by simpa using h1) (by simpa using h2)).kept st (by omega) (fun x _ => by show 200 + 200 * q + x ≠ 6 + 3 * i; omega)).kept s2 (by omega) (fun x _ => by show 200 + 200 * q + x ≠ 3; omega)
end
/-- What a call leaves: all blocks of the tag 0, and all that is no cells. -/
structure Frm (L L' : Nat → Nat) (W W' : World) : Prop where
  os : W'.os = W.os
  tape : W'.tape = W.tape
  output : W'.output = W.output
  size : W.heap.size ≤ W'.heap.size
  blk : ∀ b, b < W.heap.size → L b = 0 → W'.heap[b]? = W.heap[b]?
  old : ∀ b, b < W.heap.size → L' b = L b
  ko : KeepsOthers W W'
section
variable {L L' L'' : Nat → Nat} {W W' W'' : World}
theorem Frm.trans (h : Frm L L' W W') (k : Frm L' L'' W' W'') : Frm L L'' W W'' :=
  ⟨k.os.trans h.os, k.tape.trans h.tape, k.output.trans h.output, Nat.le_trans h.size k.size, fun b hb h0 => (k.blk b (Nat.lt_of_lt_of_le hb h.size) (by rw [h.old b hb]; exact h0)).trans (h.blk b hb h0), fun b hb => (k.old b (Nat.lt_of_lt_of_le hb h.size)).trans (h.old b hb), h.ko.trans k.ko⟩
theorem Frm.of_set {D k : Nat} (hL : L D = k) (hk : k ≠ 0) (i : Nat) (r : Value) : Frm L L W (W.setCell ⟨D, i, none⟩ r) :=
  have hg := grown_setCell W D i r
  ⟨hg.os, hg.tape, hg.output, hg.size, fun b hb h0 => hg.block b hb (fun e => by cases e; omega), fun _ _ => rfl, KeepsOthers.setCell _ _ _⟩
theorem Frm.grow {k base : Nat} {e : TypeId} {u : Value} {n : Nat} {xs : List Value} (h : TR L k base e W u n xs) (hk : k ≠ 0) (hg : W.grownBy W' u.ownBlock) (ho : ∀ b, b < W.heap.size → L' b = L b) : Frm L L' W W' :=
  ⟨hg.os, hg.tape, hg.output, hg.size, fun b hb h0 => hg.block b hb (fun e => by have := h.2 b e.symm; omega), ho, ⟨hg.size, fun q o hq hc => by
    rw [hg.block q (Array.getElem?_eq_some_iff.1 hq).1 (fun e => by
      rcases h.1.2 with ⟨h0, _⟩ | ⟨g', c', cur, hu, _, hh, _⟩
      · rw [h0] at e; simp [Value.ownBlock] at e
      · rw [hu] at e
        simp [Value.ownBlock] at e
        subst e
        rw [hh] at hq
        cases hq
        cases hc)]
    exact hq⟩⟩
theorem TI.tr {k base : Nat} {u : Value} {xs : List Int} (h : TI L k base W u xs) : TR L k base 2 W u xs.length (xs.map (Value.int .i64)) := ⟨h.1, h.2⟩
theorem Frm.below {base : Nat} {w : World} (h : Frm L L' W W') (hb : Below base w W) (hw : base ≤ w.heap.size) (hlo : ∀ b, b < base → L b = 0) : Below base w W' :=
  ⟨h.os.trans hb.os, h.tape.trans hb.tape, h.output.trans hb.output, Nat.le_trans hb.size h.size, fun b hbb => (h.blk b (by have := hb.size; omega) (hlo b hbb)).trans (hb.block b hbb)⟩
end
end Go.Proofs.Ytlopenephgabhaa


namespace Go.Proofs.Ytlopenephgabhaa
open Go.RowKit Go.Shelf
attribute [local go_sem] Oper.semAt_some

/-- The numbers of the rows of some cells. -/
def tnum (ds : List (List Int)) (ac dn : List (List (List (List Int)))) (q : Nat) (fs : List (Nat × Nat)) : List Int := fs.flatMap fun f => (List.range (cdim ds f)).flatMap fun r => trow ds ac dn q f r
theorem flat_le {α β : Type} (f : α → List β) (m : Nat) : ∀ L : List α, (∀ c ∈ L, (f c).length ≤ m) → (L.flatMap f).length ≤ m * L.length
  | [], _ => by simp
  | c :: L, h => by
    rw [List.flatMap_cons, List.length_append, List.length_cons, Nat.mul_succ]
    have h1 := h c (by simp)
    have h2 := flat_le f m L (fun d hd => h d (by simp [hd]))
    omega
theorem cells_le {ds : List (List Int)} (hok : DclOk ds) : (cellsTo ds ds.length).length ≤ 16 := by
  have h := flat_le (rowCells ds) 4 (List.range ds.length) (fun i hi => by
    have hi := List.mem_range.1 hi
    unfold rowCells
    rw [List.length_map, List.length_range, getD_of_lt _ hi, (hok.col _ (List.getElem_mem hi)).1]
    exact hok.h1)
  rw [List.length_range] at h
  have := hok.len1
  unfold cellsTo
  omega
theorem dgn_le {ds : List (List Int)} (hok : DclOk ds) (n : Nat) : (dgn ds n).length ≤ 16 := Nat.le_trans (List.length_filter_le _ _) (cells_le hok)
theorem prt_le {p : Int} {ds : List (List Int)} {ac dn : List (List (List (List Int)))} (hp : IsP p) (hok : DclOk ds) (ht : TbsOk p ds ac dn) {f c : Nat × Nat} (hf : f ∈ cellsTo ds ds.length) (hc : c ∈ cellsTo ds ds.length) {r : Nat} (hr : r < cdim ds f) : (prt ds ac dn f r c).length ≤ 4 := by
  have h1 := (prt_ok hp hok ht hf hc hr).1
  have h2 := (cdim_cast hok hc).2
  omega
theorem pre_le {p : Int} {ds : List (List Int)} {ac dn : List (List (List (List Int)))} (hp : IsP p) (hok : DclOk ds) (ht : TbsOk p ds ac dn) {f : Nat × Nat} (hf : f ∈ cellsTo ds ds.length) {r : Nat} (hr : r < cdim ds f) {n : Nat} (pre : List (DgIn ds n)) : ((pre.map (·.1)).flatMap (prt ds ac dn f r)).length ≤ 4 * pre.length := by
  have h := flat_le (prt ds ac dn f r) 4 (pre.map (·.1)) (fun c hc => by
    obtain ⟨x, _, rfl⟩ := List.mem_map.1 hc
    exact prt_le hp hok ht hf (mem_cells.2 (mem_dgn.1 x.2).1) hr)
  rwa [List.length_map] at h
theorem trow_le {p : Int} {ds : List (List Int)} {ac dn : List (List (List (List Int)))} (hp : IsP p) (hok : DclOk ds) (ht : TbsOk p ds ac dn) {f : Nat × Nat} (hf : f ∈ cellsTo ds ds.length) {r : Nat} (hr : r < cdim ds f) (q : Nat) : (trow ds ac dn q f r).length ≤ 64 := by
  have h := flat_le (prt ds ac dn f r) 4 (dgn ds q) (fun c hc => prt_le hp hok ht hf (mem_cells.2 (mem_dgn.1 hc).1) hr)
  have := dgn_le hok q
  unfold trow
  omega
theorem rows_le {p : Int} {ds : List (List Int)} {ac dn : List (List (List (List Int)))} (hp : IsP p) (hok : DclOk ds) (ht : TbsOk p ds ac dn) {f : Nat × Nat} (hf : f ∈ cellsTo ds ds.length) (q : Nat) {k : Nat} (hk : k ≤ cdim ds f) : ((List.range k).flatMap fun r => trow ds ac dn q f r).length ≤ 64 * k := by
  have h := flat_le (fun r => trow ds ac dn q f r) 64 (List.range k) (fun r hr => trow_le hp hok ht hf (by have := List.mem_range.1 hr; omega) q)
  rwa [List.length_range] at h
theorem tnum_le {p : Int} {ds : List (List Int)} {ac dn : List (List (List (List Int)))} (hp : IsP p) (hok : DclOk ds) (ht : TbsOk p ds ac dn) (q : Nat) {n : Nat} (pre : List (DgIn ds n)) : (tnum ds ac dn q (pre.map (·.1))).length ≤ 256 * pre.length := by
  have h := flat_le (fun f => (List.range (cdim ds f)).flatMap fun r => trow ds ac dn q f r) 256 (pre.map (·.1)) (fun f hf => by
    obtain ⟨x, _, rfl⟩ := List.mem_map.1 hf
    have hc := mem_cells.2 (mem_dgn.1 x.2).1
    have h1 := rows_le hp hok ht hc q (Nat.le_refl _)
    have h2 := (cdim_cast hok hc).2
    omega)
  rwa [List.length_map] at h
theorem tnum_snoc (ds : List (List Int)) (ac dn : List (List (List (List Int)))) (q : Nat) (fs : List (Nat × Nat)) (f : Nat × Nat) : tnum ds ac dn q (fs ++ [f]) = tnum ds ac dn q fs ++ (List.range (cdim ds f)).flatMap fun r => trow ds ac dn q f r := by
  simp [tnum]

set_option maxRecDepth 100000 in
set_option maxHeartbeats 8000000 in
theorem totalNumbers_any (p : Int) (hp : IsP p) (dv av vv : Value) (ds : List (List Int)) (ac dn : List (List (List (List Int)))) (q : Nat) (hq : q + 1 ≤ 1000) (w : World) (h : Dx 0 w dv av vv ds ac dn) (hok : DclOk ds) (ht : TbsOk p ds ac dn) :
    Calls Try.prog 100 #[.agg #[.int .i64 p, dv, av, vv], .int .i64 ((q + 1 : Nat) : Int)] w fun e w' => ∃ v, e = .returned v ∧ Gb w.heap.size w' v (tnum ds ac dn q (dgn ds (q + 1))) ∧ Below w.heap.size w w' := by
  have HP := Lib.hid hp
  have HOK := Lib.hid hok
  have HT := Lib.hid ht
  have HX := Lib.hid h
  obtain ⟨n, hn⟩ : ∃ n, n = q + 1 := ⟨_, rfl⟩
  rw [← hn] at hq ⊢
  have HN := Lib.hid hn
  clear hp hok ht h hn
  refine (callsIn_wide (n := 8)).1 ?_
  refine callsIn_of_wp_marks Try.func100 rfl trivial ?_
  simp only [Try.ntmps100, List.size_toArray, List.length_cons, List.length_nil, Nat.reduceAdd, Nat.reduceSub, Array.replicate_succ, Array.replicate_zero, List.push_toArray, List.append_toArray, List.nil_append, List.cons_append]
  gi_wp2_with fail
  refine ⟨trivial, (callsIn_wide.2 (diagonalOf_any p n dv av vv _)).mono ?_⟩
  rintro e w2 ⟨rfl, rfl⟩
  dsimp only
  gi_wp2
  have hsA : (((w.alloc (.cells #[.int .i64 p, dv, av, vv] 28)).alloc (.cells #[.int .i64 (n : Int)] 2)).alloc (.cells #[.slice none 0 0] 35)).heap.size = w.heap.size + 3 := by simp
  have hBA : Below w.heap.size w (((w.alloc (.cells #[.int .i64 p, dv, av, vv] 28)).alloc (.cells #[.int .i64 (n : Int)] 2)).alloc (.cells #[.slice none 0 0] 35)) := (((Below.refl _ _).alloc (Nat.le_refl _) _).alloc (by simp) _).alloc (by simp; omega) _
  have hx0 := ((DBx.start (p := p) 28 HX.out).next ((Below.refl _ _).alloc (Nat.le_refl _) (.cells #[.int .i64 (n : Int)] 2))).next ((Below.refl _ _).alloc (Nat.le_refl _) (.cells #[.slice none 0 0] 35))
  have hn0 := (Go.Boxed.new (w.alloc (.cells #[.int .i64 p, dv, av, vv] 28)) 2 (.int .i64 (n : Int))).alloc (.cells #[.slice none 0 0] 35)
  have hz0 := Go.Boxed.new ((w.alloc (.cells #[.int .i64 p, dv, av, vv] 28)).alloc (.cells #[.int .i64 (n : Int)] 2)) 35 (.slice none 0 0)
  rw [World.size_alloc] at hn0
  rw [World.size_alloc, World.size_alloc] at hz0
  obtain ⟨WA, hWA⟩ : ∃ WA, WA = ((w.alloc (.cells #[.int .i64 p, dv, av, vv] 28)).alloc (.cells #[.int .i64 (n : Int)] 2)).alloc (.cells #[.slice none 0 0] 35) := ⟨_, rfl⟩
  rw [← hWA] at hsA hBA hx0 hn0 hz0 ⊢
  clear hWA
  have hs1 : ((WA.alloc (.cells #[.int .i64 p, dv, av, vv] 28)).alloc (.cells #[.int .i64 (n : Int)] 2)).heap.size = WA.heap.size + 2 := by simp
  have hB1 : Below WA.heap.size WA ((WA.alloc (.cells #[.int .i64 p, dv, av, vv] 28)).alloc (.cells #[.int .i64 (n : Int)] 2)) := ((Below.refl _ _).alloc (Nat.le_refl _) _).alloc (by simp) _
  have hy1 := (DBx.start (p := p) 28 (HX.out.below hBA)).next ((Below.refl _ _).alloc (Nat.le_refl _) (.cells #[.int .i64 (n : Int)] 2))
  have hm1 := Go.Boxed.new (WA.alloc (.cells #[.int .i64 p, dv, av, vv] 28)) 2 (.int .i64 (n : Int))
  rw [World.size_alloc] at hm1
  have hx1 := hx0.next hB1
  have hn1 : Go.Boxed ((WA.alloc (.cells #[.int .i64 p, dv, av, vv] 28)).alloc (.cells #[.int .i64 (n : Int)] 2)) (w.heap.size + 1) 2 (.int .i64 (n : Int)) := (hB1.block _ hn0.lt).trans hn0
  have hz1 : Go.Boxed ((WA.alloc (.cells #[.int .i64 p, dv, av, vv] 28)).alloc (.cells #[.int .i64 (n : Int)] 2)) (w.heap.size + 1 + 1) 35 (.slice none 0 0) := (hB1.block _ hz0.lt).trans hz0
  obtain ⟨W1, hW1⟩ : ∃ W1, W1 = (WA.alloc (.cells #[.int .i64 p, dv, av, vv] 28)).alloc (.cells #[.int .i64 (n : Int)] 2) := ⟨_, rfl⟩
  rw [← hW1] at hs1 hB1 hy1 hm1 hx1 hn1 hz1 ⊢
  clear hW1 hx0 hn0 hz0
  have hBW := hBA.trans (hB1.mono hBA.size)
  have HB1 := Lib.hid hBW
  have hdk := kd_dgk (n0 := w.heap.size) (bn := WA.heap.size + 1) (n := (n : Int)) (w := W1) rfl HX.out.dims hBW (by omega)
  have HDK := Lib.hid hdk
  have HS1 := Lib.hid hs1
  have HSA := Lib.hid hsA
  have HT1 : Hid (Tn (w.heap.size + 1 + 1) (w.heap.size + 1 + 1) W1 (.slice none 0 0) []) := Lib.hid ⟨hz1, by simp [Gb, World.ownsRow]⟩
  have HCTX : Hid (∀ W v, Stp (w.heap.size + 1 + 1) W1 W (.slice none 0 0) v → DBx w W w.heap.size p dv av vv ds ac dn ∧ Go.Boxed W (w.heap.size + 1) 2 (.int .i64 (n : Int))) := Lib.hid (fun W v hs => by
    have hk : ∀ b, b < W1.heap.size → b ≠ w.heap.size + 1 + 1 → W.heap[b]? = W1.heap[b]? := fun b hb hne => hs.block b hb hne (by simp [Value.ownBlock])
    have hbw : Below w.heap.size w W := hBW.trans (hs.low HT1.out.row (by omega) (by omega) hBW.size)
    have hc : ∀ o, W.cell? ⟨w.heap.size, o, none⟩ = W1.cell? ⟨w.heap.size, o, none⟩ := fun o => World.cell?_of_block (hk w.heap.size hx1.lt (by omega))
    exact ⟨⟨hbw, (hc 0).trans hx1.c0, (hc 1).trans hx1.c1, (hc 2).trans hx1.c2, (hc 3).trans hx1.c3, Nat.lt_of_lt_of_le hx1.lt hs.size, HX.out.below hbw⟩, (hk _ hn1.lt (by omega)).trans hn1⟩)
  have hl1 : ds.length ≤ 1000 := by have := HOK.out.len1; omega
  have hl2 : ∀ r ∈ ds, r.length ≤ 1000 := fun r hr => by have := (HOK.out.col r hr).1; have := HOK.out.h1; omega
  have hseq := diag_seq 7 (by decide) p n hq WA.heap.size (WA.heap.size + 1) dv av vv ds hl1 hl2 (Kd w.heap.size (WA.heap.size + 1)) W1 hdk (by omega) hy1.c0 hy1.c1 hy1.c2 hy1.c3 hm1
  clear hy1 hm1 hx1 hn1 hz1 hBA hB1 hBW hdk hs1 hsA
  refine wpIn_rangeO_cell rfl (by decide : 1 ≤ 8) (gf := 131) (lb := #[.pointer (some ⟨WA.heap.size, 0, none⟩), .pointer (some ⟨WA.heap.size + 1, 0, none⟩)]) rfl trivial (enters_of Try.func131 (by kernel_rfl) rfl)
    hseq (fun h k => HDK.out.trans h k) (fun A l o o' hl ho hc => HDK.out.put A l o o' hl ho hc) (Below.refl _ _) (fun _ => rfl)
    (fun pre W => ∃ v, Tn (w.heap.size + 1 + 1) (w.heap.size + 1 + 1) W v (tnum ds ac dn q (pre.map (·.1))) ∧ Stp (w.heap.size + 1 + 1) W1 W (.slice none 0 0) v)
    (fun _ _ _ => False) (tn_own (fun pre : List (DgIn ds n) => tnum ds ac dn q (pre.map (·.1)))) (fun _ _ _ _ _ h _ _ => h)
    ⟨_, HT1.out, Stp.refl _ _ _⟩
    (fun x => #[.int .i64 (x.1.1 : Int), .int .i64 (x.1.2 : Int)]) 6 101 W1.heap.size
    ?assign ?body ?done ?stop
  case assign =>
    rintro l pre x A K ⟨v, htn, hst⟩ hKK
    simp only [dgV] at hKK ⊢
    have hsz := hst.size
    gi_wp2
    have hba : Below A.heap.size A (A.alloc (.cells #[.int .i64 (x.1.1 : Int), .int .i64 (x.1.2 : Int)] 101)) := (Below.refl _ _).alloc (Nat.le_refl _) _
    have hk := hKK A.heap.size _ hsz (World.alloc_heap_new A _) ((KeepsOthers.alloc _ _).from _) (HDK.out.alloc A _ hsz) ⟨v, htn.below hba, hst.trans (Stp.of_below v hba)⟩
    simp at hk
    refine Eq.mp ?_ hk
    congr 1
    all_goals (try congr 1)
  case body =>
    rintro l pre x Bx A hl ⟨r, hr⟩ ⟨v, htn, hst⟩ hD hX hlt
    obtain ⟨⟨i, j⟩, hxm⟩ := x
    dsimp only at hX
    have hfc : (i, j) ∈ cellsTo ds ds.length := mem_cells.2 (mem_dgn.1 hxm).1
    have HFC := Lib.hid hfc
    have hmf := mem_cells.1 hfc
    dsimp only at hmf
    obtain ⟨hxA, _⟩ := HCTX.out A v hst
    obtain ⟨d, hd⟩ : ∃ d, d = cdim ds (i, j) := ⟨_, rfl⟩
    have hd4 : d ≤ 4 := by rw [hd]; exact (cdim_cast HOK.out hfc).2
    have HD := Lib.hid hd
    have HDC : Hid (Calls Try.prog 95 #[.agg #[.int .i64 p, dv, av, vv], .agg #[.int .i64 (i : Int), .int .i64 (j : Int)]] A fun e w' => e = .returned (.int .i64 (d : Int)) ∧ Below A.heap.size A w') := Lib.hid (by
      rw [hd, (cdim_cast HOK.out hfc).1]
      exact dimOfCell_any p i j _ _ _ ds A hxA.dx.dims ⟨by have := HOK.out.len1; omega, fun r hr => by have := hl2 r hr; show r.length ≤ _; omega⟩ (by omega) (by omega) (by omega) (fun _ => by simp only [Int.toNat_natCast]; exact Int.ofNat_lt.2 hmf.2))
    have x0 : A.cell? ⟨Bx, 0, none⟩ = some (.int .i64 (i : Int)) := by simp [World.cell?, hX]
    have x1 : A.cell? ⟨Bx, 1, none⟩ = some (.int .i64 (j : Int)) := by simp [World.cell?, hX]
    have c0 := hxA.c0
    have c1 := hxA.c1
    have c2 := hxA.c2
    have c3 := hxA.c3
    have HTN := Lib.hid htn
    have HST := Lib.hid hst
    have HXB := Lib.hid hX
    have HR := Lib.hid hr
    clear hd htn hst hX hr hxA hfc
    gi_wp2_with fail
    refine ⟨trivial, (CallsIn.inRound l (callsIn_wide.2 HDC.out)).mono ?_⟩
    rintro e A2 ⟨rfl, hb2⟩
    clear HDC c0 c1 c2 c3 x0 x1
    have HB2 := Lib.hid hb2
    clear hb2
    gi_wp2
    gi_loopw [16] (fun i' wr => ∃ k : Nat, k ≤ d ∧ i' = .int .i64 k ∧ ∃ v', Hid (Tn (w.heap.size + 1 + 1) (w.heap.size + 1 + 1) wr v' (tnum ds ac dn q (pre.map (·.1)) ++ (List.range k).flatMap fun r => trow ds ac dn q (i, j) r)) ∧ Hid (Stp (w.heap.size + 1 + 1) A wr v v')) (fun i' _ => d - (intOf i').toNat)
    case atStart => exact ⟨0, Nat.zero_le _, rfl, v, Lib.hid (by simpa using HTN.out.below HB2.out), Lib.hid (Stp.of_below v HB2.out)⟩
    case round =>
      obtain ⟨k, hk, rfl, v2, HTN2, HST2⟩ := hrel
      by_cases hlk : k < d
      · have hnq : IntKind.i64.wrap ((n : Int) - 1) = (q : Int) := by rw [IntWalk.i64_in _ (by omega)]; have := HN.out; omega
        obtain ⟨hxr, hnr⟩ := HCTX.out wr v2 (HST.out.trans HST2.out)
        have c0 := hxr.c0
        have c1 := hxr.c1
        have c2 := hxr.c2
        have c3 := hxr.c3
        have nb := hnr.cell
        have hxl := hxr.lt
        have hnl := hnr.lt
        have HXR := Lib.hid hxr
        have xb : wr.heap[Bx]? = some (.cells #[.int .i64 (i : Int), .int .i64 (j : Int)] 101 (0, 0)) := (HST2.out.block Bx (Array.getElem?_eq_some_iff.1 HXB.out).1 (fun e => by
          have h1 := HTN.out.box
          rw [← e] at h1
          have := (show A.heap[Bx]? = _ from h1).symm.trans HXB.out
          simp at this) (off_type HTN.out.row HXB.out (by decide))).trans HXB.out
        have HXR2 := Lib.hid xb
        clear hxr hnr xb
        gi_wp2_with fail
        refine ⟨trivial, (CallsIn.inRound l (callsIn_wide.2 (diagonalOf_any p q dv av vv _))).mono ?_⟩
        rintro e w3 ⟨rfl, rfl⟩
        dsimp only
        gi_wp2
        have hsR : (wr.alloc (.cells #[.int .i64 (k : Int)] 2)).heap.size = wr.heap.size + 1 := by simp
        have hBR : Below wr.heap.size wr (wr.alloc (.cells #[.int .i64 (k : Int)] 2)) := (Below.refl _ _).alloc (Nat.le_refl _) _
        have hrR := Go.Boxed.new wr 2 (.int .i64 (k : Int))
        obtain ⟨WR, hWR⟩ : ∃ WR, WR = wr.alloc (.cells #[.int .i64 (k : Int)] 2) := ⟨_, rfl⟩
        rw [← hWR] at hsR hBR hrR ⊢
        clear hWR
        have hs3 : ((WR.alloc (.cells #[.int .i64 p, dv, av, vv] 28)).alloc (.cells #[.int .i64 (q : Int)] 2)).heap.size = WR.heap.size + 2 := by simp
        have hB3 : Below WR.heap.size WR ((WR.alloc (.cells #[.int .i64 p, dv, av, vv] 28)).alloc (.cells #[.int .i64 (q : Int)] 2)) := ((Below.refl _ _).alloc (Nat.le_refl _) _).alloc (by simp) _
        have hy3 := (DBx.start (p := p) 28 (HXR.out.dx.below hBR)).next ((Below.refl _ _).alloc (Nat.le_refl _) (.cells #[.int .i64 (q : Int)] 2))
        have hm3 := Go.Boxed.new (WR.alloc (.cells #[.int .i64 p, dv, av, vv] 28)) 2 (.int .i64 (q : Int))
        rw [World.size_alloc] at hm3
        obtain ⟨A3, hA3⟩ : ∃ A3, A3 = (WR.alloc (.cells #[.int .i64 p, dv, av, vv] 28)).alloc (.cells #[.int .i64 (q : Int)] 2) := ⟨_, rfl⟩
        rw [← hA3] at hs3 hB3 hy3 hm3 ⊢
        clear hA3
        have hBr3 : Below wr.heap.size wr A3 := hBR.trans (hB3.mono (by omega))
        have HBR3 := Lib.hid hBr3
        have HTN3 := Lib.hid (HTN2.out.below hBr3)
        have HST3 := Lib.hid (HST2.out.trans (Stp.of_below v2 hBr3))
        have HRB3 : Hid (Go.Boxed A3 wr.heap.size 2 (.int .i64 (k : Int))) := Lib.hid ((hB3.block _ hrR.lt).trans hrR)
        have HXB3 : Hid (A3.heap[Bx]? = some (.cells #[.int .i64 (i : Int), .int .i64 (j : Int)] 101 (0, 0))) := Lib.hid ((hBr3.block Bx (Array.getElem?_eq_some_iff.1 HXR2.out).1).trans HXR2.out)
        have hlo : A3.heap[l]? = some (.loop r) := (HST3.out.keeps (B := 0) HTN.out).same l _ (Nat.zero_le _) HR.out rfl
        have hBw3 : Below w.heap.size w A3 := HXR.out.below.trans (hBr3.mono HXR.out.below.size)
        have hdk := kd_dgk (n0 := w.heap.size) (bn := WR.heap.size + 1) (n := (q : Int)) (w := A3) rfl HX.out.dims hBw3 (by omega)
        have HDK3 := Lib.hid hdk
        have HS3 := Lib.hid hs3
        have HSR := Lib.hid hsR
        have hwr : w.heap.size ≤ wr.heap.size := HXR.out.below.size
        have hseq := diag_seq 5 (by decide) p q (by have := HN.out; omega) WR.heap.size (WR.heap.size + 1) dv av vv ds hl1 hl2 (Kd w.heap.size (WR.heap.size + 1)) A3 hdk (by omega) hy3.c0 hy3.c1 hy3.c2 hy3.c3 hm3
        clear hy3 hm3 hrR hBR hB3 hBr3 hBw3 hdk hs3 hsR c0 c1 c2 c3 nb
        refine wpIn_rangeOin_cell (lo := l) (r0 := r) rfl hlo (by decide : 1 ≤ 6) (gf := 131) (lb := #[.pointer (some ⟨WR.heap.size, 0, none⟩), .pointer (some ⟨WR.heap.size + 1, 0, none⟩)]) rfl trivial (enters_of Try.func131 (by kernel_rfl) rfl)
          (hseq.inRound l) (fun h k => HDK3.out.trans h k) (fun A l o o' hl ho hc => HDK3.out.put A l o o' hl ho hc) (Below.refl _ _) (fun _ => rfl)
          (fun pre2 W => ∃ v', Tn (w.heap.size + 1 + 1) (w.heap.size + 1 + 1) W v' ((tnum ds ac dn q (pre.map (·.1)) ++ (List.range k).flatMap fun r => trow ds ac dn q (i, j) r) ++ (pre2.map (·.1)).flatMap (prt ds ac dn (i, j) k)) ∧ Stp (w.heap.size + 1 + 1) A3 W v2 v')
          (fun _ _ _ => False) (tn_own (fun pre2 : List (DgIn ds q) => (tnum ds ac dn q (pre.map (·.1)) ++ (List.range k).flatMap fun r => trow ds ac dn q (i, j) r) ++ (pre2.map (·.1)).flatMap (prt ds ac dn (i, j) k))) (fun _ _ _ _ _ h _ _ => h)
          ⟨v2, by simpa using HTN3.out, Stp.refl _ _ _⟩
          (fun x => #[.int .i64 (x.1.1 : Int), .int .i64 (x.1.2 : Int)]) 8 101 A3.heap.size
          ?assign2 ?body2 ?done2 ?stop2
        case assign2 =>
          rintro l2 pre2 x B K ⟨v3, htn3, hst3⟩ hKK
          simp only [dgV] at hKK ⊢
          have hsz := hst3.size
          gi_wp2
          have hba : Below B.heap.size B (B.alloc (.cells #[.int .i64 (x.1.1 : Int), .int .i64 (x.1.2 : Int)] 101)) := (Below.refl _ _).alloc (Nat.le_refl _) _
          have hk := hKK B.heap.size _ hsz (World.alloc_heap_new B _) ((KeepsOthers.alloc _ _).from _) (HDK3.out.alloc B _ hsz) ⟨v3, htn3.below hba, hst3.trans (Stp.of_below v3 hba)⟩
          simp at hk
          refine Eq.mp ?_ hk
          congr 1
          all_goals (try congr 1)
        case body2 =>
          rintro l2 pre2 y By B hl2' ⟨r2, hr2⟩ ⟨v3, htn3, hst3⟩ hDy hY hlt2
          obtain ⟨⟨a, b⟩, hym⟩ := y
          dsimp only at hY
          have hyc : (a, b) ∈ cellsTo ds ds.length := mem_cells.2 (mem_dgn.1 hym).1
          have hkd : k < cdim ds (i, j) := by rw [← HD.out]; exact hlk
          obtain ⟨hxB, _⟩ := HCTX.out B v3 (HST.out.trans (HST3.out.trans hst3))
          have hrB : Go.Boxed B wr.heap.size 2 (.int .i64 (k : Int)) := (hst3.block _ HRB3.out.lt (by have := HST3.out.size; have h1 := HTN2.out.box.lt; omega) (off_new HTN2.out.row (Nat.le_refl _))).trans HRB3.out
          have hfB : B.heap[Bx]? = some (.cells #[.int .i64 (i : Int), .int .i64 (j : Int)] 101 (0, 0)) := (hst3.block Bx (Array.getElem?_eq_some_iff.1 HXB3.out).1 (fun e => by
            have h1 := HTN3.out.box
            rw [← e] at h1
            have := (show A3.heap[Bx]? = _ from h1).symm.trans HXB3.out
            simp at this) (off_type HTN3.out.row HXB3.out (by decide))).trans HXB3.out
          have HCALL : Hid (∀ X, Below B.heap.size B X → Calls Try.prog 121 #[.agg #[.int .i64 p, dv, av, vv], .agg #[.int .i64 (i : Int), .int .i64 (j : Int)], .int .i64 (k : Int), .agg #[.int .i64 (a : Int), .int .i64 (b : Int)]] X fun e w' => ∃ v, e = .returned v ∧ L1 0 w' v (prt ds ac dn (i, j) k (a, b)) ∧ Below X.heap.size X w') :=
            Lib.hid (fun X hb => partOfRow_any p (i, j) (a, b) k dv av vv ds ac dn X (hxB.dx.below hb) HOK.out HT.out HFC.out hyc hkd)
          have hoff : ∀ {b : Nat}, b < B.heap.size → some b ≠ v3.ownBlock → ∀ X, B.grownBy X v3.ownBlock → ∀ o, X.cell? ⟨b, o, none⟩ = B.cell? ⟨b, o, none⟩ := fun hb hne X hg o => World.cell?_of_block (hg.block _ hb hne)
          have ox : some w.heap.size ≠ v3.ownBlock := off_low htn3.row (by omega)
          have on : some (w.heap.size + 1 + 1) ≠ v3.ownBlock := off_type htn3.row htn3.box (by decide)
          have of : some Bx ≠ v3.ownBlock := off_type htn3.row hfB (by decide)
          have oy : some By ≠ v3.ownBlock := off_type htn3.row hY (by decide)
          have or : some wr.heap.size ≠ v3.ownBlock := hst3.off HRB3.out.lt (off_new HTN2.out.row (Nat.le_refl _))
          have HL0 : Hid (∀ X, B.grownBy X v3.ownBlock → (Instr.loadAt 35 (.pointer (some ⟨w.heap.size + 1 + 1, 0, none⟩))).run Try.prog X = .ok v3 X) := Lib.hid (fun X hg => by
            have hc := (hoff htn3.box.lt on X hg 0).trans htn3.box.cell
            obtain ⟨a3, c3, hv3⟩ := Sl.shape htn3.row.l1
            subst hv3
            go_simp)
          have HL1 : Hid (∀ X, B.grownBy X v3.ownBlock → (Instr.loadAt 28 (.pointer (some ⟨w.heap.size, 0, none⟩))).run Try.prog X = .ok (.agg #[.int .i64 p, dv, av, vv]) X) := Lib.hid (fun X hg => by
            have c0 := (hoff hxB.lt ox X hg 0).trans hxB.c0
            have c1 := (hoff hxB.lt ox X hg 1).trans hxB.c1
            have c2 := (hoff hxB.lt ox X hg 2).trans hxB.c2
            have c3 := (hoff hxB.lt ox X hg 3).trans hxB.c3
            go_simp)
          have HL2 : Hid (∀ X, B.grownBy X v3.ownBlock → (Instr.loadAt 101 (.pointer (some ⟨Bx, 0, none⟩))).run Try.prog X = .ok (.agg #[.int .i64 (i : Int), .int .i64 (j : Int)]) X) := Lib.hid (fun X hg =>
            hloadCe X ((hoff (Array.getElem?_eq_some_iff.1 hfB).1 of X hg 0).trans (by simp [World.cell?, hfB])) ((hoff (Array.getElem?_eq_some_iff.1 hfB).1 of X hg 1).trans (by simp [World.cell?, hfB])))
          have HL3 : Hid (∀ X, B.grownBy X v3.ownBlock → (Instr.loadAt 2 (.pointer (some ⟨wr.heap.size, 0, none⟩))).run Try.prog X = .ok (.int .i64 (k : Int)) X) := Lib.hid (fun X hg => hloadIn X ((hoff hrB.lt or X hg 0).trans hrB.cell))
          have HL4 : Hid (∀ X, B.grownBy X v3.ownBlock → (Instr.loadAt 101 (.pointer (some ⟨By, 0, none⟩))).run Try.prog X = .ok (.agg #[.int .i64 (a : Int), .int .i64 (b : Int)]) X) := Lib.hid (fun X hg =>
            hloadCe X ((hoff (Array.getElem?_eq_some_iff.1 hY).1 oy X hg 0).trans (by simp [World.cell?, hY])) ((hoff (Array.getElem?_eq_some_iff.1 hY).1 oy X hg 1).trans (by simp [World.cell?, hY])))
          have HTNB := Lib.hid htn3
          have HSTB := Lib.hid hst3
          have hxs : (((tnum ds ac dn q (pre.map (·.1)) ++ (List.range k).flatMap fun r => trow ds ac dn q (i, j) r) ++ (pre2.map (·.1)).flatMap (prt ds ac dn (i, j) k))).length + (prt ds ac dn (i, j) k (a, b)).length ≤ 2097152 := by
            have h1 := tnum_le HP.out HOK.out HT.out q pre
            have h2 := rows_le HP.out HOK.out HT.out HFC.out q (Nat.le_of_lt hkd)
            have h3 := pre_le HP.out HOK.out HT.out HFC.out hkd pre2
            have h4 := prt_le HP.out HOK.out HT.out HFC.out hyc hkd
            have h5 := cells_le HOK.out
            simp only [List.length_append]
            omega
          have HXS := Lib.hid hxs
          have HFIN : Hid (∀ W v', Gb (w.heap.size + 1 + 1) W v' (((tnum ds ac dn q (pre.map (·.1)) ++ (List.range k).flatMap fun r => trow ds ac dn q (i, j) r) ++ (pre2.map (·.1)).flatMap (prt ds ac dn (i, j) k)) ++ prt ds ac dn (i, j) k (a, b)) → Go.Boxed W (w.heap.size + 1 + 1) 35 v' → Stp (w.heap.size + 1 + 1) B W v3 v' →
              KeepsFrom A3.heap.size B W ∧ Kd w.heap.size (WR.heap.size + 1) B W ∧ ∃ v', Tn (w.heap.size + 1 + 1) (w.heap.size + 1 + 1) W v' ((tnum ds ac dn q (pre.map (·.1)) ++ (List.range k).flatMap fun r => trow ds ac dn q (i, j) r) ++ ((pre2 ++ ([⟨(a, b), hym⟩] : List (DgIn ds q))).map (·.1)).flatMap (prt ds ac dn (i, j) k)) ∧ Stp (w.heap.size + 1 + 1) A3 W v2 v') := Lib.hid (fun W v' hg hb hs => by
            have hs3 := HS3.out
            have hsr := HSR.out
            have hsz := HSTB.out.size
            have hbl := HTN2.out.box.lt
            refine ⟨hs.keeps HTNB.out, hs.kd HTNB.out (by omega) (by omega) (by omega) (by omega) (HSTB.out.off (by omega) (off_new HTN2.out.row (by omega))) (by omega), v', ⟨hb, ?_⟩, HSTB.out.trans hs⟩
            have e : ((pre2 ++ ([⟨(a, b), hym⟩] : List (DgIn ds q))).map (·.1)).flatMap (prt ds ac dn (i, j) k) = (pre2.map (·.1)).flatMap (prt ds ac dn (i, j) k) ++ prt ds ac dn (i, j) k (a, b) := by
              rw [List.map_append, List.flatMap_append]
              refine congrArg _ ?_
              show List.flatMap _ [(a, b)] = _
              simp
            rw [e, ← List.append_assoc]
            exact hg)
          clear hoff hxs hxB hrB hfB htn3 hst3 hY hr2 ox on of oy or hlt2
          gi_wp2_with fail
          refine wpIn_region_last (fun X => B.grownBy X v3.ownBlock) 7 (by kernel_rfl) (by kernel_rfl) (fun ⟨_, _, h⟩ => h) rfl (by kernel_rfl) ?_
          have S0 : B.grownBy B.drew v3.ownBlock := ⟨rfl, rfl, rfl, Nat.le_refl _, fun _ _ _ => rfl⟩
          have hbd : Below B.heap.size B B.drew := (Below.refl _ _).drew
          change wpAnyH _ _ _ _ _ _ _ _ B.drew
          generalize B.drew = wd at *
          refine held_take (i := 0) (v := v3) (some 24) rfl rfl (by kernel_rfl) (by kernel_rfl) (by kernel_rfl) (fun _ _ _ h => h) (yieldsIf_cell (by kernel_rfl) rfl (by kernel_rfl) HL0.out) S0 ?_
          refine held_take (i := 1) (v := .agg #[.int .i64 p, dv, av, vv]) (some 25) rfl rfl (by kernel_rfl) (by kernel_rfl) (by kernel_rfl) (fun _ _ _ h => h) (yieldsIf_cell (by kernel_rfl) rfl (by kernel_rfl) HL1.out) S0 ?_
          refine held_take (i := 2) (v := .agg #[.int .i64 (i : Int), .int .i64 (j : Int)]) (some 26) rfl rfl (by kernel_rfl) (by kernel_rfl) (by kernel_rfl) (fun _ _ _ h => h) (yieldsIf_cell (by kernel_rfl) rfl (by kernel_rfl) HL2.out) S0 ?_
          refine held_take (i := 3) (v := .int .i64 (k : Int)) (some 27) rfl rfl (by kernel_rfl) (by kernel_rfl) (by kernel_rfl) (fun _ _ _ h => h) (yieldsIf_cell (by kernel_rfl) rfl (by kernel_rfl) HL3.out) S0 ?_
          refine held_take (i := 4) (v := .agg #[.int .i64 (a : Int), .int .i64 (b : Int)]) (some 28) rfl rfl (by kernel_rfl) (by kernel_rfl) (by kernel_rfl) (fun _ _ _ h => h) (yieldsIf_cell (by kernel_rfl) rfl (by kernel_rfl) HL4.out) S0 ?_
          refine held_enter (i := 5) (some 29) (f := 121) (args := #[.agg #[.int .i64 p, dv, av, vv], .agg #[.int .i64 (i : Int), .int .i64 (j : Int)], .int .i64 (k : Int), .agg #[.int .i64 (a : Int), .int .i64 (b : Int)]]) (by kernel_rfl) rfl rfl rfl (by kernel_rfl) (HCALL.out wd hbd) ?_ (fun c w' h => by obtain ⟨_, h, _⟩ := h; cases h) (fun w' h => by obtain ⟨_, h, _⟩ := h; cases h)
          rintro u6 w6 ⟨u, hu, hl6, hb6⟩
          injection hu with hu
          subst hu
          have hbB : Below B.heap.size B w6 := hbd.trans (hb6.mono hbd.size)
          have S6 : B.grownBy w6 v3.ownBlock := ⟨hbB.os, hbB.tape, hbB.output, hbB.size, fun k hk _ => hbB.block k hk⟩
          refine ⟨S6, ?_⟩
          have ht6 := HTNB.out.below hbB
          have hb0 : w.heap.size + 1 + 1 ≤ w6.heap.size := Nat.le_of_lt ht6.box.lt
          obtain ⟨v7, W7, hrun, hg7, hgr7, hown7⟩ := run_append_at w6 35 v3 _ ht6.row u6 _ hl6 HXS.out hb0
          have S7 : B.grownBy W7 v3.ownBlock := ⟨hgr7.os.trans S6.os, hgr7.tape.trans S6.tape, hgr7.output.trans S6.output, Nat.le_trans S6.size hgr7.size, fun k hk hne => (hgr7.block k (Nat.lt_of_lt_of_le hk S6.size) hne).trans (S6.block k hk hne)⟩
          refine held_app (i := 6) (some 30) #[35, 35] (.tmp 24) (.tmp 29) (by kernel_rfl) rfl rfl rfl rfl (by kernel_rfl) (by kernel_rfl) (fun _ => hrun) S7 ?_
          have hbx7 : Go.Boxed W7 (w.heap.size + 1 + 1) 35 v3 := ht6.box.kept hgr7 (off_type ht6.row ht6.box (by decide))
          have hfin := HFIN.out (W7.setCell ⟨w.heap.size + 1 + 1, 0, none⟩ v7) v7 (hg7.kept (grownBy_setCell' W7 _ _) (by
            cases hv : v7.ownBlock with
            | none => exact .inl rfl
            | some g => exact .inr (fun e => off_type hg7 hbx7 (by decide) (e.symm.trans hv.symm)))) (hbx7.set v7) (Stp.app hbB hgr7 hown7)
          obtain ⟨a7, c7, hv7⟩ := Sl.shape hg7.l1
          generalize hn7 : (((tnum ds ac dn q (pre.map (·.1)) ++ (List.range k).flatMap fun r => trow ds ac dn q (i, j) r) ++ (pre2.map (·.1)).flatMap (prt ds ac dn (i, j) k)) ++ prt ds ac dn (i, j) k (a, b)).length = n7 at hv7
          subst hv7
          have HFI := Lib.hid hfin
          have zc := hbx7.cell
          have zf := hbx7.frozen
          clear hfin hg7 hgr7 hown7 hbx7 ht6 hn7 hrun
          refine held_none (i := 7) (v := .bool false) rfl rfl (by kernel_rfl) (by kernel_rfl) (by kernel_rfl) (fun _ _ _ h => h) (yieldsIf_move (by kernel_rfl) rfl (by kernel_rfl)) S7 ?_
          refine wpAnyH_done (by kernel_rfl) (lastQ_storeN rfl (by kernel_rfl) (by kernel_rfl) (.tmp 5) (.tmp 30) (by kernel_rfl) (w.heap.size + 1 + 1) 0 a7 n7 c7 _ (by kernel_rfl) (by kernel_rfl) zc zf ?_) _
          exact HFI.out
        case done2 =>
          rintro zs B hS ⟨v3, htn3, hst3⟩
          have HF : Hid (Tn (w.heap.size + 1 + 1) (w.heap.size + 1 + 1) B v3 (tnum ds ac dn q (pre.map (·.1)) ++ (List.range (k + 1)).flatMap fun r => trow ds ac dn q (i, j) r)) := Lib.hid (by
            rw [hS, List.append_assoc] at htn3
            rw [List.range_succ, List.flatMap_append]
            simpa [trow] using htn3)
          have HG := Lib.hid (HST3.out.trans hst3)
          clear hS htn3 hst3
          gi_wp2
          go_roundw
          case rel => exact ⟨k + 1, by omega, by go_num, v3, HF, HG⟩
          case measure => simp [intOf]; omega
        case stop2 =>
          rintro c pre2 B _ hf
          exact hf.elim
      · obtain rfl : k = d := by omega
        have HF : Hid (KeepsFrom W1.heap.size A wr ∧ Kd w.heap.size (WA.heap.size + 1) A wr ∧ ∃ v', Tn (w.heap.size + 1 + 1) (w.heap.size + 1 + 1) wr v' (tnum ds ac dn q ((pre ++ ([⟨(i, j), hxm⟩] : List (DgIn ds n))).map (·.1))) ∧ Stp (w.heap.size + 1 + 1) W1 wr (.slice none 0 0) v') := Lib.hid (by
          have hs1 := HS1.out
          have hsa := HSA.out
          have hsz := HST.out.size
          refine ⟨HST2.out.keeps HTN.out, HST2.out.kd HTN.out (by omega) (by omega) (by omega) (by omega) (HST.out.off (by omega) (by simp [Value.ownBlock])) (by omega), v2, ?_, HST.out.trans HST2.out⟩
          rw [List.map_append]
          have h2 := HTN2.out
          rw [HD.out, ← tnum_snoc] at h2
          exact h2)
        gi_wp2
        exact HF.out
  case done =>
    rintro D zs A hD hS ⟨v, htn, hst⟩ hKD
    have hdq : tnum ds ac dn q (zs.map (·.1)) = tnum ds ac dn q (dgn ds n) := by rw [hS]
    rw [hdq] at htn
    have HTN := Lib.hid htn
    have HST := Lib.hid hst
    have HKD := Lib.hid hKD
    obtain ⟨av', cv', hv'⟩ := Sl.shape htn.row.l1
    have zc := htn.box.cell
    subst hv'
    clear htn hst hKD hS hdq
    gi_wp2
    refine ⟨by simp, .inl ⟨_, _, rfl, run_takeDeferred HKD.out, ?_⟩⟩
    have HG : Gb w.heap.size (A.putObj D (.deferred none)) (.slice av' (tnum ds ac dn q (dgn ds n)).length cv') (tnum ds ac dn q (dgn ds n)) := Gb.mono (ownsRow_putObj HTN.out.row _ HKD.out rfl) (by omega)
    exact ⟨_, results_tmp rfl _ _ _, .slice av' (tnum ds ac dn q (dgn ds n)).length cv', rfl, HG,
      ((HB1.out.trans (HST.out.low HT1.out.row (by omega) (by omega) HB1.out.size)).trans (belowK_b (w := W1) HB1.out.size _ D _ _ hD HKD.out rfl rfl))⟩
  case stop =>
    rintro D c pre A hD _ hf hKD
    exact hf.elim
end Go.Proofs.Ytlopenephgabhaa


namespace Go.Proofs.Ytlopenephgabhaa
open Go.RowKit

/-- The row k of a list that is cut into rows of c numbers. -/
def cutV (ad : Option Addr) (c k : Nat) : Value := .slice (if c = 0 then ad else ad.map (·.add (k * c))) c c
def cutL (xs : List Int) (n c : Nat) : List (List Int) := (List.range n).map fun k => (xs.drop (k * c)).take c
/-- n rows of a table's top laid, each a part. -/
structure CuTo (w wr : World) (ad : Option Addr) (c n k : Nat) : Prop where
  below : Below w.heap.size w wr
  top : wr.rowIs w.heap.size 35 n (fun j => if j < k then cutV ad c j else .slice none 0 0)
theorem CuTo.step {w wr : World} {ad : Option Addr} {c n k : Nat} (h : CuTo w wr ad c n k) : CuTo w (wr.setCell ⟨w.heap.size, k, none⟩ (cutV ad c k)) ad c n (k + 1) := by
  refine ⟨h.below.setCell (Nat.le_refl _) _, (h.top.set k _).congr (fun j hj => ?_)⟩
  by_cases e : j = k
  · subst e
    rw [if_pos rfl, if_pos (by omega)]
  · rw [if_neg e]
    by_cases h2 : j < k
    · rw [if_pos h2, if_pos (by omega)]
    · rw [if_neg h2, if_neg (by omega)]
theorem cu_bd {k n c : Nat} (h : k ≤ n) : k * c ≤ n * c := Nat.mul_le_mul_right c h

set_option maxRecDepth 100000 in
set_option maxHeartbeats 2000000 in
theorem cutRows_at (ad : Option Addr) (m cap n c : Nat) (w : World) (hn : n ≤ 1000) (hc : c ≤ 1000) (hm : m = n * c) (hcap : m ≤ cap) :
    Calls Try.prog 99 #[.slice ad m cap, .int .i64 (n : Int), .int .i64 (c : Int)] w fun e w' => e = .returned (.slice (some ⟨w.heap.size, 0, none⟩) n n) ∧ CuTo w w' ad c n n := by
  have hmk := run_make_row' (P := Try.prog) 22 35 (.slice none 0 0) 24 Try.underlying22 Try.infoS rfl .i64 .i64 n (by omega) (by omega)
  have HM := Lib.hid hm
  clear hm
  go_enter Try.func99, Try.ntmps99
  go_wp2
  clear hmk
  go_loopw [8, 9, 10, 14] (fun _ _ _ i wr => ∃ (k : Nat), k ≤ n ∧ i = .int .i64 k ∧ Hid (CuTo w wr ad c n k)) (fun _ _ _ i _ => n - (intOf i).toNat)
  case atStart => exact ⟨0, Nat.zero_le _, rfl, Lib.hid ⟨below_alloc1 _ _, (World.rowIs_made w (.slice none 0 0) n 35).congr (fun j _ => by simp)⟩⟩
  case round =>
    obtain ⟨k, hk, rfl, HC⟩ := hrel
    by_cases hlt : k < n
    · have hkl : (k : Int) < (n : Int) := by omega
      have h0 : wr.cell? ⟨w.heap.size, k, none⟩ = some (.slice none 0 0) := by rw [HC.out.top.cell hlt, if_neg (Nat.lt_irrefl _)]
      have hf := HC.out.top.frozen k
      obtain ⟨lo, hlo⟩ : ∃ lo, lo = k * c := ⟨_, rfl⟩
      obtain ⟨hi, hhi⟩ : ∃ hi, hi = (k + 1) * c := ⟨_, rfl⟩
      have hs : hi = lo + c := by rw [hhi, hlo, Nat.succ_mul]
      have hb : hi ≤ m := by rw [hhi, HM.out]; exact cu_bd (show k + 1 ≤ n by omega)
      have hb2 : hi ≤ 1000000 := by
        have : hi ≤ 1000 * 1000 := by rw [hhi]; exact Nat.mul_le_mul (by omega) hc
        omega
      have w1 : IntKind.i64.wrap ((k : Int) * (c : Int)) = (lo : Int) := by rw [show (k : Int) * (c : Int) = (lo : Int) by rw [hlo]; simp]; exact IntWalk.i64_in _ (by omega)
      have w2 : IntKind.i64.wrap ((k : Int) + 1) = ((k + 1 : Nat) : Int) := by rw [show (k : Int) + 1 = ((k + 1 : Nat) : Int) by omega]; exact IntWalk.i64_in _ (by omega)
      have w3 : IntKind.i64.wrap (((k : Int) + 1) * (c : Int)) = (hi : Int) := by rw [show ((k : Int) + 1) * (c : Int) = (hi : Int) by rw [hhi]; simp]; exact IntWalk.i64_in _ (by omega)
      have s1 : (lo : Int) ≤ (hi : Int) := by omega
      have s2 : (hi : Int) ≤ (cap : Int) := by omega
      have s0 : (0 : Int) ≤ (lo : Int) := by omega
      have HS : Hid (CuTo w (wr.setCell ⟨w.heap.size, k, none⟩ (.slice (if hi = lo then ad else ad.map (·.add lo)) (hi - lo) (hi - lo))) ad c n (k + 1)) := Lib.hid (by
        have e : Value.slice (if hi = lo then ad else ad.map (·.add lo)) (hi - lo) (hi - lo) = cutV ad c k := by
          unfold cutV
          rw [show hi - lo = c by omega, hlo]
          by_cases hz : c = 0
          · rw [if_pos hz, if_pos (by omega)]
          · rw [if_neg hz, if_neg (by omega)]
        rw [e]
        exact HC.out.step)
      clear HC hs hlo hhi hb
      go_wp2
      exact ⟨⟨k + 1, by omega, by go_num, HS⟩, by simp [intOf]; omega⟩
    · have hkn : ¬ (k : Int) < (n : Int) := by omega
      obtain rfl : k = n := by omega
      go_wp2
      go_ret
      exact ⟨rfl, HC.out⟩

theorem cut_len {xs : List Int} {n c k : Nat} (hl : xs.length = n * c) (hk : k < n) : ((xs.drop (k * c)).take c).length = c := by
  have h := cu_bd (c := c) (show k + 1 ≤ n by omega)
  rw [Nat.succ_mul] at h
  rw [List.length_take, List.length_drop, hl]
  omega
theorem drop_flat {c : Nat} : ∀ (t : List (List Int)), (∀ r ∈ t, r.length = c) → ∀ k, k ≤ t.length → t.flatten.drop (k * c) = (t.drop k).flatten
  | t, _, 0, _ => by simp
  | [], _, k + 1, hk => by simp at hk
  | r :: t, h, k + 1, hk => by
    have hr := h r (by simp)
    rw [List.flatten_cons, Nat.succ_mul, Nat.add_comm, ← List.drop_drop, show (r ++ t.flatten).drop c = t.flatten by rw [← hr]; simp]
    exact drop_flat t (fun x hx => h x (by simp [hx])) k (by simpa using hk)
theorem cut_flat {c : Nat} {t : List (List Int)} (h : ∀ r ∈ t, r.length = c) : cutL t.flatten t.length c = t := by
  unfold cutL
  refine List.ext_getElem (by simp) (fun k h1 h2 => ?_)
  rw [List.getElem_map, List.getElem_range, drop_flat t h k (Nat.le_of_lt h2), List.drop_eq_getElem_cons h2, List.flatten_cons]
  have hr := h _ (List.getElem_mem h2)
  rw [List.take_append_of_le_length (by omega), List.take_of_length_le (by omega)]
theorem flat_len {c : Nat} : ∀ {t : List (List Int)}, (∀ r ∈ t, r.length = c) → t.flatten.length = t.length * c
  | [], _ => by simp
  | r :: t, h => by
    rw [List.flatten_cons, List.length_append, List.length_cons, Nat.succ_mul, h r (by simp), flat_len (fun x hx => h x (by simp [hx]))]
    omega
theorem ttab_flat (ds : List (List Int)) (ac dn : List (List (List (List Int)))) (q : Nat) : (ttab ds ac dn q).flatten = tnum ds ac dn q (dgn ds (q + 1)) := by
  unfold ttab tnum
  generalize dgn ds (q + 1) = L
  induction L with
  | nil => rfl
  | cons f L ih => rw [List.flatMap_cons, List.flatMap_cons, List.flatten_append, ih]; rfl
end Go.Proofs.Ytlopenephgabhaa


namespace Go.Proofs.Ytlopenephgabhaa
open Go.RowKit

theorem Gb.parts {lo : Nat} {w : World} {ad : Option Addr} {m cap : Nat} {xs : List Int} (h : Gb lo w (.slice ad m cap) xs) (hp : 0 < xs.length) : ∃ b, ad = some ⟨b, 0, none⟩ ∧ lo ≤ b ∧ b < w.heap.size ∧ ∀ i (hi : i < xs.length), w.cell? ⟨b, i, none⟩ = some (.int .i64 xs[i]) ∧ w.frozen? ⟨b, i, none⟩ = false := by
  rcases h.2 with ⟨_, h0⟩ | ⟨g, cp, cur, hv, hb, hgb, h1, h2, h3, h4⟩
  · omega
  · injection hv with e1 _ _
    refine ⟨g, e1, hb, (Array.getElem?_eq_some_iff.1 hgb).1, fun i hi => ⟨?_, by simp [World.frozen?, hgb]⟩⟩
    have h5 : (cur.toList.take (xs.length * 1))[i]? = (xs.map (Value.int .i64))[i]? := by rw [h4]
    rw [List.getElem?_take, if_pos (by omega), List.getElem?_map, List.getElem?_eq_getElem hi] at h5
    simp [World.cell?, hgb]
    simpa using h5

theorem CuTo.rw2 {w wr : World} {ad : Option Addr} {c n m cap lo : Nat} {xs : List Int} (h : CuTo w wr ad c n n) (hn : n ≤ 1000) (hc : c ≤ 1000) (hg : Gb lo w (.slice ad m cap) xs) (hl : xs.length = n * c) (hlo : lo ≤ w.heap.size) :
    Rw2 lo wr.heap.size wr (.slice (some ⟨w.heap.size, 0, none⟩) n n) (cutL xs n c) := by
  have hlt := h.top.lt
  by_cases hz : n * c = 0
  · have hr : ∀ k, k < n → c = 0 := fun k hk => by
      rcases Nat.mul_eq_zero.1 hz with h1 | h1
      · omega
      · exact h1
    refine ⟨?_, ?_⟩
    · by_cases h0 : n = 0
      · subst h0
        exact Or.inl ⟨rfl, _, _, rfl⟩
      · have hc0 := hr 0 (by omega)
        refine Or.inr ⟨w.heap.size, 0, n, by simp [cutL], hlo, hlt, by simp [cutL]; omega, fun k hk => ?_, fun k _ => h.top.frozen _⟩
        have hk' : k < n := by simpa [cutL] using hk
        refine ⟨cutV ad c k, by rw [Nat.zero_add, h.top.cell hk', if_pos hk'], ?_⟩
        simp only [cutL, List.getElem_map, List.getElem_range]
        subst hc0
        exact Or.inl ⟨by simp, _, _, rfl⟩
    · refine ⟨flat (fun _ => []) n, ⟨some ⟨w.heap.size, 0, none⟩, n, n, fun j => cutV ad c j, fun _ => [], rfl, by omega, rfl, fun j hj => Or.inl ?_, fun _ => ⟨w.heap.size, 0, rfl, hlo, hlt, fun j hj => by rw [Nat.zero_add, h.top.cell hj, if_pos hj]⟩⟩, nums_flat (fun j _ x hx => absurd hx (by simp)), ?_, ?_⟩
      · rw [hr j hj]
        exact ⟨rfl, _, _, rfl⟩
      · have : flat (fun _ => ([] : List Iv)) n = [] := by simp [flat]
        rw [this]
        exact List.Pairwise.nil
      · have := size_spans (J := fun _ => []) (n := n) (B := 0) (fun j _ => by simp [ivSize])
        omega
  · have hc0 : c ≠ 0 := fun e => hz (by rw [e, Nat.mul_zero])
    obtain ⟨b, rfl, hlb, hb, hcz⟩ := hg.parts (by omega)
    have hv : ∀ j, cutV (some ⟨b, 0, none⟩) c j = .slice (some ⟨b, j * c, none⟩) c c := fun j => by
      unfold cutV
      rw [if_neg hc0, Option.map_some, Addr.add_mid, Nat.zero_add]
    have hz' : ∀ i (hi : i < xs.length), wr.cell? ⟨b, i, none⟩ = some (.int .i64 xs[i]) ∧ wr.frozen? ⟨b, i, none⟩ = false := fun i hi => ⟨(h.below.cell (p := ⟨b, i, none⟩) hb).trans (hcz i hi).1, (h.below.frozen (p := ⟨b, i, none⟩) hb).trans (hcz i hi).2⟩
    have hbr : b < wr.heap.size := by have := h.below.size; omega
    have hin : ∀ {j i : Nat}, j < n → i < c → j * c + i < xs.length := fun {j i} hj hi => by
      have := cu_bd (c := c) (show j + 1 ≤ n by omega)
      rw [Nat.succ_mul] at this
      omega
    refine ⟨?_, ?_⟩
    · have h0 : n ≠ 0 := fun e => hz (by rw [e, Nat.zero_mul])
      refine Or.inr ⟨w.heap.size, 0, n, by simp [cutL], hlo, hlt, by simp [cutL]; omega, fun k hk => ?_, fun k _ => h.top.frozen _⟩
      have hk' : k < n := by simpa [cutL] using hk
      refine ⟨.slice (some ⟨b, k * c, none⟩) c c, by rw [Nat.zero_add, h.top.cell hk', if_pos hk', hv], ?_⟩
      simp only [cutL, List.getElem_map, List.getElem_range]
      have hlen := cut_len hl hk'
      refine Or.inr ⟨b, k * c, c, by rw [hlen], hlb, hbr, by rw [hlen]; omega, fun i hi => ?_, fun i hi => ?_⟩
      · rw [hlen] at hi
        refine ⟨_, (hz' (k * c + i) (hin hk' hi)).1, ?_⟩
        simp only [IsI, List.getElem_take, List.getElem_drop]
      · rw [hlen] at hi
        exact (hz' (k * c + i) (hin hk' hi)).2
    · refine ⟨flat (fun j => [(b, j * c, c)]) n, ⟨some ⟨w.heap.size, 0, none⟩, n, n, fun j => .slice (some ⟨b, j * c, none⟩) c c, fun j => [(b, j * c, c)], rfl, by omega, rfl, fun j _ => Or.inr ⟨b, j * c, c, c, rfl, by omega, by omega, hlb, hbr, rfl⟩, fun _ => ⟨w.heap.size, 0, rfl, hlo, hlt, fun j hj => by rw [Nat.zero_add, h.top.cell hj, if_pos hj, hv]⟩⟩, nums_flat (fun j hj x hx => ?_), ?_, ?_⟩
      · obtain rfl : x = (b, j * c, c) := by simpa using hx
        exact ⟨hlb, hbr, fun i hi => by
          have hi' : i < c := hi
          exact ⟨⟨_, (hz' (j * c + i) (hin hj hi')).1⟩, (hz' (j * c + i) (hin hj hi')).2⟩⟩
      · have hgen : ∀ q, Disj (flat (fun j => [(b, j * c, c)]) q) := fun q => by
          induction q with
          | zero => exact List.Pairwise.nil
          | succ q ih =>
            rw [flat_succ]
            refine List.pairwise_append.2 ⟨ih, List.pairwise_singleton _ _, fun x hx y hy => Or.inr (Or.inl ?_)⟩
            obtain rfl : y = (b, q * c, c) := by simpa using hy
            obtain ⟨j, hj, hx⟩ := List.mem_flatMap.1 hx
            obtain rfl : x = (b, j * c, c) := by simpa using hx
            have := cu_bd (c := c) (show j + 1 ≤ q by have := List.mem_range.1 hj; omega)
            rw [Nat.succ_mul] at this
            exact this
        exact hgen n
      · have h1 := size_spans (J := fun j => [(b, j * c, c)]) (n := n) (B := 1000) (fun j _ => by simp [ivSize]; omega)
        omega
end Go.Proofs.Ytlopenephgabhaa


namespace Go.Proofs.Ytlopenephgabhaa
open Go.RowKit

section
variable {P : Program} {ops : Array Oper} {Q : Exit → Act → World → Prop} {md : Region.Mode} {S : World → Prop}
theorem held_one {i : Nat} {fuel : Nat} {listed : Array Bool} {a : Act} {w : World} (hr : Region.ready md ops listed = [i])
    (h1 : wpOp P ops Q i (fun a' w' => S w' ∧ wpAnyH P md ops Q S fuel (listed.setIfInBounds i true) a' w') a w) : wpAnyH P md ops Q S (fuel + 1) listed a w :=
  wpAnyH_all hr (by simp) (fun k hk => by obtain rfl := List.mem_singleton.1 hk; exact h1)
theorem held_two {i j : Nat} {fuel : Nat} {listed : Array Bool} {a : Act} {w : World} (hr : Region.ready md ops listed = [i, j])
    (h1 : wpOp P ops Q i (fun a' w' => S w' ∧ wpAnyH P md ops Q S fuel (listed.setIfInBounds i true) a' w') a w)
    (h2 : wpOp P ops Q j (fun a' w' => S w' ∧ wpAnyH P md ops Q S fuel (listed.setIfInBounds j true) a' w') a w) : wpAnyH P md ops Q S (fuel + 1) listed a w :=
  wpAnyH_all hr (by simp) (fun k hk => by
    rcases List.mem_cons.1 hk with rfl | hk
    · exact h1
    · obtain rfl := List.mem_singleton.1 hk; exact h2)
theorem held_three {i j l : Nat} {fuel : Nat} {listed : Array Bool} {a : Act} {w : World} (hr : Region.ready md ops listed = [i, j, l])
    (h1 : wpOp P ops Q i (fun a' w' => S w' ∧ wpAnyH P md ops Q S fuel (listed.setIfInBounds i true) a' w') a w)
    (h2 : wpOp P ops Q j (fun a' w' => S w' ∧ wpAnyH P md ops Q S fuel (listed.setIfInBounds j true) a' w') a w)
    (h3 : wpOp P ops Q l (fun a' w' => S w' ∧ wpAnyH P md ops Q S fuel (listed.setIfInBounds l true) a' w') a w) : wpAnyH P md ops Q S (fuel + 1) listed a w :=
  wpAnyH_all hr (by simp) (fun k hk => by
    rcases List.mem_cons.1 hk with rfl | hk
    · exact h1
    · rcases List.mem_cons.1 hk with rfl | hk
      · exact h2
      · obtain rfl := List.mem_singleton.1 hk; exact h3)
theorem op_plain {i : Nat} {oi : Oper} {K : Act → World → Prop} {a : Act} {w : World} (hi : ops[i]? = some oi) (hg : oi.guard = none) (h : oi.wp P a w K Q) : wpOp P ops Q i K a w := by
  unfold wpOp
  rw [hi]
  have hw : Region.wanted oi (yielded ops a.tmps) = true := by unfold Region.wanted; rw [hg]
  simp only [hw, if_true]
  exact Or.inl h
theorem op_enter {i : Nat} {oi : Oper} {K : Act → World → Prop} {a : Act} {w : World} (d : Option Tmp) {f : FuncId} {args : Array Value} (hi : ops[i]? = some oi) (hg : oi.guard = none) (hd : oi.dst = d)
    (h : (execOp a.eval oi).run P w = .ok (.enter f args) w) {R : Ending → World → Prop} (hc : Calls P f args w R) (hR : ∀ v w', R (.returned v) w' → K (a.put d v) w') (h2 : ∀ c w', ¬ R (.panicked c) w') (h3 : ∀ w', ¬ R .outgrown w') : wpOp P ops Q i K a w :=
  op_plain hi hg (wp_enter h hc (fun v w' hv => by rw [hd]; exact hR v w' hv) h2 h3)
theorem op_mem {i : Nat} {oi : Oper} {K : Act → World → Prop} {a : Act} {w w' : World} {v : Value} (d : Option Tmp) (hi : ops[i]? = some oi) (hg : oi.guard = none) (hd : oi.dst = d)
    (h : (execOp a.eval oi).run P w = .ok (.value v) w') (hK : K (a.put d v) w') : wpOp P ops Q i K a w := by
  subst hd
  refine op_plain hi hg ?_
  unfold Oper.wp
  rw [h]
  exact hK
theorem op_row {i : Nat} {oi : Oper} {K : Act → World → Prop} {a : Act} {w : World} (hi : ops[i]? = some oi) (hgd : oi.guard = none) (hd : oi.dst = none) (ty : TypeId) (x y : Operand) (ho : oi.op = .store ty x y)
    (g : Nat) (cells : Array Value) (hx : a.eval x = .pointer (some ⟨g, 0, none⟩)) (hy : a.eval y = .agg cells) (t : TypeId) (old : Array Value) (hg : w.heap[g]? = some (.cells old t (0, 0))) (hs : (P.info? ty).map (·.size) = some cells.size)
    (hold : old.size = cells.size) (h1 : cells.all (·.oneCell') = true) (hK : K a (w.setRow g cells)) : wpOp P ops Q i K a w :=
  op_plain hi hgd (wp_store_row ty x y ho g cells hx hy t old hg hs hold h1 (by rw [hd]; exact hK))
end
/-- A block of cells that may be written. -/
def Rz (W : World) (g : Nat) (t : TypeId) (cs : Array Value) : Prop := W.heap[g]? = some (.cells cs t (0, 0))
theorem Rz.lt {W : World} {g : Nat} {t : TypeId} {cs : Array Value} (h : Rz W g t cs) : g < W.heap.size := (Array.getElem?_eq_some_iff.1 h).1
theorem Rz.next {W W' : World} {g : Nat} {t : TypeId} {cs : Array Value} (h : Rz W g t cs) (hb : Below W.heap.size W W') : Rz W' g t cs := (hb.block g h.lt).trans h
theorem Rz.new (W : World) (t : TypeId) (cs : Array Value) : Rz (W.alloc (.cells cs t)) W.heap.size t cs := by simpa [Rz] using heap_alloc_new W (.cells cs t)
theorem Rz.set {W : World} {g : Nat} {t : TypeId} {cs : Array Value} (h : Rz W g t cs) (x : Array Value) : Rz (W.setRow g x) g t x := setRow_heap W g cs x t _ h
theorem Rz.off {W : World} {g g' : Nat} {t : TypeId} {cs : Array Value} (h : Rz W g t cs) (hne : g ≠ g') (x : Array Value) : Rz (W.setRow g' x) g t cs := (setRow_other W g' g x hne).trans h
theorem Rz.cell {W : World} {g : Nat} {t : TypeId} {cs : Array Value} (h : Rz W g t cs) {i : Nat} {v : Value} (hv : cs[i]? = some v) : W.cell? ⟨g, i, none⟩ = some v := by
  have h' : W.heap[g]? = some (.cells cs t (0, 0)) := h
  simp [World.cell?, h', hv]
end Go.Proofs.Ytlopenephgabhaa


namespace Go.Proofs.Ytlopenephgabhaa
open Go.RowKit
theorem haddA {a b s : Int} (h : IntKind.i64.wrap (a + b) = s) (w : World) : (binOp .add 2 (.int .i64 a) (.int .i64 b)).run Try.prog w = .ok (.int .i64 s) w := by go_simp
theorem hloadD (w : World) {b o : Nat} {x : Value} (h : w.cell? ⟨b, o, none⟩ = some x) : (Instr.loadAt 35 (.pointer (some ⟨b, o, none⟩))).run Try.prog w = .ok x w := by go_simp
theorem hloadM (w : World) {b o : Nat} {x : Value} (h : w.cell? ⟨b, o, none⟩ = some x) : (Instr.loadAt 36 (.pointer (some ⟨b, o, none⟩))).run Try.prog w = .ok x w := by go_simp
theorem hsubA {a b s : Int} (h : IntKind.i64.wrap (a - b) = s) (w : World) : (binOp .sub 2 (.int .i64 a) (.int .i64 b)).run Try.prog w = .ok (.int .i64 s) w := by go_simp
section
variable {P : Program} {ops : Array Oper} {Q : Exit → Act → World → Prop} {md : Region.Mode} {S : World → Prop}
theorem op_make {i : Nat} {oi : Oper} {K : Act → World → Prop} {a : Act} {w w' : World} {v x y : Value} (d : Option Tmp) (t : TypeId) (l c : Operand) (hi : ops[i]? = some oi) (hg : oi.guard = none) (hd : oi.dst = d) (ho : oi.op = .makeSlice t l c) (hl : a.eval l = x) (hc : a.eval c = y)
    (h : (Instr.makeSlice t x y).run P w = .ok v w') (hK : K (a.put d v) w') : wpOp P ops Q i K a w :=
  op_mem d hi hg hd (by simp [execOp, ho, hl, hc, h, Result.andThen]) hK
end
theorem infoCo (y0 y1 y2 : Value) : (Try.prog.info? 38).map (·.size) = some (#[y0, y1, y2] : Array Value).size := by kernel_rfl
end Go.Proofs.Ytlopenephgabhaa

