/-
  Texts that ProofCol needs, part 2.
-/
import Derived.Test.YtpdkfidmmjlmnabDoorZi1
import Derived.WalkKit
import Derived.Lib.Hide
import Derived.Deep.OwnRows
import Derived.Deep.Draws
import Derived.Test.YtpdkfidmmjlmnabDoorChecked
import Derived.Outline
import Derived.Deep.QuietTactic
import Derived.BigQuiet
import Derived.BigRegion
import Derived.WalkLawsBesides
import Derived.Laws.CopyOwn
import Derived.OrdersHeld
import Derived.Deep.MidRow
import Derived.Deep.RegionHeld3
import Derived.StillTailTactics
import Derived.Deep.Cut
import Derived.Deep.CutRange
import Derived.Great.Walk
import Derived.WideKeyArr
import Derived.Maps.OwnOps
import Derived.Maps.OwnSet
import Derived.Carry
import Derived.Great.BuildSlice
import Derived.Laws.CopyRow
import Derived.Lib.Overlaps
import Derived.Lib.AppendZerosOnto
import Derived.Lib.JoinLaws
import Derived.Deep.RegionLaw
import Derived.Deep.LoopGhost
import Derived.WalkMore
namespace Go.Proofs.YtpdkfidmmjlmnabDoor
open Go.RowKit

theorem cell_lt {w : World} {b o : Nat} {u : Value} (h : w.cell? ⟨b, o, none⟩ = some u) : b < w.heap.size := World.block_lt_of_cell? _ _ h

/-- Cells of blocks from lo on (that were there) read as they did. -/
def Keep (lo : Nat) (w w' : World) : Prop := w.heap.size ≤ w'.heap.size ∧ ∀ b o, lo ≤ b → b < w.heap.size → w'.cell? ⟨b, o, none⟩ = w.cell? ⟨b, o, none⟩

theorem Keep.of_below {lo : Nat} {w w' : World} (h : Below w.heap.size w w') : Keep lo w w' := ⟨h.size, fun _ _ _ hb => h.cell (p := ⟨_, _, none⟩) hb⟩
theorem Keep.trans {lo : Nat} {a b c : World} (h : Keep lo a b) (k : Keep lo b c) : Keep lo a c :=
  ⟨Nat.le_trans h.1 k.1, fun i o hl hi => (k.2 i o hl (Nat.lt_of_lt_of_le hi h.1)).trans (h.2 i o hl hi)⟩
theorem Keep.set {lo g o : Nat} {w : World} (u : Value) (h : g < lo) : Keep lo w (w.setCell ⟨g, o, none⟩ u) :=
  ⟨by simp [World.setCell], fun b i hl _ => World.cell?_of_block (w := w) (a := ⟨b, i, none⟩) (Below.heap_setCell w ⟨g, o, none⟩ u b (by show b ≠ g; omega))⟩
theorem Keep.drewN {lo : Nat} (w : World) (n : Nat) : Keep lo w (w.drewN n) := ⟨Nat.le_refl _, fun _ _ _ _ => rfl⟩

/-- The slice value v reads, cell by cell, as the list xs (R: how one cell reads); its cells lie in blocks from lo on. -/
def Sl {α : Type} (lo : Nat) (R : World → Value → α → Prop) (w : World) (v : Value) (xs : List α) : Prop :=
  (xs = [] ∧ ∃ ad cap, v = .slice ad 0 cap) ∨
  ∃ b o cap, v = .slice (some ⟨b, o, none⟩) xs.length cap ∧ lo ≤ b ∧ 0 < xs.length ∧ ∀ k (h : k < xs.length), ∃ u, w.cell? ⟨b, o + k, none⟩ = some u ∧ R w u xs[k]

def IsI (_ : World) (v : Value) (x : Int) : Prop := v = .int .i64 x
def L1 (lo : Nat) := Sl lo IsI
def L2 (lo : Nat) := Sl lo (L1 lo)
def L3 (lo : Nat) := Sl lo (L2 lo)

def Stable {α : Type} (lo : Nat) (R : World → Value → α → Prop) : Prop := ∀ w w' v x, Keep lo w w' → R w v x → R w' v x
theorem stableI (lo : Nat) : Stable lo IsI := fun _ _ _ _ _ h => h
theorem Stable.sl {α : Type} {lo : Nat} {R : World → Value → α → Prop} (hR : Stable lo R) : Stable lo (Sl lo R) := by
  intro w w' v xs hk h
  rcases h with h | ⟨b, o, cap, hv, hlo, hpos, hc⟩
  · exact Or.inl h
  · refine Or.inr ⟨b, o, cap, hv, hlo, hpos, fun k hk' => ?_⟩
    obtain ⟨u, hu, hr⟩ := hc k hk'
    exact ⟨u, (hk.2 b (o + k) hlo (cell_lt hu)).trans hu, hR _ _ _ _ hk hr⟩
theorem stable1 (lo : Nat) : Stable lo (L1 lo) := (stableI lo).sl
theorem stable2 (lo : Nat) : Stable lo (L2 lo) := (stable1 lo).sl
theorem stable3 (lo : Nat) : Stable lo (L3 lo) := (stable2 lo).sl

theorem Sl.lower {α : Type} {lo lo' : Nat} {R R' : World → Value → α → Prop} (hl : lo' ≤ lo) (hR : ∀ w v x, R w v x → R' w v x) {w : World} {v : Value} {xs : List α} (h : Sl lo R w v xs) : Sl lo' R' w v xs := by
  rcases h with h | ⟨b, o, cap, hv, hlo, hpos, hc⟩
  · exact Or.inl h
  · refine Or.inr ⟨b, o, cap, hv, Nat.le_trans hl hlo, hpos, fun k hk' => ?_⟩
    obtain ⟨u, hu, hr⟩ := hc k hk'
    exact ⟨u, hu, hR _ _ _ hr⟩
theorem L1.lower {lo lo' : Nat} (hl : lo' ≤ lo) {w : World} {v : Value} {xs : List Int} (h : L1 lo w v xs) : L1 lo' w v xs := Sl.lower hl (fun _ _ _ h => h) h
theorem L2.lower {lo lo' : Nat} (hl : lo' ≤ lo) {w : World} {v : Value} {xs : List (List Int)} (h : L2 lo w v xs) : L2 lo' w v xs := Sl.lower hl (fun _ _ _ h => L1.lower hl h) h
theorem L3.lower {lo lo' : Nat} (hl : lo' ≤ lo) {w : World} {v : Value} {xs : List (List (List Int))} (h : L3 lo w v xs) : L3 lo' w v xs := Sl.lower hl (fun _ _ _ h => L2.lower hl h) h

theorem L1.below {lo : Nat} {w w' : World} {v : Value} {xs : List Int} (h : L1 lo w v xs) (hb : Below w.heap.size w w') : L1 lo w' v xs := stable1 lo _ _ _ _ (Keep.of_below hb) h
theorem L2.below {lo : Nat} {w w' : World} {v : Value} {xs : List (List Int)} (h : L2 lo w v xs) (hb : Below w.heap.size w w') : L2 lo w' v xs := stable2 lo _ _ _ _ (Keep.of_below hb) h
theorem L3.below {lo : Nat} {w w' : World} {v : Value} {xs : List (List (List Int))} (h : L3 lo w v xs) (hb : Below w.heap.size w w') : L3 lo w' v xs := stable3 lo _ _ _ _ (Keep.of_below hb) h

/-- The two shapes of a slice value. -/
theorem Sl.cases {α : Type} {lo : Nat} {R : World → Value → α → Prop} {w : World} {v : Value} {xs : List α} (h : Sl lo R w v xs) {P : Prop}
    (h0 : ∀ ad cap, xs = [] → v = .slice ad 0 cap → P)
    (h1 : ∀ b o cap, v = .slice (some ⟨b, o, none⟩) xs.length cap → lo ≤ b → 0 < xs.length → (∀ k (h : k < xs.length), ∃ u, w.cell? ⟨b, o + k, none⟩ = some u ∧ R w u xs[k]) → P) : P := by
  rcases h with ⟨h, ad, cap, hv⟩ | ⟨b, o, cap, hv, hlo, hpos, hc⟩
  · exact h0 ad cap h hv
  · exact h1 b o cap hv hlo hpos hc

/-- A slice that a call is filling: its own block g (the first that it made), n cells, the first k filled. -/
structure Fill {α : Type} (w wr : World) (t : TypeId) (n k : Nat) (z : Value) (R : World → Value → α → Prop) (xs : List α) (f : Nat → Value) : Prop where
  below : Below w.heap.size w wr
  row : wr.rowIs w.heap.size t n f
  done : ∀ j (h : j < xs.length), j < k → R wr (f j) (xs[j]'h)
  rest : ∀ j, k ≤ j → j < n → f j = z

theorem Fill.start {α : Type} (w : World) (t : TypeId) (n : Nat) (z : Value) (R : World → Value → α → Prop) (xs : List α) : Fill w (w.alloc (.cells (madeCells #[z] n) t)) t n 0 z R xs (fun _ => z) :=
  ⟨(Below.refl _ _).alloc (Nat.le_refl _) _, World.rowIs_made w z n t, fun _ _ h => absurd h (Nat.not_lt_zero _), fun _ _ _ => rfl⟩

/-- One cell more: behind a call that left w1 (all that was there is as it was), the store of u. -/
theorem Fill.step {α : Type} {w wr w1 : World} {t : TypeId} {n k : Nat} {z u : Value} {R : World → Value → α → Prop} {xs : List α} {f : Nat → Value} (hR : Stable (w.heap.size + 1) R) (h : Fill w wr t n k z R xs f)
    (hb : Below wr.heap.size wr w1) (hk : k < xs.length) (hu : R w1 u xs[k]) :
    Fill w (w1.setCell ⟨w.heap.size, k, none⟩ u) t n (k + 1) z R xs (fun j => if j = k then u else f j) := by
  have hlt := h.row.lt
  have hrow1 : w1.rowIs w.heap.size t n f := h.row.of_block (hb.block _ hlt)
  refine ⟨(h.below.trans (hb.mono (Nat.le_of_lt (by exact Nat.lt_of_le_of_lt (Nat.le_refl _) hlt)))).setCell (Nat.le_refl _) _, hrow1.set k u, fun j hj hjk => ?_, fun j h1 h2 => ?_⟩
  · by_cases e : j = k
    · subst e
      simp only [if_true]
      exact hR _ _ _ _ (Keep.set u (Nat.lt_succ_self _)) hu
    · rw [if_neg e]
      exact hR _ _ _ _ ((Keep.of_below hb).trans (Keep.set u (Nat.lt_succ_self _))) (h.done j hj (by omega))
  · rw [if_neg (by omega)]
    exact h.rest j (by omega) h2

/-- The filled slice reads as the list. -/
theorem Fill.sl {α : Type} {lo : Nat} {w wr : World} {t : TypeId} {z : Value} {R : World → Value → α → Prop} {xs : List α} {f : Nat → Value} (hlo : lo ≤ w.heap.size) (h : Fill w wr t xs.length xs.length z R xs f) :
    Sl lo R wr (.slice (some ⟨w.heap.size, 0, none⟩) xs.length xs.length) xs := by
  by_cases h0 : xs.length = 0
  · exact Or.inl ⟨List.eq_nil_of_length_eq_zero h0, _, _, by rw [h0]⟩
  · exact Or.inr ⟨w.heap.size, 0, xs.length, rfl, hlo, by omega, fun k hk => ⟨f k, by rw [Nat.zero_add]; exact h.row.cell hk, h.done k hk hk⟩⟩

/-- What is below B, said cell by cell, in the walk's own words. -/
theorem bcell {W w1 : World} (hb : Below W.heap.size W w1) : (∀ b o, b < W.heap.size → w1.cell? ⟨b, o, none⟩ = W.cell? ⟨b, o, none⟩) ∧ (∀ b o, b < W.heap.size → w1.frozen? ⟨b, o, none⟩ = W.frozen? ⟨b, o, none⟩) :=
  ⟨fun b o h => hb.cell (p := ⟨b, o, none⟩) h, fun b o h => hb.frozen (p := ⟨b, o, none⟩) h⟩

theorem drewN_below (w : World) (n : Nat) : Below w.heap.size w (w.drewN n) := ⟨rfl, rfl, rfl, Nat.le_refl _, fun _ _ => rfl⟩
theorem ret_int {k : IntKind} {a b : Int} (h : a = b) : Ending.returned (.int k a) = .returned (.int k b) := by rw [h]
theorem ret_bool {a b : Bool} (h : a = b) : Ending.returned (.bool a) = .returned (.bool b) := by rw [h]

/-- Every number of the list is at most n long, at every depth. -/
def Bd1 (n : Nat) (xs : List Int) : Prop := xs.length ≤ n
def Bd2 (n : Nat) (xs : List (List Int)) : Prop := xs.length ≤ n ∧ ∀ x ∈ xs, Bd1 n x
def Bd3 (n : Nat) (xs : List (List (List Int))) : Prop := xs.length ≤ n ∧ ∀ x ∈ xs, Bd2 n x

/-- How one of the bounds answers: -1, or a number from 0 on, and then the list is short. -/
def SzR (left : Int) (ok : Prop) (w : World) (e : Ending) (w' : World) : Prop := ∃ r : Int, e = .returned (.int .i64 r) ∧ w = w' ∧ (r = -1 ∨ 0 ≤ r ∧ r ≤ left ∧ ok)
def SzB (left : Int) (ok : Prop) (w : World) (e : Ending) (w' : World) : Prop := ∃ r : Int, e = .returned (.int .i64 r) ∧ Below w.heap.size w w' ∧ (r = -1 ∨ 0 ≤ r ∧ r ≤ left ∧ ok)

theorem Sl.shape {α : Type} {lo : Nat} {R : World → Value → α → Prop} {w : World} {v : Value} {xs : List α} (h : Sl lo R w v xs) : ∃ ad cap, v = .slice ad xs.length cap :=
  h.cases (fun ad cap hx hv => ⟨ad, cap, by subst hx; exact hv⟩) (fun b o cap hv _ _ _ => ⟨some ⟨b, o, none⟩, cap, hv⟩)
theorem owns_below {w w' : World} {base : Nat} {e : TypeId} {size n : Nat} {v : Value} {xs : List Value} (h : w.ownsRow base e size v n xs) (hb : Below w.heap.size w w') : w'.ownsRow base e size v n xs := by
  refine ⟨h.1, ?_⟩
  rcases h.2 with h2 | ⟨g, cap, cur, hv, hg, hh, r⟩
  · exact Or.inl h2
  · exact Or.inr ⟨g, cap, cur, hv, hg, by rw [hb.block g (Array.getElem?_eq_some_iff.1 hh).1]; exact hh, r⟩
/-- An owned slice of values reads as the list that its values read as. -/
theorem sl_of_owns {α : Type} {w : World} {base lo : Nat} {e : TypeId} {n : Nat} {v : Value} {vs : List Value} {R : World → Value → α → Prop} {xs : List α} (h : w.ownsRow base e 1 v n vs) (hlo : lo ≤ base) (hl : xs.length = n)
    (hR : ∀ k (h1 : k < xs.length) (h2 : k < vs.length), R w vs[k] xs[k]) : Sl lo R w v xs := by
  have hvl : vs.length = n := by have := h.1; omega
  rcases h.2 with ⟨rfl, h0⟩ | ⟨g, cap, cur, rfl, hg, hh, hnc, _, hcs, htk⟩
  · exact Or.inl ⟨List.eq_nil_of_length_eq_zero (by omega), _, _, rfl⟩
  · by_cases h0 : n = 0
    · subst h0
      exact Or.inl ⟨List.eq_nil_of_length_eq_zero hl, _, _, rfl⟩
    · refine Or.inr ⟨g, 0, cap, by rw [hl], by omega, by omega, fun k hk => ⟨vs[k]'(by omega), ?_, hR k hk (by omega)⟩⟩
      rw [Nat.zero_add, h.cellAt k (by omega)]
      simp
end Go.Proofs.YtpdkfidmmjlmnabDoor

namespace Go.Proofs.YtpdkfidmmjlmnabDoor
open Go.RowKit

theorem Tryd.infoI : (Tryd.prog.info? 2).map (fun i => (i.zero, i.size, i.bytes)) = some (some (.int .i64 0), 1, 8) := by kernel_rfl
theorem Tryd.infoS : (Tryd.prog.info? 22).map (fun i => (i.zero, i.size, i.bytes)) = some (some (.slice none 0 0), 1, 24) := by kernel_rfl
theorem Tryd.infoSS : (Tryd.prog.info? 39).map (fun i => (i.zero, i.size, i.bytes)) = some (some (.slice none 0 0), 1, 24) := by kernel_rfl

/-- A copy: a new slice in memory of its own that reads as the list. -/
def ToR {α : Type} (R : Nat → World → Value → α → Prop) (x : α) (w : World) (e : Ending) (w' : World) : Prop := ∃ v, e = .returned v ∧ R w.heap.size w' v x ∧ Below w.heap.size w w'

set_option maxHeartbeats 400000 in
theorem to1_any (v : Value) (xs : List Int) (w : World) (h : L1 0 w v xs) (hm : xs.length ≤ 1048576) :
    Calls Tryd.prog 19 #[v] w (ToR L1 xs w) := by
  have hmk := run_make_row' (P := Tryd.prog) 22 2 (.int .i64 0) 8 Tryd.underlying22 Tryd.infoI rfl .i64 .i64 xs.length (by omega) (by omega)
  refine Sl.cases h (fun ad cap hx hv => ?_) (fun b o cap hv _ hpos hc => ?_)
  · subst hx hv
    have hmk0 : ∀ w, (Instr.makeSlice 22 (.int .i64 0) (.int .i64 0)).run Tryd.prog w = .ok (.slice (some ⟨w.heap.size, 0, none⟩) 0 0) (w.alloc (.cells #[] 2)) := fun _ => by kernel_rfl
    clear hmk
    go_enter Tryd.func19, Tryd.ntmps19
    go_wp2
    refine wp_loop_rounds 1 ?_
    rw [rounds_succ]
    go_wp2
    go_ret
    exact ⟨_, rfl, Or.inl ⟨rfl, _, _, rfl⟩, (Below.refl _ _).alloc (Nat.le_refl _) _⟩
  · subst hv
    clear h
    have HC := Lib.hid hc
    clear hc
    go_enter Tryd.func19, Tryd.ntmps19
    go_wp2
    clear hmk
    go_loopw [4] (fun i wr => ∃ (k : Nat) (f : Nat → Value), k ≤ xs.length ∧ i = .int .i64 k ∧ Fill w wr 2 xs.length k (.int .i64 0) IsI xs f) (fun i _ => xs.length - (intOf i).toNat)
    case atStart => exact ⟨0, _, Nat.zero_le _, rfl, Fill.start _ _ _ _ _ _⟩
    case round =>
      obtain ⟨k, f, hk, rfl, HF⟩ := hrel
      by_cases hlt2 : k < xs.length
      · obtain ⟨u, hu, hr⟩ := HC.out k hlt2
        have hu' : wr.cell? ⟨b, o + k, none⟩ = some (.int .i64 xs[k]) := by
          rw [HF.below.cell (p := ⟨b, o + k, none⟩) (cell_lt hu), hu, hr]
        have hc1 := HF.row.cell hlt2
        have hc2 := HF.row.frozen k
        have HS := HF.step (w1 := wr) (u := .int .i64 xs[k]) (stableI _) (Below.refl _ _) hlt2 rfl
        have HF' := Lib.hid HF
        have HS' := Lib.hid HS
        clear HF HS hu hr
        go_wp2
        go_roundw
        case rel => exact ⟨k + 1, _, by omega, by go_num, HS'.out⟩
        case measure => simp [intOf]; omega
      · obtain rfl : k = xs.length := by omega
        have HF' := Lib.hid HF
        clear HF
        go_wp2
        go_ret
        exact ⟨_, rfl, HF'.out.sl (Nat.le_refl _), HF'.out.below⟩

set_option maxHeartbeats 400000 in
theorem to2_any (v : Value) (xs : List (List Int)) (w : World) (h : L2 0 w v xs) (hm : Bd2 1048576 xs) :
    Calls Tryd.prog 20 #[v] w (ToR L2 xs w) := by
  have hml : xs.length ≤ 1048576 := hm.1
  have HM := Lib.hid hm
  clear hm
  have hmk := run_make_row' (P := Tryd.prog) 39 22 (.slice none 0 0) 24 Tryd.underlying39 Tryd.infoS rfl .i64 .i64 xs.length (by omega) (by omega)
  refine Sl.cases h (fun ad cap hx hv => ?_) (fun b o cap hv _ hpos hc => ?_)
  · subst hx hv
    have hmk0 : ∀ w, (Instr.makeSlice 39 (.int .i64 0) (.int .i64 0)).run Tryd.prog w = .ok (.slice (some ⟨w.heap.size, 0, none⟩) 0 0) (w.alloc (.cells #[] 22)) := fun _ => by kernel_rfl
    clear hmk
    go_enter Tryd.func20, Tryd.ntmps20
    go_wp2
    refine wp_loop_rounds 1 ?_
    rw [rounds_succ]
    go_wp2
    go_ret
    exact ⟨_, rfl, Or.inl ⟨rfl, _, _, rfl⟩, (Below.refl _ _).alloc (Nat.le_refl _) _⟩
  · subst hv
    clear h
    have HC := Lib.hid hc
    clear hc
    go_enter Tryd.func20, Tryd.ntmps20
    go_wp2
    clear hmk
    go_loopw [4] (fun i wr => ∃ (k : Nat) (f : Nat → Value), k ≤ xs.length ∧ i = .int .i64 k ∧ Fill w wr 22 xs.length k (.slice none 0 0) (L1 (w.heap.size + 1)) xs f) (fun i _ => xs.length - (intOf i).toNat)
    case atStart => exact ⟨0, _, Nat.zero_le _, rfl, Fill.start _ _ _ _ _ _⟩
    case round =>
      obtain ⟨k, f, hk, rfl, HF⟩ := hrel
      by_cases hlt2 : k < xs.length
      · obtain ⟨u, hu, hr⟩ := HC.out k hlt2
        have hu' : wr.cell? ⟨b, o + k, none⟩ = some u := by
          rw [HF.below.cell (p := ⟨b, o + k, none⟩) (cell_lt hu), hu]
        have hr' : L1 0 wr u xs[k] := hr.below HF.below
        have hmx : (xs[k]).length ≤ 1048576 := HM.out.2 _ (List.getElem_mem hlt2)
        have HF' := Lib.hid HF
        have HR' := Lib.hid hr'
        clear HF hu hr hr'
        go_wp2_with fail
        refine (to1_any u xs[k] _ HR'.out hmx).mono ?_
        rintro e w1 ⟨u1, rfl, hr1, hb1⟩
        obtain ⟨ad1, cap1, rfl⟩ := Sl.shape hr1
        have hlr := HF'.out.row.lt
        have hc1 : w1.cell? ⟨w.heap.size, k, none⟩ = some (f k) := (hb1.cell (p := ⟨w.heap.size, k, none⟩) hlr).trans (HF'.out.row.cell hlt2)
        have hc2 : w1.frozen? ⟨w.heap.size, k, none⟩ = false := (hb1.frozen (p := ⟨w.heap.size, k, none⟩) hlr).trans (HF'.out.row.frozen k)
        have HS := Lib.hid (HF'.out.step (w1 := w1) (u := _) (stable1 _) hb1 hlt2 (hr1.lower hlr))
        clear hr1 hb1 hlr
        go_wp2
        go_roundw
        case rel => exact ⟨k + 1, _, by omega, by go_num, HS.out⟩
        case measure => simp [intOf]; omega
      · obtain rfl : k = xs.length := by omega
        have HF' := Lib.hid HF
        clear HF
        go_wp2
        go_ret
        exact ⟨_, rfl, Sl.lower (Nat.le_refl _) (fun _ _ _ h => h.lower (Nat.le_succ _)) (HF'.out.sl (Nat.le_refl _)), HF'.out.below⟩

set_option maxHeartbeats 400000 in
theorem to3_any (v : Value) (xs : List (List (List Int))) (w : World) (h : L3 0 w v xs) (hm : Bd3 1048576 xs) :
    Calls Tryd.prog 8 #[v] w (ToR L3 xs w) := by
  have hml : xs.length ≤ 1048576 := hm.1
  have HM := Lib.hid hm
  clear hm
  have hmk := run_make_row' (P := Tryd.prog) 23 39 (.slice none 0 0) 24 Tryd.underlying23 Tryd.infoSS rfl .i64 .i64 xs.length (by omega) (by omega)
  refine Sl.cases h (fun ad cap hx hv => ?_) (fun b o cap hv _ hpos hc => ?_)
  · subst hx hv
    have hmk0 : ∀ w, (Instr.makeSlice 23 (.int .i64 0) (.int .i64 0)).run Tryd.prog w = .ok (.slice (some ⟨w.heap.size, 0, none⟩) 0 0) (w.alloc (.cells #[] 39)) := fun _ => by kernel_rfl
    clear hmk
    go_enter Tryd.func8, Tryd.ntmps8
    go_wp2
    refine wp_loop_rounds 1 ?_
    rw [rounds_succ]
    go_wp2
    go_ret
    exact ⟨_, rfl, Or.inl ⟨rfl, _, _, rfl⟩, (Below.refl _ _).alloc (Nat.le_refl _) _⟩
  · subst hv
    clear h
    have HC := Lib.hid hc
    clear hc
    go_enter Tryd.func8, Tryd.ntmps8
    go_wp2
    clear hmk
    go_loopw [4] (fun i wr => ∃ (k : Nat) (f : Nat → Value), k ≤ xs.length ∧ i = .int .i64 k ∧ Fill w wr 39 xs.length k (.slice none 0 0) (L2 (w.heap.size + 1)) xs f) (fun i _ => xs.length - (intOf i).toNat)
    case atStart => exact ⟨0, _, Nat.zero_le _, rfl, Fill.start _ _ _ _ _ _⟩
    case round =>
      obtain ⟨k, f, hk, rfl, HF⟩ := hrel
      by_cases hlt2 : k < xs.length
      · obtain ⟨u, hu, hr⟩ := HC.out k hlt2
        have hu' : wr.cell? ⟨b, o + k, none⟩ = some u := by
          rw [HF.below.cell (p := ⟨b, o + k, none⟩) (cell_lt hu), hu]
        have hr' : L2 0 wr u xs[k] := hr.below HF.below
        have hmx : Bd2 1048576 xs[k] := HM.out.2 _ (List.getElem_mem hlt2)
        have HF' := Lib.hid HF
        have HR' := Lib.hid hr'
        clear HF hu hr hr'
        go_wp2_with fail
        refine (to2_any u xs[k] _ HR'.out hmx).mono ?_
        rintro e w1 ⟨u1, rfl, hr1, hb1⟩
        obtain ⟨ad1, cap1, rfl⟩ := Sl.shape hr1
        have hlr := HF'.out.row.lt
        have hc1 : w1.cell? ⟨w.heap.size, k, none⟩ = some (f k) := (hb1.cell (p := ⟨w.heap.size, k, none⟩) hlr).trans (HF'.out.row.cell hlt2)
        have hc2 : w1.frozen? ⟨w.heap.size, k, none⟩ = false := (hb1.frozen (p := ⟨w.heap.size, k, none⟩) hlr).trans (HF'.out.row.frozen k)
        have HS := Lib.hid (HF'.out.step (w1 := w1) (u := _) (stable2 _) hb1 hlt2 (hr1.lower hlr))
        clear hr1 hb1 hlr
        go_wp2
        go_roundw
        case rel => exact ⟨k + 1, _, by omega, by go_num, HS.out⟩
        case measure => simp [intOf]; omega
      · obtain rfl : k = xs.length := by omega
        have HF' := Lib.hid HF
        clear HF
        go_wp2
        go_ret
        exact ⟨_, rfl, Sl.lower (Nat.le_refl _) (fun _ _ _ h => h.lower (Nat.le_succ _)) (HF'.out.sl (Nat.le_refl _)), HF'.out.below⟩

/-- A whole complex in three values. -/
structure Cx (lo : Nat) (w : World) (dv mv : Value) (ds : List Int) (ms : List (List (List Int))) : Prop where
  dims : L1 lo w dv ds
  maps : L3 lo w mv ms
theorem Cx.below {lo : Nat} {w w' : World} {dv mv : Value} {ds : List Int} {ms : List (List (List Int))} (h : Cx lo w dv mv ds ms) (hb : Below w.heap.size w w') : Cx lo w' dv mv ds ms := ⟨h.dims.below hb, h.maps.below hb⟩
theorem Cx.lower {lo lo' : Nat} (hl : lo' ≤ lo) {w : World} {dv mv : Value} {ds : List Int} {ms : List (List (List Int))} (h : Cx lo w dv mv ds ms) : Cx lo' w dv mv ds ms := ⟨h.dims.lower hl, h.maps.lower hl⟩

def ToC (p : Int) (ds : List Int) (ms : List (List (List Int))) (w : World) (e : Ending) (w' : World) : Prop :=
  ∃ dv mv, e = .returned (.agg #[.int .i64 p, dv, mv]) ∧ Cx w.heap.size w' dv mv ds ms ∧ Below w.heap.size w w'

set_option maxHeartbeats 800000 in
theorem toComplex_any (p : Int) (dv mv : Value) (ds : List Int) (ms : List (List (List Int))) (w : World) (h : Cx 0 w dv mv ds ms) (hd : ds.length ≤ 1048576) (hm : Bd3 1048576 ms) :
    Calls Tryd.prog 7 #[.agg #[.int .i64 p, dv, mv]] w (ToC p ds ms w) := by
  have HM := Lib.hid hm
  have H := Lib.hid h
  clear hm h
  have hres : Tryd.f7.results = #[.cell 2 28] := by kernel_rfl
  have HRES := Lib.hid hres
  clear hres
  go_enter Tryd.func7, Tryd.ntmps7
  go_wp2_with fail
  have hb0 : Below w.heap.size w (((w.alloc (.cells #[.int .i64 p, dv, mv] 25)).alloc (.cells #[.int .i64 0, .slice none 0 0, .slice none 0 0] 28)).alloc (.cells #[.int .i64 p, .slice none 0 0, .slice none 0 0] 28)) :=
    (((Below.refl _ _).alloc (Nat.le_refl _) _).alloc (by simp) _).alloc (by simp; omega) _
  have HB0 := Lib.hid hb0
  clear hb0
  refine (to1_any dv ds _ (H.out.dims.below HB0.out) hd).mono ?_
  rintro e w1 ⟨u1, rfl, hr1, hb1⟩
  obtain ⟨ad1, cap1, rfl⟩ := Sl.shape hr1
  have hz : w.heap.size + 3 ≤ w1.heap.size := by have := hb1.size; simp at this; omega
  obtain ⟨hc, hf⟩ := bcell hb1
  have HR1 := Lib.hid hr1
  have HB1 := Lib.hid hb1
  clear hr1 hb1
  have hz1b : w.heap.size + 1 < w1.heap.size := by omega
  have hz1 : w.heap.size + 1 + 1 < w1.heap.size := by have := HB1.out.size; simp at this; omega
  have HR1' := Lib.hid (stable1 (w.heap.size + 1 + 1 + 1) _ _ _ _ (Keep.set (o := 1) (.slice ad1 ds.length cap1) (Nat.lt_succ_self _)) (HR1.out.lower (by simp)))
  clear HR1
  go_wp2_with fail
  have hb2 : Below w.heap.size w (w1.setCell ⟨w.heap.size + 1 + 1, 1, none⟩ (.slice ad1 ds.length cap1)) := (HB0.out.trans (HB1.out.mono (by simp; omega))).setCell (by show w.heap.size ≤ w.heap.size + 1 + 1; omega) _
  have HB2 := Lib.hid hb2
  clear hb2
  refine (to3_any mv ms _ (H.out.maps.below HB2.out) HM.out).mono ?_
  rintro e w2 ⟨u2, rfl, hr2, hb3⟩
  obtain ⟨ad2, cap2, rfl⟩ := Sl.shape hr2
  have hz2 : w1.heap.size ≤ w2.heap.size := by have := hb3.size; simpa using this
  have HR1 := Lib.hid (HR1'.out.below hb3)
  obtain ⟨hc2, hf2⟩ := bcell hb3
  have HR2 := Lib.hid hr2
  have HB3 := Lib.hid hb3
  clear hr2 hb3 HR1'
  go_wp2
  refine bodyPost_ret (v := .agg #[.int .i64 p, .slice ad1 ds.length cap1, .slice ad2 ms.length cap2]) ?_ rfl ?_
  · simp only [results, HRES.out]
    go_simp
  · have hk : Keep (w.heap.size + 1 + 1 + 1) w2 ((((w2.setCell ⟨w.heap.size + 1 + 1, 2, none⟩ (.slice ad2 ms.length cap2)).setCell ⟨w.heap.size + 1, 0, none⟩ (.int .i64 p)).setCell ⟨w.heap.size + 1, 1, none⟩ (.slice ad1 ds.length cap1)).setCell ⟨w.heap.size + 1, 2, none⟩ (.slice ad2 ms.length cap2)) :=
      (((Keep.set _ (by omega)).trans (Keep.set _ (by omega))).trans (Keep.set _ (by omega))).trans (Keep.set _ (by omega))
    refine ⟨_, _, rfl, ⟨?_, ?_⟩, ?_⟩
    · exact (stable1 _ _ _ _ _ hk HR1.out).lower (by omega)
    · exact (stable3 _ _ _ _ _ hk (HR2.out.lower (by simp; omega))).lower (by omega)
    · exact ((((HB2.out.trans (HB3.out.mono (by simp; omega))).setCell (by show w.heap.size ≤ w.heap.size + 1 + 1; omega) _).setCell (by show w.heap.size ≤ w.heap.size + 1; omega) _).setCell (by show w.heap.size ≤ w.heap.size + 1; omega) _).setCell (by show w.heap.size ≤ w.heap.size + 1; omega) _
end Go.Proofs.YtpdkfidmmjlmnabDoor

namespace Go.Proofs.YtpdkfidmmjlmnabDoor
open Go.RowKit

/-- A call that only reads: its value, and a world that parts from the first in draws alone. -/
def QR (v : Value) (w : World) (e : Ending) (w' : World) : Prop := e = .returned v ∧ ∃ m, w' = w.drewN m

theorem list_eq_take {α : Type} {xs ys : List α} {k : Nat} (hl : ys.length = xs.length) (hk : k = xs.length) (h : ∀ j (h1 : j < xs.length) (h2 : j < ys.length), j < k → xs[j] = ys[j]) : xs = ys :=
  List.ext_getElem hl.symm fun j h1 h2 => h j h1 h2 (by omega)

set_option maxHeartbeats 800000 in
theorem eq1_any (va vb : Value) (xs ys : List Int) (w : World) (ha : L1 0 w va xs) (hb : L1 0 w vb ys) (hm : xs.length ≤ 1048576) (hn : ys.length ≤ 1048576) :
    Calls Tryd.prog 24 #[va, vb] w (QR (.bool (decide (xs = ys))) w) := by
  by_cases hl : ys.length = xs.length
  · refine Sl.cases ha (fun ad cap hx hv => ?_) (fun b o cap hv _ hpos hc => ?_)
    · subst hx hv
      obtain ⟨ad2, cap2, hv2⟩ := Sl.shape hb
      rw [hl] at hv2
      obtain rfl : ys = [] := List.eq_nil_of_length_eq_zero hl
      subst hv2
      clear ha hb hl
      go_enter Tryd.func24, Tryd.ntmps24
      go_wp2
      refine wp_loop_rounds 1 ?_
      rw [rounds_succ]
      go_wp2
      go_ret
      exact ⟨rfl, 0, rfl⟩
    · refine Sl.cases hb (fun ad cap hx hv => absurd hl (by subst hx; simp; omega)) (fun b2 o2 cap2 hv2 _ hpos2 hc2 => ?_)
      rw [hl] at hv2
      subst hv hv2
      clear ha hb
      have HL := Lib.hid hl
      have HC := Lib.hid hc
      have HC2 := Lib.hid hc2
      clear hl hc hc2
      go_enter Tryd.func24, Tryd.ntmps24
      go_wp2
      go_loopw [5] (fun i wr => ∃ (k m : Nat), k ≤ xs.length ∧ i = .int .i64 k ∧ wr = w.drewN m ∧ Hid (∀ j (h1 : j < xs.length) (h2 : j < ys.length), j < k → xs[j] = ys[j])) (fun i _ => xs.length - (intOf i).toNat)
      case atStart => exact ⟨0, 0, Nat.zero_le _, rfl, rfl, Lib.hid (fun _ _ _ h => absurd h (Nat.not_lt_zero _))⟩
      case round =>
        obtain ⟨k, m, hk, rfl, rfl, HD⟩ := hrel
        by_cases hlt2 : k < xs.length
        · have hlt3 : k < ys.length := by have := HL.out; omega
          obtain ⟨u, hu, hr⟩ := HC.out k hlt2
          obtain ⟨u2, hu2, hr2⟩ := HC2.out k hlt3
          obtain ⟨x, hx⟩ : ∃ x, x = xs[k] := ⟨_, rfl⟩
          obtain ⟨y, hy⟩ : ∃ y, y = ys[k] := ⟨_, rfl⟩
          rw [hr, ← hx] at hu
          rw [hr2, ← hy] at hu2
          have HX := Lib.hid hx
          have HY := Lib.hid hy
          clear hx hy hr hr2
          by_cases hxy : x = y
          · have HXY := Lib.hid hxy
            have hq : (x != y) = false := by simp [hxy]
            have hq2 : (x == y) = true := by simp [hxy]
            clear hxy
            go_wp2
            go_quiet (fail)
            go_wp2
            go_roundw
            case rel => exact ⟨k + 1, _, by omega, by go_num, rfl, Lib.hid (fun j h1 h2 hjk => by
              by_cases e : j = k
              · subst e; rw [← HX.out, ← HY.out, HXY.out]
              · exact HD.out j h1 h2 (by omega))⟩
            case measure => simp [intOf]; omega
          · have HXY := Lib.hid hxy
            have hq : (x != y) = true := by simp [hxy]
            have hq2 : (x == y) = false := by simp [hxy]
            clear hxy
            go_wp2
            go_quiet (fail)
            go_wp2
            go_ret
            refine ⟨ret_bool ?_, m + nq, by rw [World.drewN_drewN]⟩
            have hne : ¬ xs = ys := fun e => HXY.out (by rw [HX.out, HY.out]; subst e; rfl)
            simp [hne]
        · go_wp2
          go_ret
          refine ⟨ret_bool ?_, m, rfl⟩
          have := list_eq_take HL.out (by omega) HD.out
          simp [this]
  · obtain ⟨ad, cap, rfl⟩ := Sl.shape ha
    obtain ⟨ad2, cap2, rfl⟩ := Sl.shape hb
    clear ha hb
    have hq : ((xs.length : Int) != (ys.length : Int)) = true := by simp; omega
    have hq2 : ((xs.length : Int) == (ys.length : Int)) = false := by simp; omega
    have HL := Lib.hid hl
    clear hl
    go_enter Tryd.func24, Tryd.ntmps24
    go_wp2
    go_ret
    refine ⟨ret_bool ?_, 0, rfl⟩
    have hne : ¬ xs = ys := fun e => HL.out (by rw [e])
    simp [hne]

set_option maxHeartbeats 800000 in
theorem eq2_any (va vb : Value) (xs ys : List (List Int)) (w : World) (ha : L2 0 w va xs) (hb : L2 0 w vb ys) (hm : Bd2 1048576 xs) (hn : Bd2 1048576 ys) :
    Calls Tryd.prog 25 #[va, vb] w (QR (.bool (decide (xs = ys))) w) := by
  have hm0 : xs.length ≤ 1048576 := hm.1
  have hn0 : ys.length ≤ 1048576 := hn.1
  have HM := Lib.hid hm
  have HN := Lib.hid hn
  clear hm hn
  by_cases hl : ys.length = xs.length
  · refine Sl.cases ha (fun ad cap hx hv => ?_) (fun b o cap hv _ hpos hc => ?_)
    · subst hx hv
      obtain ⟨ad2, cap2, hv2⟩ := Sl.shape hb
      rw [hl] at hv2
      obtain rfl : ys = [] := List.eq_nil_of_length_eq_zero hl
      subst hv2
      clear ha hb hl
      go_enter Tryd.func25, Tryd.ntmps25
      go_wp2
      refine wp_loop_rounds 1 ?_
      rw [rounds_succ]
      go_wp2
      go_ret
      exact ⟨rfl, 0, rfl⟩
    · refine Sl.cases hb (fun ad cap hx hv => absurd hl (by subst hx; simp; omega)) (fun b2 o2 cap2 hv2 _ hpos2 hc2 => ?_)
      rw [hl] at hv2
      subst hv hv2
      clear ha hb
      have HL := Lib.hid hl
      have HC := Lib.hid hc
      have HC2 := Lib.hid hc2
      clear hl hc hc2
      go_enter Tryd.func25, Tryd.ntmps25
      go_wp2
      go_loopw [5] (fun i wr => ∃ (k m : Nat), k ≤ xs.length ∧ i = .int .i64 k ∧ wr = w.drewN m ∧ Hid (∀ j (h1 : j < xs.length) (h2 : j < ys.length), j < k → xs[j] = ys[j])) (fun i _ => xs.length - (intOf i).toNat)
      case atStart => exact ⟨0, 0, Nat.zero_le _, rfl, rfl, Lib.hid (fun _ _ _ h => absurd h (Nat.not_lt_zero _))⟩
      case round =>
        obtain ⟨k, m, hk, rfl, hw, HD⟩ := hrel
        have HW := Lib.hid hw
        clear hw
        by_cases hlt2 : k < xs.length
        · have hlt3 : k < ys.length := by have := HL.out; omega
          obtain ⟨u, hu, hr⟩ := HC.out k hlt2
          obtain ⟨u2, hu2, hr2⟩ := HC2.out k hlt3
          have hu' : wr.cell? ⟨b, o + k, none⟩ = some u := by rw [HW.out]; exact hu
          have hu2' : wr.cell? ⟨b2, o2 + k, none⟩ = some u2 := by rw [HW.out]; exact hu2
          have HE := Lib.hid (fun (m2 : Nat) => eq1_any u u2 xs[k] ys[k] (wr.drewN m2) (by rw [HW.out]; exact (hr.below (drewN_below w m)).below (drewN_below _ m2)) (by rw [HW.out]; exact (hr2.below (drewN_below w m)).below (drewN_below _ m2)) (HM.out.2 _ (List.getElem_mem hlt2)) (HN.out.2 _ (List.getElem_mem hlt3)))
          clear hr hr2 hu hu2
          by_cases hxy : xs[k] = ys[k]
          · have HXY := Lib.hid hxy
            have HE' : Hid (∀ m2 : Nat, Calls Tryd.prog 24 #[u, u2] (wr.drewN m2) (QR (.bool true) (wr.drewN m2))) := Lib.hid (fun m2 => by have := HE.out m2; rwa [decide_eq_true hxy] at this)
            clear hxy HE
            go_wp2
            go_quiet ((go_at_call 24; exact Calls.quiet_of (HE'.out _)))
            go_wp2
            go_roundw
            case rel => exact ⟨k + 1, m + nq, by omega, by go_num, by rw [HW.out, World.drewN_drewN], Lib.hid (fun j h1 h2 hjk => by
              by_cases e : j = k
              · subst e; exact HXY.out
              · exact HD.out j h1 h2 (by omega))⟩
            case measure => simp [intOf]; omega
          · have HXY := Lib.hid hxy
            have HE' : Hid (∀ m2 : Nat, Calls Tryd.prog 24 #[u, u2] (wr.drewN m2) (QR (.bool false) (wr.drewN m2))) := Lib.hid (fun m2 => by have := HE.out m2; rwa [decide_eq_false hxy] at this)
            clear hxy HE
            go_wp2
            go_quiet ((go_at_call 24; exact Calls.quiet_of (HE'.out _)))
            go_wp2
            go_ret
            refine ⟨ret_bool ?_, m + nq, by rw [HW.out, World.drewN_drewN]⟩
            have hne : ¬ xs = ys := fun e => HXY.out (by subst e; rfl)
            simp [hne]
        · go_wp2
          go_ret
          refine ⟨ret_bool ?_, m, HW.out⟩
          have := list_eq_take HL.out (by omega) HD.out
          simp [this]
  · obtain ⟨ad, cap, rfl⟩ := Sl.shape ha
    obtain ⟨ad2, cap2, rfl⟩ := Sl.shape hb
    clear ha hb
    have hq : ((xs.length : Int) != (ys.length : Int)) = true := by simp; omega
    have hq2 : ((xs.length : Int) == (ys.length : Int)) = false := by simp; omega
    have HL := Lib.hid hl
    clear hl
    go_enter Tryd.func25, Tryd.ntmps25
    go_wp2
    go_ret
    refine ⟨ret_bool ?_, 0, rfl⟩
    have hne : ¬ xs = ys := fun e => HL.out (by rw [e])
    simp [hne]

set_option maxHeartbeats 800000 in
theorem eq3_any (va vb : Value) (xs ys : List (List (List Int))) (w : World) (ha : L3 0 w va xs) (hb : L3 0 w vb ys) (hm : Bd3 1048576 xs) (hn : Bd3 1048576 ys) :
    Calls Tryd.prog 11 #[va, vb] w (QR (.bool (decide (xs = ys))) w) := by
  have hm0 : xs.length ≤ 1048576 := hm.1
  have hn0 : ys.length ≤ 1048576 := hn.1
  have HM := Lib.hid hm
  have HN := Lib.hid hn
  clear hm hn
  by_cases hl : ys.length = xs.length
  · refine Sl.cases ha (fun ad cap hx hv => ?_) (fun b o cap hv _ hpos hc => ?_)
    · subst hx hv
      obtain ⟨ad2, cap2, hv2⟩ := Sl.shape hb
      rw [hl] at hv2
      obtain rfl : ys = [] := List.eq_nil_of_length_eq_zero hl
      subst hv2
      clear ha hb hl
      go_enter Tryd.func11, Tryd.ntmps11
      go_wp2
      refine wp_loop_rounds 1 ?_
      rw [rounds_succ]
      go_wp2
      go_ret
      exact ⟨rfl, 0, rfl⟩
    · refine Sl.cases hb (fun ad cap hx hv => absurd hl (by subst hx; simp; omega)) (fun b2 o2 cap2 hv2 _ hpos2 hc2 => ?_)
      rw [hl] at hv2
      subst hv hv2
      clear ha hb
      have HL := Lib.hid hl
      have HC := Lib.hid hc
      have HC2 := Lib.hid hc2
      clear hl hc hc2
      go_enter Tryd.func11, Tryd.ntmps11
      go_wp2
      go_loopw [5] (fun i wr => ∃ (k m : Nat), k ≤ xs.length ∧ i = .int .i64 k ∧ wr = w.drewN m ∧ Hid (∀ j (h1 : j < xs.length) (h2 : j < ys.length), j < k → xs[j] = ys[j])) (fun i _ => xs.length - (intOf i).toNat)
      case atStart => exact ⟨0, 0, Nat.zero_le _, rfl, rfl, Lib.hid (fun _ _ _ h => absurd h (Nat.not_lt_zero _))⟩
      case round =>
        obtain ⟨k, m, hk, rfl, hw, HD⟩ := hrel
        have HW := Lib.hid hw
        clear hw
        by_cases hlt2 : k < xs.length
        · have hlt3 : k < ys.length := by have := HL.out; omega
          obtain ⟨u, hu, hr⟩ := HC.out k hlt2
          obtain ⟨u2, hu2, hr2⟩ := HC2.out k hlt3
          have hu' : wr.cell? ⟨b, o + k, none⟩ = some u := by rw [HW.out]; exact hu
          have hu2' : wr.cell? ⟨b2, o2 + k, none⟩ = some u2 := by rw [HW.out]; exact hu2
          have HE := Lib.hid (fun (m2 : Nat) => eq2_any u u2 xs[k] ys[k] (wr.drewN m2) (by rw [HW.out]; exact (hr.below (drewN_below w m)).below (drewN_below _ m2)) (by rw [HW.out]; exact (hr2.below (drewN_below w m)).below (drewN_below _ m2)) (HM.out.2 _ (List.getElem_mem hlt2)) (HN.out.2 _ (List.getElem_mem hlt3)))
          clear hr hr2 hu hu2
          by_cases hxy : xs[k] = ys[k]
          · have HXY := Lib.hid hxy
            have HE' : Hid (∀ m2 : Nat, Calls Tryd.prog 25 #[u, u2] (wr.drewN m2) (QR (.bool true) (wr.drewN m2))) := Lib.hid (fun m2 => by have := HE.out m2; rwa [decide_eq_true hxy] at this)
            clear hxy HE
            go_wp2
            go_quiet ((go_at_call 25; exact Calls.quiet_of (HE'.out _)))
            go_wp2
            go_roundw
            case rel => exact ⟨k + 1, m + nq, by omega, by go_num, by rw [HW.out, World.drewN_drewN], Lib.hid (fun j h1 h2 hjk => by
              by_cases e : j = k
              · subst e; exact HXY.out
              · exact HD.out j h1 h2 (by omega))⟩
            case measure => simp [intOf]; omega
          · have HXY := Lib.hid hxy
            have HE' : Hid (∀ m2 : Nat, Calls Tryd.prog 25 #[u, u2] (wr.drewN m2) (QR (.bool false) (wr.drewN m2))) := Lib.hid (fun m2 => by have := HE.out m2; rwa [decide_eq_false hxy] at this)
            clear hxy HE
            go_wp2
            go_quiet ((go_at_call 25; exact Calls.quiet_of (HE'.out _)))
            go_wp2
            go_ret
            refine ⟨ret_bool ?_, m + nq, by rw [HW.out, World.drewN_drewN]⟩
            have hne : ¬ xs = ys := fun e => HXY.out (by subst e; rfl)
            simp [hne]
        · go_wp2
          go_ret
          refine ⟨ret_bool ?_, m, HW.out⟩
          have := list_eq_take HL.out (by omega) HD.out
          simp [this]
  · obtain ⟨ad, cap, rfl⟩ := Sl.shape ha
    obtain ⟨ad2, cap2, rfl⟩ := Sl.shape hb
    clear ha hb
    have hq : ((xs.length : Int) != (ys.length : Int)) = true := by simp; omega
    have hq2 : ((xs.length : Int) == (ys.length : Int)) = false := by simp; omega
    have HL := Lib.hid hl
    clear hl
    go_enter Tryd.func11, Tryd.ntmps11
    go_wp2
    go_ret
    refine ⟨ret_bool ?_, 0, rfl⟩
    have hne : ¬ xs = ys := fun e => HL.out (by rw [e])
    simp [hne]

/-- A call that answers a value and leaves what was there. -/
def BR (v : Value) (w : World) (e : Ending) (w' : World) : Prop := e = .returned v ∧ Below w.heap.size w w'

set_option maxHeartbeats 800000 in
/-- Two complexes that read alike are equal (all that the laws need of the comparison, in the case of success). -/
theorem eqComplex_true (p : Int) (dv mv dv2 mv2 : Value) (ds : List Int) (ms : List (List (List Int))) (w : World) (h : Cx 0 w dv mv ds ms) (h2 : Cx 0 w dv2 mv2 ds ms) (hd : ds.length ≤ 1048576) (hm : Bd3 1048576 ms) :
    Calls Tryd.prog 10 #[.agg #[.int .i64 p, dv, mv], .agg #[.int .i64 p, dv2, mv2]] w (BR (.bool true) w) := by
  have HM := Lib.hid hm
  have H := Lib.hid h
  have H2 := Lib.hid h2
  clear hm h h2
  go_enter Tryd.func10, Tryd.ntmps10
  go_wp2_with fail
  have hb0 : Below w.heap.size w ((w.alloc (.cells #[.int .i64 p, dv, mv] 28)).alloc (.cells #[.int .i64 p, dv2, mv2] 28)) :=
    ((Below.refl _ _).alloc (Nat.le_refl _) _).alloc (by simp) _
  have HB0 := Lib.hid hb0
  clear hb0
  have h1 := eq1_any dv dv2 ds ds _ (H.out.dims.below HB0.out) (H2.out.dims.below HB0.out) hd hd
  rw [decide_eq_true rfl] at h1
  refine h1.mono ?_
  clear h1
  rintro e w' ⟨rfl, m, rfl⟩
  go_wp2_with fail
  have h1 := eq3_any mv mv2 ms ms _ ((H.out.maps.below HB0.out).below (drewN_below _ m)) ((H2.out.maps.below HB0.out).below (drewN_below _ m)) HM.out HM.out
  rw [decide_eq_true rfl] at h1
  refine h1.mono ?_
  clear h1
  rintro e w' ⟨rfl, m2, rfl⟩
  go_wp2
  go_ret
  exact ⟨rfl, HB0.out.trans ((drewN_below _ (m + m2)).mono HB0.out.size)⟩
end Go.Proofs.YtpdkfidmmjlmnabDoor

namespace Go.Proofs.YtpdkfidmmjlmnabDoor
open Go.RowKit

def IsP (p : Int) : Prop := p = 2 ∨ p = 3 ∨ p = 5 ∨ p = 7
theorem IsP.lo {p : Int} (h : IsP p) : 2 ≤ p := by unfold IsP at h; omega
theorem IsP.hi {p : Int} (h : IsP p) : p ≤ 7 := by unfold IsP at h; omega
def RowOk (p n : Int) (xs : List Int) : Prop := (xs.length : Int) = n ∧ ∀ x ∈ xs, 0 ≤ x ∧ x ≤ p - 1
def TabOk (p r c : Int) (t : List (List Int)) : Prop := (t.length : Int) = r ∧ ∀ x ∈ t, RowOk p c x

/-- A call that answers a value and turns nothing. -/
def QW (v : Value) (w : World) (e : Ending) (w' : World) : Prop := e = .returned v ∧ w = w'
/-- .. a truth value that says whether P. -/
def BW (P : Prop) (w : World) (e : Ending) (w' : World) : Prop := ∃ b : Bool, e = .returned (.bool b) ∧ w = w' ∧ (b = true ↔ P)
theorem bw_true {P : Prop} {w : World} (h : P) : BW P w (.returned (.bool true)) w := ⟨true, rfl, rfl, by simp [h]⟩
theorem bw_false {P : Prop} {w : World} (h : ¬ P) : BW P w (.returned (.bool false)) w := ⟨false, rfl, rfl, by simp [h]⟩

theorem all_of_lt {α : Type} {xs : List α} {P : α → Prop} (h : ∀ j (hj : j < xs.length), P xs[j]) : ∀ x ∈ xs, P x := fun x hx => by
  obtain ⟨j, hj, rfl⟩ := List.getElem_of_mem hx
  exact h j hj

theorem in_any (n lo hi : Int) (w : World) : Calls Tryd.prog 55 #[.int .i64 n, .int .i64 lo, .int .i64 hi] w (QW (.bool (decide (lo ≤ n ∧ n ≤ hi))) w) := by
  by_cases h1 : lo ≤ n
  · by_cases h2 : n ≤ hi
    · rw [decide_eq_true ⟨h1, h2⟩]
      go_enter Tryd.func55, Tryd.ntmps55
      go_wp2
      go_ret
      exact ⟨rfl, rfl⟩
    · rw [decide_eq_false (fun h => h2 h.2)]
      go_enter Tryd.func55, Tryd.ntmps55
      go_wp2
      go_ret
      exact ⟨rfl, rfl⟩
  · rw [decide_eq_false (fun h => h1 h.1)]
    go_enter Tryd.func55, Tryd.ntmps55
    go_wp2
    go_ret
    exact ⟨rfl, rfl⟩

theorem spin_any (n lo hi : Int) (w : World) : Calls Tryd.prog 48 #[.int .i64 n, .int .i64 lo, .int .i64 hi] w (QW (.bool (decide (lo ≤ n ∧ n ≤ hi))) w) := by
  by_cases h1 : lo ≤ n
  · by_cases h2 : n ≤ hi
    · rw [decide_eq_true ⟨h1, h2⟩]
      go_enter Tryd.func48, Tryd.ntmps48
      go_wp2
      go_ret
      exact ⟨rfl, rfl⟩
    · rw [decide_eq_false (fun h => h2 h.2)]
      go_enter Tryd.func48, Tryd.ntmps48
      go_wp2
      go_ret
      exact ⟨rfl, rfl⟩
  · rw [decide_eq_false (fun h => h1 h.1)]
    go_enter Tryd.func48, Tryd.ntmps48
    go_wp2
    go_ret
    exact ⟨rfl, rfl⟩

theorem in_yes {n lo hi : Int} (h : lo ≤ n ∧ n ≤ hi) (w : World) : Calls Tryd.prog 55 #[.int .i64 n, .int .i64 lo, .int .i64 hi] w (QW (.bool true) w) := by
  have := in_any n lo hi w
  rwa [decide_eq_true h] at this
theorem in_no {n lo hi : Int} (h : ¬ (lo ≤ n ∧ n ≤ hi)) (w : World) : Calls Tryd.prog 55 #[.int .i64 n, .int .i64 lo, .int .i64 hi] w (QW (.bool false) w) := by
  have := in_any n lo hi w
  rwa [decide_eq_false h] at this
theorem spin_yes {n lo hi : Int} (h : lo ≤ n ∧ n ≤ hi) (w : World) : Calls Tryd.prog 48 #[.int .i64 n, .int .i64 lo, .int .i64 hi] w (QW (.bool true) w) := by
  have := spin_any n lo hi w
  rwa [decide_eq_true h] at this
theorem spin_no {n lo hi : Int} (h : ¬ (lo ≤ n ∧ n ≤ hi)) (w : World) : Calls Tryd.prog 48 #[.int .i64 n, .int .i64 lo, .int .i64 hi] w (QW (.bool false) w) := by
  have := spin_any n lo hi w
  rwa [decide_eq_false h] at this

theorem prime_yes {p : Int} (h : IsP p) (w : World) : Calls Tryd.prog 79 #[.int .i64 p] w (QW (.bool true) w) := by
  rcases h with rfl | rfl | rfl | rfl
  all_goals
    go_enter Tryd.func79, Tryd.ntmps79
    go_wp2
    go_ret
    exact ⟨rfl, rfl⟩
theorem prime_no {p : Int} (h : ¬ IsP p) (w : World) : Calls Tryd.prog 79 #[.int .i64 p] w (QW (.bool false) w) := by
  have h2 : (p == 2) = false := by simp; intro e; exact h (by simp [IsP, e])
  have h3 : (p == 3) = false := by simp; intro e; exact h (by simp [IsP, e])
  have h5 : (p == 5) = false := by simp; intro e; exact h (by simp [IsP, e])
  have h7 : (p == 7) = false := by simp; intro e; exact h (by simp [IsP, e])
  clear h
  go_enter Tryd.func79, Tryd.ntmps79
  go_wp2
  go_ret
  exact ⟨rfl, rfl⟩
theorem spprime_yes {p : Int} (h : IsP p) (w : World) : Calls Tryd.prog 69 #[.int .i64 p] w (QW (.bool true) w) := by
  rcases h with rfl | rfl | rfl | rfl
  all_goals
    go_enter Tryd.func69, Tryd.ntmps69
    go_wp2
    go_ret
    exact ⟨rfl, rfl⟩
theorem spprime_no {p : Int} (h : ¬ IsP p) (w : World) : Calls Tryd.prog 69 #[.int .i64 p] w (QW (.bool false) w) := by
  have h2 : (p == 2) = false := by simp; intro e; exact h (by simp [IsP, e])
  have h3 : (p == 3) = false := by simp; intro e; exact h (by simp [IsP, e])
  have h5 : (p == 5) = false := by simp; intro e; exact h (by simp [IsP, e])
  have h7 : (p == 7) = false := by simp; intro e; exact h (by simp [IsP, e])
  clear h
  go_enter Tryd.func69, Tryd.ntmps69
  go_wp2
  go_ret
  exact ⟨rfl, rfl⟩

/-- All numbers of a row are in lo..hi. -/
def AllIn (lo hi : Int) (xs : List Int) : Prop := ∀ x ∈ xs, lo ≤ x ∧ x ≤ hi
/-- A table of r rows of c numbers in lo..hi. -/
def TabIn (lo hi r c : Int) (t : List (List Int)) : Prop := (t.length : Int) = r ∧ ∀ x ∈ t, (x.length : Int) = c ∧ AllIn lo hi x

set_option maxHeartbeats 800000 in
theorem areWithin_any (lo hi : Int) (v : Value) (xs : List Int) (w : World) (h : L1 0 w v xs) (hm : xs.length ≤ 1048576) :
    Calls Tryd.prog 82 #[v, .int .i64 lo, .int .i64 hi] w (BW (AllIn lo hi xs) w) := by
  refine Sl.cases h (fun ad cap hx hv => ?_) (fun b o cap hv _ hpos hc => ?_)
  · subst hx hv
    go_enter Tryd.func82, Tryd.ntmps82
    go_wp2
    refine wp_loop_rounds 1 ?_
    rw [rounds_succ]
    go_wp2
    go_ret
    exact bw_true (by simp [AllIn])
  · subst hv
    clear h
    have HC := Lib.hid hc
    clear hc
    go_enter Tryd.func82, Tryd.ntmps82
    go_wp2
    go_loop [11] (fun i => ∃ (k : Nat), k ≤ xs.length ∧ i = .int .i64 k ∧ Hid (∀ j (h1 : j < xs.length), j < k → lo ≤ xs[j] ∧ xs[j] ≤ hi)) (fun i => xs.length - (intOf i).toNat)
    case atStart => exact ⟨0, Nat.zero_le _, rfl, Lib.hid (fun _ _ h => absurd h (Nat.not_lt_zero _))⟩
    case round =>
      obtain ⟨k, hk, rfl, HD⟩ := hrel
      by_cases hlt2 : k < xs.length
      · obtain ⟨u, hu, hr⟩ := HC.out k hlt2
        obtain ⟨x, hx⟩ : ∃ x, x = xs[k] := ⟨_, rfl⟩
        rw [hr, ← hx] at hu
        have HX := Lib.hid hx
        clear hx hr
        by_cases hxy : lo ≤ x ∧ x ≤ hi
        · have HXY := Lib.hid hxy
          clear hxy
          go_wp2_with fail
          refine (in_yes HXY.out _).mono ?_
          rintro e w' ⟨rfl, rfl⟩
          go_wp2
          go_round
          case rel => exact ⟨k + 1, by omega, by go_num, Lib.hid (fun j h1 hjk => by
            by_cases e : j = k
            · subst e; rw [← HX.out]; exact HXY.out
            · exact HD.out j h1 (by omega))⟩
          case measure => simp [intOf]; omega
        · have HXY := Lib.hid hxy
          clear hxy
          go_wp2_with fail
          refine (in_no HXY.out _).mono ?_
          rintro e w' ⟨rfl, rfl⟩
          go_wp2
          go_ret
          exact bw_false (fun h => HXY.out (by rw [HX.out]; exact h _ (List.getElem_mem hlt2)))
      · go_wp2
        go_ret
        exact bw_true (all_of_lt (fun j hj => HD.out j hj (by omega)))

set_option maxHeartbeats 800000 in
theorem isTableWithin_any (lo hi r c : Int) (v : Value) (xs : List (List Int)) (w : World) (h : L2 0 w v xs) (hm : Bd2 1048576 xs) :
    Calls Tryd.prog 73 #[v, .int .i64 r, .int .i64 c, .int .i64 lo, .int .i64 hi] w (BW (TabIn lo hi r c xs) w) := by
  have hm0 : xs.length ≤ 1048576 := hm.1
  have HM := Lib.hid hm
  clear hm
  by_cases hl : (xs.length : Int) = r
  · refine Sl.cases h (fun ad cap hx hv => ?_) (fun b o cap hv _ hpos hc => ?_)
    · subst hx hv
      subst hl
      go_enter Tryd.func73, Tryd.ntmps73
      go_wp2
      refine wp_loop_rounds 1 ?_
      rw [rounds_succ]
      go_wp2
      go_ret
      exact bw_true ⟨rfl, by simp⟩
    · subst hv
      subst hl
      clear h
      have HC := Lib.hid hc
      clear hc
      go_enter Tryd.func73, Tryd.ntmps73
      go_wp2
      go_loop [19] (fun i => ∃ (k : Nat), k ≤ xs.length ∧ i = .int .i64 k ∧ Hid (∀ j (h1 : j < xs.length), j < k → ((xs[j]).length : Int) = c ∧ AllIn lo hi xs[j])) (fun i => xs.length - (intOf i).toNat)
      case atStart => exact ⟨0, Nat.zero_le _, rfl, Lib.hid (fun _ _ h => absurd h (Nat.not_lt_zero _))⟩
      case round =>
        obtain ⟨k, hk, rfl, HD⟩ := hrel
        by_cases hlt2 : k < xs.length
        · obtain ⟨u, hu, hr⟩ := HC.out k hlt2
          have hml : (xs[k]).length ≤ 1048576 := HM.out.2 _ (List.getElem_mem hlt2)
          have HR := Lib.hid (fun W => areWithin_any lo hi u xs[k] W)
          obtain ⟨ys, hy⟩ : ∃ ys, ys = xs[k] := ⟨_, rfl⟩
          rw [← hy] at hr hml HR
          have HY := Lib.hid hy
          clear hy
          have HA := Lib.hid (HR.out _ hr hml)
          clear HR
          obtain ⟨ad, cap, rfl⟩ := Sl.shape hr
          clear hr
          by_cases hlc : (ys.length : Int) = c
          · have hq : ((ys.length : Int) != c) = false := by simp [hlc]
            have hq2 : ((ys.length : Int) == c) = true := by simp [hlc]
            have HLC := Lib.hid hlc
            clear hlc
            go_wp2_with fail
            refine HA.out.mono ?_
            rintro e w' ⟨bb, rfl, rfl, hbb⟩
            have HBB := Lib.hid hbb
            clear hbb
            cases bb with
            | true =>
              go_wp2
              go_round
              case rel => exact ⟨k + 1, by omega, by go_num, Lib.hid (fun j h1 hjk => by
                by_cases e : j = k
                · subst e; rw [← HY.out]; exact ⟨HLC.out, HBB.out.1 (by simp)⟩
                · exact HD.out j h1 (by omega))⟩
              case measure => simp [intOf]; omega
            | false =>
              go_wp2
              go_ret
              exact bw_false (fun h => absurd (HBB.out.2 (by rw [HY.out]; exact (h.2 _ (List.getElem_mem hlt2)).2)) (by simp))
          · have hq : ((ys.length : Int) != c) = true := by simp [hlc]
            have hq2 : ((ys.length : Int) == c) = false := by simp [hlc]
            have HLC := Lib.hid hlc
            clear hlc
            go_wp2
            go_ret
            exact bw_false (fun h => HLC.out (by rw [HY.out]; exact (h.2 _ (List.getElem_mem hlt2)).1))
        · go_wp2
          go_ret
          exact bw_true ⟨rfl, all_of_lt (fun j hj => HD.out j hj (by omega))⟩
  · obtain ⟨ad, cap, rfl⟩ := Sl.shape h
    clear h
    have hq : ((xs.length : Int) != r) = true := by simp [hl]
    have hq2 : ((xs.length : Int) == r) = false := by simp [hl]
    have HL := Lib.hid hl
    clear hl
    go_enter Tryd.func73, Tryd.ntmps73
    go_wp2
    go_ret
    exact bw_false (fun h => HL.out h.1)

theorem isTable_any (p r c : Int) (v : Value) (xs : List (List Int)) (w : World) (hp : IsP p) (h : L2 0 w v xs) (hm : Bd2 1048576 xs) :
    Calls Tryd.prog 62 #[.int .i64 p, v, .int .i64 r, .int .i64 c] w (BW (TabOk p r c xs) w) := by
  have hp0 := hp.lo
  have hp1 := hp.hi
  have HA := Lib.hid (isTableWithin_any 0 (p - 1) r c v xs w h hm)
  obtain ⟨ad, cap, rfl⟩ := Sl.shape h
  clear h hm
  go_enter Tryd.func62, Tryd.ntmps62
  go_wp2_with fail
  refine HA.out.mono ?_
  rintro e w' ⟨bb, rfl, rfl, hbb⟩
  have HBB := Lib.hid hbb
  clear hbb
  go_wp2
  go_ret
  exact ⟨bb, rfl, rfl, HBB.out⟩
end Go.Proofs.YtpdkfidmmjlmnabDoor

namespace Go.Proofs.YtpdkfidmmjlmnabDoor
open Go.RowKit

set_option maxHeartbeats 1600000 in
theorem l01Table_any (p r c : Int) (v : Value) (xs : List (List Int)) (w : World) (hp : IsP p) (h : L2 0 w v xs) (hm : Bd2 1048576 xs) :
    Calls Tryd.prog 70 #[.int .i64 p, v, .int .i64 r, .int .i64 c] w (BW (TabOk p r c xs) w) := by
  have hm0 : xs.length ≤ 1048576 := hm.1
  have HM := Lib.hid hm
  have hp0 := hp.lo
  have hp1 := hp.hi
  clear hm hp
  by_cases hl : (xs.length : Int) = r
  · refine Sl.cases h (fun ad cap hx hv => ?_) (fun b o cap hv _ hpos hc => ?_)
    · subst hx hv
      subst hl
      go_enter Tryd.func70, Tryd.ntmps70
      go_wp2
      refine wp_loop_rounds 1 ?_
      rw [rounds_succ]
      go_wp2
      go_ret
      exact bw_true ⟨rfl, by simp⟩
    · subst hv
      subst hl
      clear h
      have HC := Lib.hid hc
      clear hc
      go_enter Tryd.func70, Tryd.ntmps70
      go_wp2
      go_loop [9, 10] (fun i _ => ∃ (k : Nat), k ≤ xs.length ∧ i = .int .i64 k ∧ Hid (∀ j (h1 : j < xs.length), j < k → RowOk p c xs[j])) (fun i _ => xs.length - (intOf i).toNat)
      case atStart => exact ⟨0, Nat.zero_le _, rfl, Lib.hid (fun _ _ h => absurd h (Nat.not_lt_zero _))⟩
      case round =>
        obtain ⟨k, hk, rfl, HD⟩ := hrel
        by_cases hlt2 : k < xs.length
        · obtain ⟨u, hu, hr⟩ := HC.out k hlt2
          have hml : (xs[k]).length ≤ 1048576 := HM.out.2 _ (List.getElem_mem hlt2)
          obtain ⟨ys, hy⟩ : ∃ ys, ys = xs[k] := ⟨_, rfl⟩
          rw [← hy] at hr hml
          have HY := Lib.hid hy
          clear hy
          by_cases hlc : (ys.length : Int) = c
          · refine Sl.cases hr (fun ad2 cap2 hx hv => ?_) (fun b2 o2 cap2 hv _ hpos2 hc2 => ?_)
            · subst hv
              have hc0 : ((0 : Int) != c) = false := by rw [← hlc, hx]; rfl
              have hc1 : ((0 : Int) == c) = true := by rw [← hlc, hx]; rfl
              have HX := Lib.hid hx
              have HLC := Lib.hid hlc
              clear hx hlc hr
              go_wp2
              refine wp_loop_rounds 1 ?_
              rw [rounds_succ]
              go_wp2
              go_round
              case rel => exact ⟨k + 1, by omega, by go_num, Lib.hid (fun j h1 hjk => by
                by_cases e : j = k
                · subst e; rw [← HY.out]; exact ⟨HLC.out, by simp [HX.out]⟩
                · exact HD.out j h1 (by omega))⟩
              case measure => simp [intOf]; omega
            · subst hv
              have hc0 : ((ys.length : Int) != c) = false := by rw [hlc]; simp
              have hc1 : ((ys.length : Int) == c) = true := by rw [hlc]; simp
              have HLC := Lib.hid hlc
              have HC2 := Lib.hid hc2
              clear hlc hr hc2
              go_wp2
              go_loop [10] (fun i => ∃ (q : Nat), q ≤ ys.length ∧ i = .int .i64 q ∧ Hid (∀ j (h1 : j < ys.length), j < q → 0 ≤ ys[j] ∧ ys[j] ≤ p - 1)) (fun i => ys.length - (intOf i).toNat)
              case atStart => exact ⟨0, Nat.zero_le _, rfl, Lib.hid (fun _ _ h => absurd h (Nat.not_lt_zero _))⟩
              case round =>
                obtain ⟨q, hq, rfl, HD2⟩ := hrel
                by_cases hlt3 : q < ys.length
                · obtain ⟨u2, hu2, hr2⟩ := HC2.out q hlt3
                  obtain ⟨x, hx⟩ : ∃ x, x = ys[q] := ⟨_, rfl⟩
                  rw [hr2, ← hx] at hu2
                  have HX := Lib.hid hx
                  clear hx hr2
                  by_cases hxy : 0 ≤ x ∧ x ≤ p - 1
                  · have HXY := Lib.hid hxy
                    clear hxy
                    go_wp2_with fail
                    refine (spin_yes HXY.out _).mono ?_
                    rintro e w' ⟨rfl, rfl⟩
                    go_wp2
                    go_round
                    case rel => exact ⟨q + 1, by omega, by go_num, Lib.hid (fun j h1 hjk => by
                      by_cases e : j = q
                      · subst e; rw [← HX.out]; exact HXY.out
                      · exact HD2.out j h1 (by omega))⟩
                    case measure => simp [intOf]; omega
                  · have HXY := Lib.hid hxy
                    clear hxy
                    go_wp2_with fail
                    refine (spin_no HXY.out _).mono ?_
                    rintro e w' ⟨rfl, rfl⟩
                    go_wp2
                    go_ret
                    exact bw_false (fun h => HXY.out (by
                      rw [HX.out]
                      exact (h.2 ys (by rw [HY.out]; exact List.getElem_mem hlt2)).2 _ (List.getElem_mem hlt3)))
                · go_wp2
                  go_round
                  case rel => exact ⟨k + 1, by omega, by go_num, Lib.hid (fun j h1 hjk => by
                    by_cases e : j = k
                    · subst e; rw [← HY.out]; exact ⟨HLC.out, all_of_lt (fun j2 hj2 => HD2.out j2 hj2 (by omega))⟩
                    · exact HD.out j h1 (by omega))⟩
                  case measure => simp [intOf]; omega
          · obtain ⟨ad2, cap2, rfl⟩ := Sl.shape hr
            have hc0 : ((ys.length : Int) != c) = true := by simp [hlc]
            have hc1 : ((ys.length : Int) == c) = false := by simp [hlc]
            have HLC := Lib.hid hlc
            clear hlc hr
            go_wp2
            go_ret
            exact bw_false (fun h => HLC.out (h.2 ys (by rw [HY.out]; exact List.getElem_mem hlt2)).1)
        · go_wp2
          go_ret
          exact bw_true ⟨rfl, all_of_lt (fun j hj => HD.out j hj (by omega))⟩
  · obtain ⟨ad, cap, rfl⟩ := Sl.shape h
    clear h
    have hq : ((xs.length : Int) != r) = true := by simp [hl]
    have hq2 : ((xs.length : Int) == r) = false := by simp [hl]
    have HL := Lib.hid hl
    clear hl
    go_enter Tryd.func70, Tryd.ntmps70
    go_wp2
    go_ret
    exact bw_false (fun h => HL.out h.1)

/-- Where the first number other than 0 stands, or -1. -/
def leadOf : List Int → Int
  | [] => -1
  | x :: xs => if x = 0 then (let r := leadOf xs; if r < 0 then -1 else r + 1) else 0

theorem leadOf_zero {xs : List Int} (h : ∀ j (hj : j < xs.length), xs[j] = 0) : leadOf xs = -1 := by
  induction xs with
  | nil => rfl
  | cons x xs ih =>
    have h0 : x = 0 := h 0 (by simp)
    have ih' := ih (fun j hj => h (j + 1) (by simpa using hj))
    simp [leadOf, h0, ih']
theorem leadOf_at {xs : List Int} : ∀ {k : Nat} (hk : k < xs.length), (∀ j (hj : j < xs.length), j < k → xs[j] = 0) → xs[k] ≠ 0 → leadOf xs = k := by
  induction xs with
  | nil => intro k hk; simp at hk
  | cons x xs ih =>
    intro k hk h hne
    cases k with
    | zero => simp at hne; simp [leadOf, hne]
    | succ k =>
      have h0 : x = 0 := h 0 (by simp) (by omega)
      have := ih (k := k) (by simpa using hk) (fun j hj hjk => h (j + 1) (by simpa using hj) (by omega)) (by simpa using hne)
      simp only [leadOf, h0, if_true, this]
      rw [if_neg (by omega)]
      omega

set_option maxHeartbeats 800000 in
theorem l01Lead_any (v : Value) (xs : List Int) (w : World) (h : L1 0 w v xs) (hm : xs.length ≤ 1048576) :
    Calls Tryd.prog 71 #[v] w (QW (.int .i64 (leadOf xs)) w) := by
  refine Sl.cases h (fun ad cap hx hv => ?_) (fun b o cap hv _ hpos hc => ?_)
  · subst hx hv
    go_enter Tryd.func71, Tryd.ntmps71
    go_wp2
    refine wp_loop_rounds 1 ?_
    rw [rounds_succ]
    go_wp2
    go_ret
    exact ⟨rfl, rfl⟩
  · subst hv
    clear h
    have HC := Lib.hid hc
    clear hc
    go_enter Tryd.func71, Tryd.ntmps71
    go_wp2
    go_loop [3] (fun i => ∃ (k : Nat), k ≤ xs.length ∧ i = .int .i64 k ∧ Hid (∀ j (h1 : j < xs.length), j < k → xs[j] = 0)) (fun i => xs.length - (intOf i).toNat)
    case atStart => exact ⟨0, Nat.zero_le _, rfl, Lib.hid (fun _ _ h => absurd h (Nat.not_lt_zero _))⟩
    case round =>
      obtain ⟨k, hk, rfl, HD⟩ := hrel
      by_cases hlt2 : k < xs.length
      · obtain ⟨u, hu, hr⟩ := HC.out k hlt2
        obtain ⟨x, hx⟩ : ∃ x, x = xs[k] := ⟨_, rfl⟩
        rw [hr, ← hx] at hu
        have HX := Lib.hid hx
        clear hx hr
        by_cases hxy : x = 0
        · subst hxy
          go_wp2
          go_round
          case rel => exact ⟨k + 1, by omega, by go_num, Lib.hid (fun j h1 hjk => by
            by_cases e : j = k
            · subst e; exact HX.out.symm
            · exact HD.out j h1 (by omega))⟩
          case measure => simp [intOf]; omega
        · have hq : (x != 0) = true := by simp [hxy]
          have hq2 : (x == 0) = false := by simp [hxy]
          have HXY := Lib.hid hxy
          clear hxy
          go_wp2
          go_ret
          exact ⟨ret_int (leadOf_at hlt2 HD.out (by rw [← HX.out]; exact HXY.out)).symm, rfl⟩
      · go_wp2
        go_ret
        exact ⟨ret_int (leadOf_zero (fun j hj => HD.out j hj (by omega))).symm, rfl⟩
end Go.Proofs.YtpdkfidmmjlmnabDoor

namespace Go.Proofs.YtpdkfidmmjlmnabDoor
open Go.RowKit

def apRow (p f : Int) (acc row : List Int) : List Int := List.zipWith (fun a x => (a + f * x) % p) acc row
/-- The sum of the first k numbers of v times the first k rows of t, modulo p. -/
def apTo (p : Int) (c : Nat) (v : List Int) (t : List (List Int)) : Nat → List Int
  | 0 => List.replicate c 0
  | k + 1 => apRow p (v.getD k 0) (apTo p c v t k) (t.getD k [])
def apT (p : Int) (c : Nat) (v : List Int) (t : List (List Int)) : List Int := apTo p c v t v.length

/-- What a table has to be for a vector of numbers modulo p. -/
structure ApOk (p : Int) (c : Nat) (v : List Int) (t : List (List Int)) : Prop where
  prime : IsP p
  len : v.length ≤ t.length
  nums : ∀ x ∈ v, 0 ≤ x ∧ x ≤ p - 1
  rows : ∀ r ∈ t, RowOk p c r

theorem getD_of_lt {α : Type} {xs : List α} {k : Nat} (d : α) (h : k < xs.length) : xs.getD k d = xs[k] := by simp [List.getD, h]

theorem ApOk.row {p : Int} {c : Nat} {v : List Int} {t : List (List Int)} (h : ApOk p c v t) {k : Nat} (hk : k < v.length) : RowOk p c (t.getD k []) := by
  have hl := h.len
  rw [getD_of_lt _ (by omega)]
  exact h.rows _ (List.getElem_mem _)
theorem ApOk.num {p : Int} {c : Nat} {v : List Int} {t : List (List Int)} (h : ApOk p c v t) {k : Nat} (hk : k < v.length) : 0 ≤ v.getD k 0 ∧ v.getD k 0 ≤ p - 1 := by
  rw [getD_of_lt _ hk]
  exact h.nums _ (List.getElem_mem _)

theorem apTo_length {p : Int} {c : Nat} {v : List Int} {t : List (List Int)} (h : ApOk p c v t) : ∀ {k : Nat}, k ≤ v.length → (apTo p c v t k).length = c := by
  intro k
  induction k with
  | zero => intro _; simp [apTo]
  | succ k ih =>
    intro hk
    have hr := (h.row (k := k) (by omega)).1
    simp only [apTo, apRow, List.length_zipWith, ih (by omega)]
    omega
theorem apTo_at {p : Int} {c : Nat} {v : List Int} {t : List (List Int)} (h : ApOk p c v t) {k q : Nat} (hk : k < v.length) (hq : q < c) :
    (apTo p c v t (k + 1)).getD q 0 = ((apTo p c v t k).getD q 0 + v.getD k 0 * (t.getD k []).getD q 0) % p := by
  have hr := (h.row hk).1
  have hl := apTo_length h (Nat.le_of_lt hk)
  have hl2 := apTo_length h (k := k + 1) hk
  have q2 : q < (t.getD k []).length := by omega
  have q1 : q < (apTo p c v t (k + 1)).length := by omega
  have q3 : q < (apTo p c v t k).length := by omega
  rw [getD_of_lt _ q1, getD_of_lt _ q2, getD_of_lt _ q3]
  simp only [apTo, apRow, List.getElem_zipWith]
theorem apTo_mod {p : Int} {c : Nat} {v : List Int} {t : List (List Int)} (h : ApOk p c v t) : ∀ {k : Nat}, k ≤ v.length → ∀ q, 0 ≤ (apTo p c v t k).getD q 0 ∧ (apTo p c v t k).getD q 0 ≤ p - 1 := by
  intro k hk q
  have hp0 := h.prime.lo
  by_cases hq : q < c
  · cases k with
    | zero => simp [apTo, List.getD, hq]; omega
    | succ k =>
      rw [apTo_at h (by omega) hq]
      have h1 := Int.emod_nonneg ((apTo p c v t k).getD q 0 + v.getD k 0 * (t.getD k []).getD q 0) (show p ≠ 0 by omega)
      have h2 := Int.emod_lt_of_pos ((apTo p c v t k).getD q 0 + v.getD k 0 * (t.getD k []).getD q 0) (show 0 < p by omega)
      omega
  · have hl := apTo_length h hk
    have : (apTo p c v t k).getD q 0 = 0 := by simp [List.getD, show (apTo p c v t k).length ≤ q by omega]
    rw [this]
    omega

/-- The row of sums while it is being made: k numbers of v are done, and of the next one the first q places. -/
def apCell (p : Int) (c : Nat) (v : List Int) (t : List (List Int)) (k q : Nat) : Nat → Value := fun j => .int .i64 (if j < q then (apTo p c v t (k + 1)).getD j 0 else (apTo p c v t k).getD j 0)
structure Ap (w wr : World) (ty : TypeId) (p : Int) (c : Nat) (v : List Int) (t : List (List Int)) (k q : Nat) : Prop where
  below : Below w.heap.size w wr
  row : wr.rowIs w.heap.size ty c (apCell p c v t k q)

theorem Ap.start (w : World) (ty : TypeId) (p : Int) (c : Nat) (v : List Int) (t : List (List Int)) : Ap w (w.alloc (.cells (madeCells #[.int .i64 0] c) ty)) ty p c v t 0 0 :=
  ⟨(Below.refl _ _).alloc (Nat.le_refl _) _, (World.rowIs_made w (.int .i64 0) c ty).congr (fun j hj => by simp [apCell, apTo, List.getD, hj])⟩
theorem Ap.drew {w wr : World} {ty : TypeId} {p : Int} {c : Nat} {v : List Int} {t : List (List Int)} {k q : Nat} (h : Ap w wr ty p c v t k q) : Ap w wr.drew ty p c v t k q := ⟨h.below.drew, h.row.drew⟩
theorem Ap.step {w wr : World} {ty : TypeId} {p : Int} {c : Nat} {v : List Int} {t : List (List Int)} {k q : Nat} (ok : ApOk p c v t) (h : Ap w wr ty p c v t k q) (hk : k < v.length) (hq : q < c) {x : Int}
    (hx : x = ((apTo p c v t k).getD q 0 + v.getD k 0 * (t.getD k []).getD q 0) % p) : Ap w (wr.setCell ⟨w.heap.size, q, none⟩ (.int .i64 x)) ty p c v t k (q + 1) := by
  refine ⟨h.below.setCell (Nat.le_refl _) _, (h.row.set q _).congr (fun j hj => ?_)⟩
  by_cases e : j = q
  · subst e
    simp only [apCell, if_true]
    rw [if_pos (Nat.lt_succ_self _), apTo_at ok hk hq, hx]
  · rw [if_neg e]
    simp only [apCell]
    by_cases h2 : j < q
    · rw [if_pos h2, if_pos (by omega)]
    · rw [if_neg h2, if_neg (by omega)]
theorem Ap.next {w wr : World} {ty : TypeId} {p : Int} {c : Nat} {v : List Int} {t : List (List Int)} {k : Nat} (h : Ap w wr ty p c v t k c) : Ap w wr ty p c v t (k + 1) 0 :=
  ⟨h.below, h.row.congr (fun j hj => by simp [apCell, hj])⟩
theorem Ap.cell {w wr : World} {ty : TypeId} {p : Int} {c : Nat} {v : List Int} {t : List (List Int)} {k q : Nat} (h : Ap w wr ty p c v t k q) (hq : q < c) :
    wr.cell? ⟨w.heap.size, q, none⟩ = some (.int .i64 ((apTo p c v t k).getD q 0)) := by
  have := h.row.cell hq
  simpa [apCell] using this
theorem Ap.done {w wr : World} {ty : TypeId} {p : Int} {c : Nat} {v : List Int} {t : List (List Int)} (ok : ApOk p c v t) (h : Ap w wr ty p c v t v.length 0) : L1 w.heap.size wr (.slice (some ⟨w.heap.size, 0, none⟩) c c) (apT p c v t) := by
  have hl := apTo_length ok (Nat.le_refl _)
  by_cases h0 : c = 0
  · subst h0
    exact Or.inl ⟨List.eq_nil_of_length_eq_zero hl, _, _, rfl⟩
  · refine Or.inr ⟨w.heap.size, 0, c, by rw [apT, hl], Nat.le_refl _, by rw [apT, hl]; omega, fun j hj => ⟨_, h.row.cell (by rw [apT, hl] at hj; omega), ?_⟩⟩
    have hj' : j < (apTo p c v t v.length).length := hj
    simp only [apCell, IsI, Nat.not_lt_zero, if_false, apT, Nat.zero_add]
    rw [getD_of_lt _ hj']

def ApR (p : Int) (c : Nat) (v : List Int) (t : List (List Int)) (w : World) (e : Ending) (w' : World) : Prop := ∃ u, e = .returned u ∧ L1 w.heap.size w' u (apT p c v t) ∧ Below w.heap.size w w'

set_option maxHeartbeats 1600000 in
theorem applyTable_any (p : Int) (c : Nat) (va vt : Value) (v : List Int) (t : List (List Int)) (w : World) (ok : ApOk p c v t) (ha : L1 0 w va v) (ht : L2 0 w vt t) (hv : v.length ≤ 1048576) (hc : c ≤ 1048576) :
    Calls Tryd.prog 77 #[.int .i64 p, va, vt, .int .i64 c] w (ApR p c v t w) := by
  have hmk := run_make_row' (P := Tryd.prog) 22 2 (.int .i64 0) 8 Tryd.underlying22 Tryd.infoI rfl .i64 .i64 c (by omega) (by omega)
  have hp0 := ok.prime.lo
  have hp1 := ok.prime.hi
  have OK := Lib.hid ok
  clear ok
  refine Sl.cases ha (fun ad cap hx hv' => ?_) (fun b o cap hv' _ hpos hcl => ?_)
  · subst hx hv'
    clear ha ht
    go_enter Tryd.func77, Tryd.ntmps77
    go_wp2
    refine wp_loop_rounds 1 ?_
    rw [rounds_succ]
    go_wp2
    go_ret
    exact ⟨_, rfl, Ap.done OK.out (Ap.start _ _ _ _ _ _), (Below.refl _ _).alloc (Nat.le_refl _) _⟩
  · refine Sl.cases ht (fun ad2 cap2 hx2 hv2 => absurd OK.out.len (by subst hx2; simp only [List.length_nil]; omega)) (fun b2 o2 cap2 hv2 _ hpos2 hcl2 => ?_)
    subst hv' hv2
    clear ha ht
    have hlen := OK.out.len
    have HC := Lib.hid hcl
    have HC2 := Lib.hid hcl2
    clear hcl hcl2
    go_enter Tryd.func77, Tryd.ntmps77
    go_wp2
    clear hmk
    go_loopw [18] (fun i wr => ∃ (k : Nat), k ≤ v.length ∧ i = .int .i64 k ∧ Ap w wr 2 p c v t k 0) (fun i _ => v.length - (intOf i).toNat)
    case atStart => exact ⟨0, Nat.zero_le _, rfl, Ap.start _ _ _ _ _ _⟩
    case round =>
      obtain ⟨k, hk, rfl, HA⟩ := hrel
      by_cases hlt2 : k < v.length
      · have hlt3 : k < t.length := by omega
        obtain ⟨u, hu, hr⟩ := HC.out k hlt2
        obtain ⟨u2, hu2, hr2⟩ := HC2.out k hlt3
        have hnum := OK.out.num hlt2
        have hrow := OK.out.row hlt2
        rw [getD_of_lt _ hlt2] at hnum
        rw [getD_of_lt _ hlt3] at hrow
        obtain ⟨f, hf⟩ : ∃ f, f = v[k] := ⟨_, rfl⟩
        obtain ⟨ys, hy⟩ : ∃ ys, ys = t[k] := ⟨_, rfl⟩
        rw [← hf] at hnum
        rw [← hy] at hrow hr2
        obtain ⟨hf0, hf1⟩ := hnum
        have hu' : wr.cell? ⟨b, o + k, none⟩ = some (.int .i64 f) := by rw [HA.below.cell (p := ⟨b, o + k, none⟩) (cell_lt hu), hu, hr, hf]
        have hu2' : wr.cell? ⟨b2, o2 + k, none⟩ = some u2 := by rw [HA.below.cell (p := ⟨b2, o2 + k, none⟩) (cell_lt hu2), hu2]
        have HF := Lib.hid hf
        have HY := Lib.hid hy
        have HROW := Lib.hid hrow
        have HA' := Lib.hid HA
        clear hf hy hrow HA hu hr hu2
        refine Sl.cases hr2 (fun ad3 cap3 hx3 hv3 => ?_) (fun b3 o3 cap3 hv3 _ hpos3 hcl3 => ?_)
        · subst hv3
          have hc0 : Hid (c = 0) := Lib.hid (by have := HROW.out.1; rw [hx3] at this; simpa using this.symm)
          clear hx3 hr2
          go_wp2
          refine wp_loop_rounds 1 ?_
          rw [rounds_succ]
          go_wp2
          go_roundw
          case rel => exact ⟨k + 1, by omega, by go_num, Ap.next (by rw [hc0.out]; have := HA'.out; rwa [hc0.out] at this)⟩
          case measure => simp [intOf]; omega
        · subst hv3
          have hyc : ys.length = c := by have := HROW.out.1; omega
          have HYC := Lib.hid hyc
          have HC3 := Lib.hid hcl3
          clear hyc hr2 hcl3
          obtain ⟨wo, hwo⟩ : ∃ wo : World, wo = wr := ⟨_, rfl⟩
          have HWO := Lib.hid hwo
          clear hwo
          go_wp2
          go_loopw [28] (fun i wr => ∃ (q : Nat), q ≤ ys.length ∧ i = .int .i64 q ∧ Ap w wr 2 p c v t k q) (fun i _ => ys.length - (intOf i).toNat)
          case atStart => exact ⟨0, Nat.zero_le _, rfl, HA'.out⟩
          case round =>
            obtain ⟨q, hq, rfl, HB⟩ := hrel
            by_cases hlt4 : q < ys.length
            · have hqc : q < c := by have := HYC.out; omega
              obtain ⟨u3, hu3, hr3⟩ := HC3.out q hlt4
              have hx := HROW.out.2 _ (List.getElem_mem hlt4)
              obtain ⟨x, hxx⟩ : ∃ x, x = ys[q] := ⟨_, rfl⟩
              obtain ⟨a, haa⟩ : ∃ a, a = (apTo p c v t k).getD q 0 := ⟨_, rfl⟩
              have hab := apTo_mod OK.out (Nat.le_of_lt hlt2) q
              have hac := HB.cell hqc
              have hfz := HB.row.frozen q
              rw [← haa] at hab hac
              rw [← hxx] at hx
              obtain ⟨hx0, hx1⟩ := hx
              obtain ⟨ha0, ha1⟩ := hab
              have hu3' : wr.cell? ⟨b3, o3 + q, none⟩ = some (.int .i64 x) := by rw [HB.below.cell (p := ⟨b3, o3 + q, none⟩) (cell_lt hu3), hu3, hr3, hxx]
              have m0 : 0 ≤ f * x := Int.mul_nonneg hf0 hx0
              have m1 : f * x ≤ 36 := Int.le_trans (Int.mul_le_mul (show f ≤ 6 by omega) (show x ≤ 6 by omega) hx0 (by omega)) (by omega)
              have HS := Lib.hid (HB.step OK.out hlt2 hqc (x := (a + f * x) % p) (by rw [haa, HF.out, hxx, getD_of_lt _ hlt2, getD_of_lt _ hlt3, ← HY.out, getD_of_lt _ hlt4]))
              clear HB hu3 hr3 haa hxx
              go_wp2
              go_roundw
              case rel => exact ⟨q + 1, by omega, by go_num, HS.out⟩
              case measure => simp [intOf]; omega
            · have HB' := Lib.hid HB
              have hqc : Hid (q = c) := Lib.hid (by have := HYC.out; omega)
              clear HB
              go_wp2
              go_roundw
              case rel => exact ⟨k + 1, by omega, by go_num, Ap.next (by have := HB'.out; rwa [hqc.out] at this)⟩
              case measure => simp [intOf]; omega
      · have hkk : k = v.length := by omega
        subst hkk
        have HA' := Lib.hid HA
        clear HA
        go_wp2
        go_ret
        exact ⟨_, rfl, Ap.done OK.out HA'.out, HA'.out.below⟩
end Go.Proofs.YtpdkfidmmjlmnabDoor

namespace Go.Proofs.YtpdkfidmmjlmnabDoor
open Go.RowKit

set_option maxHeartbeats 3200000 in
theorem l01Apply_any (p : Int) (c : Nat) (va vt : Value) (v : List Int) (t : List (List Int)) (w : World) (ok : ApOk p c v t) (ha : L1 0 w va v) (ht : L2 0 w vt t) (hv : v.length ≤ 1048576) (hc : c ≤ 1048576) :
    Calls Tryd.prog 49 #[.int .i64 p, vt, va, .int .i64 c] w (ApR p c v t w) := by
  have hmk := run_make_row' (P := Tryd.prog) 22 2 (.int .i64 0) 8 Tryd.underlying22 Tryd.infoI rfl .i64 .i64 c (by omega) (by omega)
  have hp0 := ok.prime.lo
  have hp1 := ok.prime.hi
  have OK := Lib.hid ok
  clear ok
  refine Sl.cases ha (fun ad cap hx hv' => ?_) (fun b o cap hv' _ hpos hcl => ?_)
  · subst hx hv'
    clear ha ht
    go_enter Tryd.func49, Tryd.ntmps49
    go_wp2
    refine wp_loop_rounds 1 ?_
    rw [rounds_succ]
    go_wp2
    go_ret
    exact ⟨_, rfl, Ap.done OK.out (Ap.start _ _ _ _ _ _), (Below.refl _ _).alloc (Nat.le_refl _) _⟩
  · refine Sl.cases ht (fun ad2 cap2 hx2 hv2 => absurd OK.out.len (by subst hx2; simp only [List.length_nil]; omega)) (fun b2 o2 cap2 hv2 _ hpos2 hcl2 => ?_)
    subst hv' hv2
    clear ha ht
    have hlen := OK.out.len
    have HC := Lib.hid hcl
    have HC2 := Lib.hid hcl2
    clear hcl hcl2
    go_enter Tryd.func49, Tryd.ntmps49
    go_wp2
    clear hmk
    go_loopw [10, 11] (fun i _ wr => ∃ (k : Nat), k ≤ v.length ∧ i = .int .i64 k ∧ Ap w wr 2 p c v t k 0) (fun i _ _ => v.length - (intOf i).toNat)
    case atStart => exact ⟨0, Nat.zero_le _, rfl, Ap.start _ _ _ _ _ _⟩
    case round =>
      obtain ⟨k, hk, rfl, HA⟩ := hrel
      by_cases hlt2 : k < v.length
      · have hlt3 : k < t.length := by omega
        obtain ⟨u, hu, hr⟩ := HC.out k hlt2
        obtain ⟨u2, hu2, hr2⟩ := HC2.out k hlt3
        have hnum := OK.out.num hlt2
        have hrow := OK.out.row hlt2
        rw [getD_of_lt _ hlt2] at hnum
        rw [getD_of_lt _ hlt3] at hrow
        obtain ⟨f, hf⟩ : ∃ f, f = v[k] := ⟨_, rfl⟩
        obtain ⟨ys, hy⟩ : ∃ ys, ys = t[k] := ⟨_, rfl⟩
        rw [← hf] at hnum
        rw [← hy] at hrow hr2
        obtain ⟨hf0, hf1⟩ := hnum
        have HU : Hid (w.cell? ⟨b, o + k, none⟩ = some (.int .i64 f)) := Lib.hid (by rw [hu, hr, hf])
        have HU2 := Lib.hid hu2
        have HF := Lib.hid hf
        have HY := Lib.hid hy
        have HROW := Lib.hid hrow
        have HR2 := Lib.hid hr2
        have HA' := Lib.hid HA
        clear hf hy hrow HA hu hr hu2 hr2
        obtain ⟨wo, hwo⟩ : ∃ wo : World, wo = wr := ⟨_, rfl⟩
        have HWO := Lib.hid hwo
        clear hwo
        go_wp2
        go_loopw [11] (fun i wr => ∃ (q : Nat), q ≤ c ∧ i = .int .i64 q ∧ Ap w wr 2 p c v t k q) (fun i _ => c - (intOf i).toNat)
        case atStart => exact ⟨0, Nat.zero_le _, rfl, HA'.out⟩
        case round =>
          obtain ⟨q, hq, rfl, HB⟩ := hrel
          by_cases hlt4 : q < c
          · have hl5 : q < ys.length := by have := HROW.out.1; omega
            refine Sl.cases HR2.out (fun ad3 cap3 hx3 hv3 => absurd hl5 (by subst hx3; simp)) (fun b3 o3 cap3 hv3 _ hpos3 hcl3 => ?_)
            obtain ⟨u3, hu3, hr3⟩ := hcl3 q hl5
            have hx := HROW.out.2 _ (List.getElem_mem hl5)
            obtain ⟨x, hxx⟩ : ∃ x, x = ys[q] := ⟨_, rfl⟩
            obtain ⟨a, haa⟩ : ∃ a, a = (apTo p c v t k).getD q 0 := ⟨_, rfl⟩
            have hab := apTo_mod OK.out (Nat.le_of_lt hlt2) q
            have hac := HB.cell hlt4
            have hfz := HB.row.frozen q
            rw [← haa] at hab hac
            rw [← hxx] at hx
            obtain ⟨hx0, hx1⟩ := hx
            obtain ⟨ha0, ha1⟩ := hab
            have hu' : wr.cell? ⟨b, o + k, none⟩ = some (.int .i64 f) := by rw [HB.below.cell (p := ⟨b, o + k, none⟩) (cell_lt HU.out)]; exact HU.out
            have hu2' : wr.cell? ⟨b2, o2 + k, none⟩ = some (.slice (some ⟨b3, o3, none⟩) ys.length cap3) := by rw [HB.below.cell (p := ⟨b2, o2 + k, none⟩) (cell_lt HU2.out)]; rw [HU2.out, hv3]
            have hu3' : wr.cell? ⟨b3, o3 + q, none⟩ = some (.int .i64 x) := by rw [HB.below.cell (p := ⟨b3, o3 + q, none⟩) (cell_lt hu3), hu3, hr3, hxx]
            have m0 : 0 ≤ f * x := Int.mul_nonneg hf0 hx0
            have m1 : f * x ≤ 36 := Int.le_trans (Int.mul_le_mul (show f ≤ 6 by omega) (show x ≤ 6 by omega) hx0 (by omega)) (by omega)
            have HS := Lib.hid (HB.step OK.out hlt2 hlt4 (x := (a + f * x) % p) (by rw [haa, HF.out, hxx, getD_of_lt _ hlt2, getD_of_lt _ hlt3, ← HY.out, getD_of_lt _ hl5]))
            clear HB hu3 hr3 haa hxx hv3 hcl3
            go_wp2
            go_region
            all_goals go_wp2
            all_goals go_roundw
            case rel => exact ⟨q + 1, by omega, by go_num, HS.out.drew⟩
            case measure => simp [intOf]; omega
          · have HB' := Lib.hid HB
            have hqc : Hid (q = c) := Lib.hid (by omega)
            clear HB
            go_wp2
            go_roundw
            case rel => exact ⟨k + 1, by omega, by go_num, Ap.next (by have := HB'.out; rwa [hqc.out] at this)⟩
            case measure => simp [intOf]; omega
      · have hkk : k = v.length := by omega
        subst hkk
        have HA' := Lib.hid HA
        clear HA
        go_wp2
        go_ret
        exact ⟨_, rfl, Ap.done OK.out HA'.out, HA'.out.below⟩
end Go.Proofs.YtpdkfidmmjlmnabDoor

namespace Go.Proofs.YtpdkfidmmjlmnabDoor
open Go.RowKit

def ints (zs : List Int) : Array Value := (zs.map (Value.int .i64)).toArray
theorem ints_size (zs : List Int) : (ints zs).size = zs.length := by simp [ints]
theorem ints_at {zs : List Int} {i : Nat} (h : i < zs.length) : (ints zs)[i]? = some (.int .i64 zs[i]) := by simp [ints, h]

section
variable {P : Program}
theorem run_part_int (w : World) {e : TypeId} (he : P.underlying e = some (.int .i64)) (cs : Array Value) (i : Nat) (v : Value) (h : cs[i]? = some v) : (part e cs i).run P w = .ok v w := by
  simp [part, isAgg, run_underlying he, h]

/-- Equality place by place is equality of lists. -/
theorem ints_agree {zs ys : List Int} (h : zs.length = ys.length) : (∀ i ∈ List.range' 0 zs.length 1, zs.getD i 0 = ys.getD i 0) ↔ zs = ys := by
  constructor
  · intro hall
    refine List.ext_getElem h fun i h1 h2 => ?_
    have := hall i (by simpa using h1)
    simpa [List.getD, h1, h2] using this
  · intro e i _
    rw [e]

theorem run_equalIn_ints (w : World) (d : Nat) {t e : TypeId} {n : Nat} (zs ys : List Int) (ht : P.underlying t = some (.array n e)) (he : P.underlying e = some (.int .i64)) (hz : (P.info? e).map (·.size) = some 1)
    (h1 : zs.length = n) (h2 : ys.length = n) : (Op.equalIn (d + 2) t (.agg (ints zs)) (.agg (ints ys))).run P w = .ok (decide (zs = ys)) w := by
  obtain ⟨inf, hi, hs⟩ := Option.map_eq_some_iff.1 hz
  have hsz : (sizeOf e).run P w = .ok 1 w := by simp [sizeOf, typeInfo, hi, hs]
  have key := ints_agree (h1.trans h2.symm)
  rw [h1] at key
  have hd : decide (zs = ys) = decide (∀ i ∈ List.range' 0 n 1, zs.getD i 0 = ys.getD i 0) := by
    by_cases hq : zs = ys
    · rw [decide_eq_true hq, decide_eq_true (key.2 hq)]
    · rw [decide_eq_false hq, decide_eq_false (fun hh => hq (key.1 hh))]
  have hr : ∀ i ∈ List.range' 0 n 1, i < zs.length ∧ i < ys.length := fun i hm => by
    have := (List.mem_range'_1.1 hm).2
    omega
  rw [hd, Op.equalIn]
  simp only [Sem.run_bind, run_underlying ht, Result.andThen_ok, hsz, Std.Legacy.Range.forIn_eq_forIn_range', Std.Legacy.Range.size, Nat.sub_zero, Nat.add_sub_cancel, Nat.div_one, Nat.mul_one]
  clear hd key
  generalize List.range' 0 n 1 = l at hr ⊢
  induction l with
  | nil => simp
  | cons i l ih =>
    obtain ⟨hi1, hi2⟩ := hr i (List.mem_cons_self ..)
    have hh : (Op.equalIn (d + 1) e (.int .i64 (zs.getD i 0)) (.int .i64 (ys.getD i 0))).run P w = .ok (zs.getD i 0 == ys.getD i 0) w := run_equalIn_int w d e .i64 .i64 _ _ he
    have ha := run_part_int w he (ints zs) i (.int .i64 (zs.getD i 0)) (by rw [ints_at hi1]; simp [List.getD, hi1])
    have hb := run_part_int w he (ints ys) i (.int .i64 (ys.getD i 0)) (by rw [ints_at hi2]; simp [List.getD, hi2])
    have hnext := ih (fun j hj => hr j (List.mem_cons_of_mem _ hj))
    simp only [List.forIn_cons, Sem.run_bind, ha, hb, hh, Result.andThen_ok]
    by_cases hq : zs.getD i 0 = ys.getD i 0
    · rw [beq_iff_eq.2 hq]
      simp only [Bool.not_true, Bool.false_eq_true, if_false, Sem.run_pure, Result.andThen_ok]
      rw [hnext]
      simp only [List.forall_mem_cons, hq, true_and]
    · rw [beq_eq_false_iff_ne.2 hq]
      simp only [Bool.not_false, if_true, Sem.run_pure, Result.andThen_ok, List.forall_mem_cons, hq, false_and, decide_false]

theorem run_neq_ints (w : World) {t e : TypeId} {n : Nat} (zs ys : List Int) (ht : P.underlying t = some (.array n e)) (he : P.underlying e = some (.int .i64)) (hz : (P.info? e).map (·.size) = some 1)
    (h1 : zs.length = n) (h2 : ys.length = n) : (binOp .neq t (.agg (ints zs)) (.agg (ints ys))).run P w = .ok (.bool (!decide (zs = ys))) w := by
  rw [run_neq_struct, run_equalIn_ints w 9998 zs ys ht he hz h1 h2]
  rfl
end
end Go.Proofs.YtpdkfidmmjlmnabDoor

namespace Go.Proofs.YtpdkfidmmjlmnabDoor
open Go.RowKit

def zl : List Value := List.replicate 40 (.int .i64 0)
theorem zl_length : zl.length = 40 := by simp [zl]
/-- A row with zeros behind it, MaxRows numbers in all. -/
def pad (v : List Int) : List Int := v ++ List.replicate (40 - v.length) 0
theorem pad_length {v : List Int} (h : v.length ≤ 40) : (pad v).length = 40 := by simp [pad]; omega
theorem pad_splice (v : List Int) : (splice zl 0 (v.map (Value.int .i64))).toArray = ints (pad v) := by
  have e : zl = (List.replicate 40 (0 : Int)).map (Value.int .i64) := by simp [zl]
  have h2 : List.drop v.length (List.replicate 40 (0 : Int)) = List.replicate (40 - v.length) 0 := List.drop_replicate ..
  rw [e]
  simp only [splice, ints, pad, List.take_zero, List.nil_append, Nat.zero_add, List.length_map, ← List.map_drop, h2, List.map_append]
theorem pad_zero {v : List Int} (h : v.length ≤ 40) : pad v = List.replicate 40 0 ↔ ∀ x ∈ v, x = 0 := by
  constructor
  · intro e x hx
    have : x ∈ pad v := by simp [pad, hx]
    rw [e] at this
    exact List.eq_of_mem_replicate this
  · intro hall
    refine List.eq_replicate_iff.2 ⟨pad_length h, fun x hx => ?_⟩
    rcases List.mem_append.1 hx with h1 | h1
    · exact hall x h1
    · exact List.eq_of_mem_replicate h1

theorem Tryd.underlyingV : Tryd.prog.underlying 95 = some (.array 40 2) := by kernel_rfl
theorem Tryd.infoV : (Tryd.prog.info? 95).map (·.size) = some 40 := by kernel_rfl
theorem Tryd.infoI1 : (Tryd.prog.info? 2).map (·.size) = some 1 := by kernel_rfl

set_option maxRecDepth 100000 in
theorem hmk40 : ∀ w, (Instr.makeSlice 22 (.int .i64 40) (.int .i64 40)).run Tryd.prog w = .ok (.slice (some ⟨w.heap.size, 0, none⟩) 40 40) (w.alloc (.cells zl.toArray 2)) := fun w => by
  have h := run_make_row' (P := Tryd.prog) 22 2 (.int .i64 0) 8 Tryd.underlying22 Tryd.infoI rfl .i64 .i64 40 (by omega) (by omega) w
  have e : madeCells #[.int .i64 0] 40 = zl.toArray := by kernel_rfl
  rw [e] at h
  exact h

theorem below_two (w : World) (A B : Obj) : Below w.heap.size w ((w.alloc A).alloc B) := ((Below.refl _ _).alloc (Nat.le_refl _) _).alloc (by simp) _
theorem below_second (w : World) (A B : Obj) : Below (w.heap.size + 1) (w.alloc A) ((w.alloc A).alloc B) := (Below.refl _ _).alloc (by simp) _
def AR (a : Array Value) (w : World) (e : Ending) (w' : World) : Prop := e = .returned (.agg a) ∧ Below w.heap.size w w'

set_option maxHeartbeats 3200000 in
set_option maxRecDepth 100000 in
theorem vectorOf_any (va : Value) (v : List Int) (w : World) (ha : L1 0 w va v) (hv : v.length ≤ 40) :
    Calls Tryd.prog 78 #[va] w (AR (ints (pad v)) w) := by
  have hmk := hmk40
  have hat : ∀ (g : Nat) w, (Instr.arrayAt 95 (.slice (some ⟨g, 0, none⟩) 40 40)).run Tryd.prog w = .ok (.pointer (some ⟨g, 0, none⟩)) w := fun g w => run_arrayAt w _ _ 40 _ 40 40 Tryd.underlyingV (Nat.le_refl _)
  have hres : Tryd.f78.results = #[.cell 2 95] := by kernel_rfl
  have HRES := Lib.hid hres
  clear hres
  obtain ⟨cs, hcs⟩ : ∃ cs, cs = v.map (Value.int .i64) := ⟨_, rfl⟩
  have hcl : cs.length = v.length := by rw [hcs]; simp
  have hsp : (splice zl 0 cs).toArray = ints (pad v) := by rw [hcs]; exact pad_splice v
  have hone : ∀ u ∈ cs, u.oneCell' = true := by rw [hcs]; exact ints_oneCell _ _
  have hsrc : ∃ ad cap, va = .slice ad v.length cap ∧ (0 < cs.length → ∃ a, ad = some a ∧ ∀ j u, cs[j]? = some u → w.cell? (a.add j) = some u) := by
    refine Sl.cases ha (fun ad cap hx hv' => ⟨ad, cap, by subst hx; exact hv', fun h0 => by rw [hcl, hx] at h0; simp at h0⟩) (fun b o cap hv' _ hpos hc => ⟨_, cap, hv', fun _ => ⟨_, rfl, fun j u hu => ?_⟩⟩)
    have hj : j < v.length := by rw [← hcl]; exact (List.getElem?_eq_some_iff.1 hu).1
    obtain ⟨u2, h2, h3⟩ := hc j hj
    rw [Addr.add_lit, h2, h3]
    rw [hcs] at hu
    simp [hj] at hu
    rw [hu]
  obtain ⟨ad, cap, rfl, hpos⟩ := hsrc
  have HN : Hid (cs.length = Nat.min v.length 40) := Lib.hid (by rw [hcl]; exact (Nat.min_eq_left hv).symm)
  have HFIT : Hid (0 + cs.length ≤ zl.length) := Lib.hid (by rw [zl_length]; omega)
  have HPOS : Hid (∀ W, Below w.heap.size w W → 0 < cs.length → some (⟨w.heap.size + 1, 0, none⟩ : Addr) = some ⟨w.heap.size + 1, 0, none⟩ ∧ ∃ a, ad = some a ∧ ∀ j u, cs[j]? = some u → W.cell? (a.add j) = some u) := Lib.hid (fun W hb h0 => by
    obtain ⟨a, h1, h2⟩ := hpos h0
    refine ⟨rfl, a, h1, fun j u hu => ?_⟩
    have h3 := h2 j u hu
    rw [hb.cell (World.block_lt_of_cell? _ _ h3), h3])
  have HSP := Lib.hid hsp
  have HONE := Lib.hid hone
  have HPAD : Hid ((Tryd.prog.info? 95).map (·.size) = some (ints (pad v)).size) := Lib.hid (by rw [ints_size, pad_length hv]; exact Tryd.infoV)
  have HALL : Hid ((ints (pad v)).all (·.oneCell') = true) := Lib.hid (by simp [ints, Value.oneCell'])
  clear hcl hsp hone hpos hcs ha
  go_enter Tryd.func78, Tryd.ntmps78
  go_wp2_with (with_reducible refine wpList_copy_splice rfl (.tmp 5) (.tmp 6) 22 22 rfl 2 Tryd.underlying22 Tryd.infoI1 (some ⟨w.heap.size + 1, 0, none⟩) ad 40 40 v.length cap rfl rfl (w.heap.size + 1) 0 zl 2 (heap_alloc2_new _ _ _) cs HN.out (HPOS.out _ (below_two _ _ _)) HFIT.out HONE.out (w.heap.size + 1) _ (below_second _ _ _) (Nat.le_refl _) ?_)
  intro w2 HG2 hB2
  have hzz : ∃ old : Array Value, old.size = 40 ∧ w2.heap[w.heap.size]? = some (.cells old 95 (0, 0)) := by
    refine ⟨_, ?_, (hB2.block _ (Nat.lt_succ_self _)).trans (heap_alloc_new _ _)⟩
    rfl
  obtain ⟨old, hold, hz⟩ := hzz
  have hbel : Below w.heap.size w w2 := ((Below.refl _ _).alloc (Nat.le_refl _) _).trans (hB2.mono (Nat.le_succ _))
  have hg2 : w2.heap[w.heap.size + 1]? = some (.cells (ints (pad v)) 2 (0, 0)) := by rw [← HSP.out]; exact HG2.out
  have HZ := Lib.hid hz
  have HB := Lib.hid hbel
  have HOLD := Lib.hid hold
  have HG := Lib.hid hg2
  have HOS : Hid (old.size = (ints (pad v)).size) := Lib.hid (by rw [hold, ints_size, pad_length hv])
  clear hz hbel hold hg2 HG2 hB2
  go_wp2_with (first | (with_reducible refine wpList_load_row rfl 95 (.tmp 9) rfl (w.heap.size + 1) rfl 2 (ints (pad v)) (0, 0) _ HG.out Tryd.underlyingV rfl HPAD.out ?_) | (with_reducible refine wpList_store_row rfl 95 (.tmp 2) (.tmp 10) rfl w.heap.size (ints (pad v)) rfl rfl 95 old HZ.out HPAD.out HOS.out HALL.out ?_))
  exact bodyPost_ret (v := .agg (ints (pad v))) (results_cell_row HRES.out _ _ w.heap.size 95 (ints (pad v)) (0, 0) _ rfl (setRow_heap _ _ _ _ _ _ HZ.out) Tryd.underlyingV rfl HPAD.out) rfl ⟨rfl, below_setRow HB.out (Nat.le_refl _) _⟩
end Go.Proofs.YtpdkfidmmjlmnabDoor

namespace Go.Proofs.YtpdkfidmmjlmnabDoor
open Go.RowKit

section
variable {P : Program} {ops : Array Oper} {Q : Exit → Act → World → Prop} {md : Region.Mode} {S : World → Prop} {n : Nat}

/-- The last operation, taken out: it waits as it did and does nothing. -/
def calmOp (o : Oper) : Oper := { o with op := .move (.const (.bool false)), dst := none }
/-- What is owed where all others have come up: the last one. -/
def lastQ (P : Program) (ops : Array Oper) (n : Nat) (Q : Exit → Act → World → Prop) : Exit → Act → World → Prop
  | .normal, a, w => wpOp P ops Q n (fun a' w' => Q .normal a' w') a w
  | e, a, w => Q e a w
structure LastOk (md : Region.Mode) (ops : Array Oper) (n : Nat) (on : Oper) : Prop where
  at' : ops[n]? = some on
  size : n + 1 = ops.size
  guard : ∀ (j : Nat) (oj : Oper), ops[j]? = some oj → oj.guard = none
  ord : ∀ (j : Nat) (oj : Oper), ops[j]? = some oj → ∀ e : Edge, e ∈ oj.after → e.on < j
  last : ∀ j, j < n → ∃ e : Edge, e ∈ on.after ∧ Region.binds md e = true ∧ e.on = j

theorem calm_get {on : Oper} (h : LastOk md ops n on) (i : Nat) : (ops.setIfInBounds n (calmOp on))[i]? = if i = n then some (calmOp on) else ops[i]? := by
  have := h.size
  by_cases e : i = n
  · subst e
    rw [if_pos rfl, Array.getElem?_setIfInBounds_self_of_lt (by omega)]
  · rw [if_neg e, Array.getElem?_setIfInBounds_ne (fun h => e h.symm)]
theorem calm_ready {on : Oper} (h : LastOk md ops n on) (listed : Array Bool) : Region.ready md (ops.setIfInBounds n (calmOp on)) listed = Region.ready md ops listed := by
  unfold Region.ready
  rw [Array.size_setIfInBounds]
  refine List.filter_congr fun i _ => ?_
  rw [calm_get h]
  by_cases e : i = n
  · subst e
    rw [if_pos rfl, h.at']
    rfl
  · rw [if_neg e]
theorem getD_same {listed : Array Bool} {i : Nat} (h : i < listed.size) (x y : Bool) : listed.getD i x = listed.getD i y := by simp [h]
theorem least_unlisted {listed : Array Bool} : ∀ k, listed.getD k true = false → ∃ m, m ≤ k ∧ listed.getD m true = false ∧ ∀ j, j < m → listed.getD j true = true := by
  intro k
  induction k using Nat.strongRecOn with
  | ind k ih =>
    intro hk
    by_cases hx : ∃ j, j < k ∧ listed.getD j true = false
    · obtain ⟨j, hj, h0⟩ := hx
      obtain ⟨m, h1, h2⟩ := ih j hj h0
      exact ⟨m, by omega, h2⟩
    · exact ⟨k, Nat.le_refl _, hk, fun j hj => by
        cases hb : listed.getD j true with
        | true => rfl
        | false => exact absurd ⟨j, hj, hb⟩ hx⟩
theorem ready_some {on : Oper} (h : LastOk md ops n on) {listed : Array Bool} (hs : listed.size = ops.size) (hn : listed.getD n true = false) : Region.ready md ops listed ≠ [] := by
  obtain ⟨m, hm, h0, h1⟩ := least_unlisted n hn
  have hlt : m < ops.size := by have := h.size; omega
  intro e
  have : m ∈ Region.ready md ops listed := mem_ready.2 ⟨h0, ops[m], Array.getElem?_eq_getElem hlt, fun x hx _ => by
    have hx2 := h.ord m ops[m] (Array.getElem?_eq_getElem hlt) x hx
    rw [getD_same (by omega) false true]
    exact h1 _ hx2⟩
  rw [e] at this
  cases this
theorem last_ready {on : Oper} (h : LastOk md ops n on) {listed : Array Bool} (hs : listed.size = ops.size) (hr : n ∈ Region.ready md ops listed) : ∀ j, j < ops.size → (listed.setIfInBounds n true).getD j true = true := by
  intro j hj
  by_cases e : j = n
  · subst e
    simp [hs, hj]
  · obtain ⟨x, hx, hb, he⟩ := h.last j (by have := h.size; omega)
    obtain ⟨_, oj, hoj, hall⟩ := mem_ready.1 hr
    rw [h.at'] at hoj
    injection hoj with hoj
    subst hoj
    have h2 := hall x hx hb
    rw [he] at h2
    rw [getD_set_ne true (fun h => e h.symm), getD_same (by omega) true false]
    exact h2
theorem ready_none {listed : Array Bool} (hall : ∀ j, j < ops.size → listed.getD j true = true) : Region.ready md ops listed = [] := by
  refine List.eq_nil_iff_forall_not_mem.2 fun i hi => ?_
  obtain ⟨h0, oj, hoj, _⟩ := mem_ready.1 hi
  have := hall i (Array.getElem?_eq_some_iff.1 hoj).1
  rw [this] at h0
  cases h0
theorem wp_of_last {o : Oper} {a : Act} {w : World} {K K' : Act → World → Prop} (h : ∀ a w, K a w → K' a w) (hh : o.wp P a w K (lastQ P ops n Q)) : o.wp P a w K' Q := by
  unfold Oper.wp at *
  generalize (execOp a.eval o).run P w = r at *
  cases r with
  | ok x w' =>
    cases x <;> simp only [Oper.upon] at hh ⊢ <;>
      first
        | exact h _ _ hh
        | exact Calls.mono hh (fun e w'' he => by cases e <;> first | exact h _ _ he | exact he)
        | exact Rows.mono hh (fun _ _ he => h _ _ he)
  | halt x w' => cases x <;> simp only [Oper.upon] at hh ⊢ <;> exact hh
theorem held_normal {Q' : Exit → Act → World → Prop} {ops' : Array Oper} {listed : Array Bool} {a : Act} {w : World} (hr : Region.ready md ops' listed = []) : ∀ fuel, wpAnyH P md ops' Q' S fuel listed a w → Q' .normal a w
  | 0, h => h.2
  | _ + 1, h => h.1 hr

theorem any_of_calm {on : Oper} (h : LastOk md ops n on) : ∀ (fuel : Nat) (listed : Array Bool) (a : Act) (w : World), listed.size = ops.size → listed.getD n true = false →
    wpAnyH P md (ops.setIfInBounds n (calmOp on)) (lastQ P ops n Q) S fuel listed a w → wpAny P md ops Q fuel listed a w := by
  intro fuel
  induction fuel with
  | zero =>
    intro listed a w hs hn hh
    have h0 := hh.1
    rw [calm_ready h] at h0
    exact absurd h0 (ready_some h hs hn)
  | succ fuel ih =>
    intro listed a w hs hn hh
    have hne := ready_some h hs hn
    refine ⟨fun e => absurd e hne, fun i hi => ?_⟩
    have h1 := hh.2 i (by rw [calm_ready h]; exact hi)
    obtain ⟨hi0, oi, hoi, _⟩ := mem_ready.1 hi
    have hw : ∀ (o : Oper) (f : Nat → Option Bool), o.guard = none → Region.wanted o f = true := fun o f hg => by unfold Region.wanted; rw [hg]
    by_cases e : i = n
    · subst e
      have hall := last_ready h hs hi
      unfold wpOp at h1
      rw [calm_get h, if_pos rfl] at h1
      have hg : (calmOp on).guard = none := h.guard i on h.at'
      simp only [hw _ _ hg, if_true] at h1
      have h2 : S w ∧ wpAnyH P md (ops.setIfInBounds i (calmOp on)) (lastQ P ops i Q) S fuel (listed.setIfInBounds i true) a w := by
        rcases h1 with h1 | h1
        · exact h1
        · exact absurd h1.1.1 (by
            have : (execOp a.eval (calmOp on)).runT P w #[] = (.ok (.value (.bool false)) w, #[]) := rfl
            rw [this]
            exact Array.not_mem_empty _)
      have h3 := held_normal (by rw [calm_ready h]; exact ready_none hall) _ h2.2
      exact wpOp_mono (fun a' w' hq => wpAny_done (ready_none hall) hq _) h3
    · unfold wpOp at h1 ⊢
      rw [calm_get h, if_neg e, hoi] at h1
      rw [hoi]
      have hg := h.guard _ _ hoi
      simp only [hw _ _ hg, if_true] at h1 ⊢
      refine h1.imp (wp_of_last fun a' w' hk => ih _ _ _ (by simpa using hs) ?_ hk.2) (fun hx => ⟨hx.1, hx.2⟩)
      rw [getD_set_ne true e]
      exact hn

/-- The conditions as one Bool. -/
def lastB (md : Region.Mode) (ops : Array Oper) (n : Nat) : Bool :=
  decide (n + 1 = ops.size) && (List.range ops.size).all (fun j => match ops[j]? with | some o => o.guard.isNone && o.after.all (fun e => decide (e.on < j)) | none => true) &&
  (match ops[n]? with | some o => (List.range n).all (fun j => o.after.any fun e => Region.binds md e && decide (e.on = j)) | none => false)
theorem lastB_ok {on : Oper} (hn : ops[n]? = some on) (h : lastB md ops n = true) : LastOk md ops n on := by
  unfold lastB at h
  rw [hn] at h
  simp only [Bool.and_eq_true, decide_eq_true_eq, List.all_eq_true, List.mem_range] at h
  obtain ⟨⟨h1, h2⟩, h3⟩ := h
  have key : ∀ (j : Nat) (oj : Oper), ops[j]? = some oj → oj.guard = none ∧ ∀ e : Edge, e ∈ oj.after → e.on < j := fun j oj hj => by
    have := h2 j (Array.getElem?_eq_some_iff.1 hj).1
    rw [hj] at this
    simp only [Bool.and_eq_true] at this
    refine ⟨Option.isNone_iff_eq_none.1 this.1, fun e he => ?_⟩
    have h5 := Array.all_eq_true_iff_forall_mem.1 this.2 e he
    exact of_decide_eq_true h5
  refine ⟨hn, h1, fun j oj hj => (key j oj hj).1, fun j oj hj => (key j oj hj).2, fun j hj => ?_⟩
  obtain ⟨i, hi, h6⟩ := Array.any_eq_true.1 (h3 j hj)
  obtain ⟨e, he⟩ : ∃ e, e = on.after[i] := ⟨_, rfl⟩
  rw [← he] at h6
  have he : e ∈ on.after := he ▸ Array.getElem_mem hi
  rw [Bool.and_eq_true] at h6
  exact ⟨e, he, h6.1, of_decide_eq_true h6.2⟩
/-- The region: all but the last in whatever order under S, then the last. -/
theorem wp_region_last {id : Nat} {a : Act} {w : World} {on : Oper} (S : World → Prop) (n : Nat) (hm : P.follows .mixedOrders = true) (hn : ops[n]? = some on) (hB : lastB .any ops n = true)
    (h : wpAnyH P .any (ops.setIfInBounds n (calmOp on)) (lastQ P ops n Q) S ops.size (Array.replicate ops.size false) a w.drew) : (Code.region id ops true).wp P Q a w := by
  have hl := lastB_ok hn hB
  refine wp_region_any hm (any_of_calm (S := S) hl _ _ _ _ (by simp) ?_ h)
  have := hl.size
  have hlt : n < ops.size := by omega
  simp [hlt]

/-- One call alone may come up. -/
theorem held_call {i : Nat} {oi : Oper} {fuel : Nat} {listed : Array Bool} {a : Act} {w : World} (hr : Region.ready md ops listed = [i]) (hi : ops[i]? = some oi) (hg : oi.guard = none)
    (h : oi.wp P a w (fun a' w' => S w' ∧ wpAnyH P md ops Q S fuel (listed.setIfInBounds i true) a' w') Q) : wpAnyH P md ops Q S (fuel + 1) listed a w :=
  wpAnyH_all hr (by simp) (fun j hj => by
    obtain rfl := List.mem_singleton.1 hj
    unfold wpOp
    rw [hi]
    have hw : Region.wanted oi (yielded ops a.tmps) = true := by unfold Region.wanted; rw [hg]
    simp only [hw, if_true]
    exact Or.inl h)
theorem wp_enter {o : Oper} {a : Act} {w : World} {K : Act → World → Prop} {f : FuncId} {args : Array Value} (h : (execOp a.eval o).run P w = .ok (.enter f args) w) {R : Ending → World → Prop} (hc : Calls P f args w R) (hR : ∀ v w', R (.returned v) w' → K (a.put o.dst v) w') (h2 : ∀ c w', ¬ R (.panicked c) w') (h3 : ∀ w', ¬ R .outgrown w') : o.wp P a w K Q := by
  unfold Oper.wp
  rw [h]
  refine hc.mono fun e w' he => ?_
  cases e with
  | returned v => exact hR v w' he
  | panicked c => exact absurd he (h2 c w')
  | outgrown => exact absurd he (h3 w')
theorem held_take {i : Nat} {oi : Oper} {v : Value} {fuel : Nat} {listed : Array Bool} {a : Act} {w : World} (d : Option Tmp) (hi : ops[i]? = some oi) (hd : oi.dst = d)
    (hs : Region.noSelect ops = true) (hf : Region.free md ops listed i = true) (hr : (Region.ready md ops listed).contains i = true)
    (hQ : ∀ c a w, Q (.panic c) (a.put oi.dst v) w → Q (.panic c) a w) (hy : YieldsIf P ops S oi v a) (hS : S w)
    (h : wpAnyH P md ops Q S fuel (listed.setIfInBounds i true) (a.put d v) w) : wpAnyH P md ops Q S (fuel + 1) listed a w :=
  wpAnyH_take hi hs hf hr hQ hy hS (by rw [hd]; exact h)
theorem held_enter {i : Nat} {oi : Oper} {fuel : Nat} {listed : Array Bool} {a : Act} {w : World} (d : Option Tmp) {f : FuncId} {args : Array Value} (hr : Region.ready md ops listed = [i]) (hi : ops[i]? = some oi) (hg : oi.guard = none) (hd : oi.dst = d)
    (h : (execOp a.eval oi).run P w = .ok (.enter f args) w) {R : Ending → World → Prop} (hc : Calls P f args w R) (hR : ∀ v w', R (.returned v) w' → S w' ∧ wpAnyH P md ops Q S fuel (listed.setIfInBounds i true) (a.put d v) w') (h2 : ∀ c w', ¬ R (.panicked c) w') (h3 : ∀ w', ¬ R .outgrown w') : wpAnyH P md ops Q S (fuel + 1) listed a w :=
  held_call hr hi hg (wp_enter h hc (fun v w' hv => by rw [hd]; exact hR v w' hv) h2 h3)
/-- The end: the last operation itself. -/
theorem lastQ_of {on : Oper} {a : Act} {w : World} (hn : ops[n]? = some on) (hg : on.guard = none) (h : on.wp P a w (fun a' w' => Q .normal a' w') Q) : lastQ P ops n Q .normal a w := by
  show wpOp P ops Q n _ a w
  unfold wpOp
  rw [hn]
  have hw : Region.wanted on (yielded ops a.tmps) = true := by unfold Region.wanted; rw [hg]
  simp only [hw, if_true]
  exact Or.inl h
theorem lastQ_store {on : Oper} {a : Act} {w : World} (hn : ops[n]? = some on) (hg : on.guard = none) (hd : on.dst = none) (ty : TypeId) (x y : Operand) (ho : on.op = .store ty x y)
    (b o : Nat) (cells : Array Value) (hx : a.eval x = .pointer (some ⟨b, o, none⟩)) (hy : a.eval y = .agg cells)
    (ht : w.there b o cells.size) (hi : (P.info? ty).map (·.size) = some cells.size) (h1 : cells.all (·.oneCell') = true)
    (h : Q .normal a (w.setCells b o cells.toList)) : lastQ P ops n Q .normal a w :=
  lastQ_of hn hg (wp_store_mid ty x y ho b o cells hx hy ht hi h1 (by rw [hd]; exact h))
theorem held_none {i : Nat} {oi : Oper} {fuel : Nat} {listed : Array Bool} {a : Act} {w : World} {v : Value} (hi : ops[i]? = some oi) (hd : oi.dst = none)
    (hs : Region.noSelect ops = true) (hf : Region.free md ops listed i = true) (hr : (Region.ready md ops listed).contains i = true)
    (hQ : ∀ c a w, Q (.panic c) (a.put oi.dst v) w → Q (.panic c) a w) (hy : YieldsIf P ops S oi v a) (hS : S w)
    (h : wpAnyH P md ops Q S fuel (listed.setIfInBounds i true) a w) : wpAnyH P md ops Q S (fuel + 1) listed a w :=
  held_take none hi hd hs hf hr hQ hy hS h
theorem yieldsIf_move {o : Oper} {a : Act} {x : Operand} {v : Value} (hg : o.guard = none) (ho : o.op = .move x) (hx : a.eval x = v) : YieldsIf P ops S o v a :=
  Or.inl ⟨by unfold Region.wanted; rw [hg], fun w _ => by
    unfold execOp
    simp only [ho, hx]
    rfl⟩
theorem yieldsIf_cell {o : Oper} {a : Act} {x : Operand} {v : Value} {t : TypeId} {b off : Nat} (hg : o.guard = none) (ho : o.op = .load t x) (hx : a.eval x = .pointer (some ⟨b, off, none⟩)) (hrun : ∀ w, S w → (Instr.loadAt t (.pointer (some ⟨b, off, none⟩))).run P w = .ok v w) : YieldsIf P ops S o v a :=
  Or.inl ⟨by unfold Region.wanted; rw [hg], fun w hw => by
    unfold execOp
    simp only [ho, hx, Sem.run_bind, hrun w hw, Result.andThen_ok]
    rfl⟩
theorem yieldsIf_index {o : Oper} {a : Act} {x y : Operand} {v u i : Value} {t : TypeId} (hg : o.guard = none) (ho : o.op = .indexAddr t x y) (hx : a.eval x = u) (hy : a.eval y = i) (hrun : ∀ w, (Instr.indexAt t u i).run P w = .ok v w) : YieldsIf P ops S o v a :=
  Or.inl ⟨by unfold Region.wanted; rw [hg], fun w _ => by
    unfold execOp
    simp only [ho, hx, hy, Sem.run_bind, hrun w, Result.andThen_ok]
    rfl⟩
/-- A guarded operation that is not wanted. -/
theorem held_skip0 {i : Nat} {oi : Oper} {fuel : Nat} {listed : Array Bool} {a : Act} {w : World} (d : Option Tmp) (hi : ops[i]? = some oi) (hd : oi.dst = d)
    (hs : Region.noSelect ops = true) (hf : Region.free md ops listed i = true) (hr : (Region.ready md ops listed).contains i = true)
    (hQ : ∀ c a w, Q (.panic c) (a.put oi.dst undef) w → Q (.panic c) a w) (hw : Region.wanted oi (yielded ops a.tmps) = false) (hS : S w)
    (h : wpAnyH P md ops Q S fuel (listed.setIfInBounds i true) (a.put d undef) w) : wpAnyH P md ops Q S (fuel + 1) listed a w :=
  held_take d hi hd hs hf hr hQ (Or.inr ⟨hw, rfl⟩) hS h
/-- A guarded call that is wanted, alone to come up. -/
theorem held_enterG {i : Nat} {oi : Oper} {fuel : Nat} {listed : Array Bool} {a : Act} {w : World} (d : Option Tmp) {f : FuncId} {args : Array Value} (hr : Region.ready md ops listed = [i]) (hi : ops[i]? = some oi) (hw : Region.wanted oi (yielded ops a.tmps) = true) (hd : oi.dst = d)
    (h : (execOp a.eval oi).run P w = .ok (.enter f args) w) {R : Ending → World → Prop} (hc : Calls P f args w R) (hR : ∀ v w', R (.returned v) w' → S w' ∧ wpAnyH P md ops Q S fuel (listed.setIfInBounds i true) (a.put d v) w') (h2 : ∀ c w', ¬ R (.panicked c) w') (h3 : ∀ w', ¬ R .outgrown w') : wpAnyH P md ops Q S (fuel + 1) listed a w :=
  wpAnyH_all hr (by simp) (fun j hj => by
    obtain rfl := List.mem_singleton.1 hj
    unfold wpOp
    rw [hi]
    simp only [hw, if_true]
    exact Or.inl (wp_enter h hc (fun v w' hv => by rw [hd]; exact hR v w' hv) h2 h3))
theorem yieldsIf_runG {o : Oper} {a : Act} {v : Value} (hw : Region.wanted o (yielded ops a.tmps) = true) (hrun : ∀ w, S w → (execOp a.eval o).run P w = .ok (.value v) w) : YieldsIf P ops S o v a :=
  Or.inl ⟨hw, hrun⟩
theorem yieldsIf_cellG {o : Oper} {a : Act} {x : Operand} {v : Value} {t : TypeId} {b off : Nat} (hw : Region.wanted o (yielded ops a.tmps) = true) (ho : o.op = .load t x) (hx : a.eval x = .pointer (some ⟨b, off, none⟩)) (hrun : ∀ w, S w → (Instr.loadAt t (.pointer (some ⟨b, off, none⟩))).run P w = .ok v w) : YieldsIf P ops S o v a :=
  Or.inl ⟨hw, fun w hw => by
    unfold execOp
    simp only [ho, hx, Sem.run_bind, hrun w hw, Result.andThen_ok]
    rfl⟩
end
end Go.Proofs.YtpdkfidmmjlmnabDoor


namespace Go.Proofs.YtpdkfidmmjlmnabDoor
open Go.RowKit

/-- Differentials of differentials are 0. -/
def SqOk (p : Int) (ds : List Int) (ms : List (List (List Int))) : Prop :=
  ∀ q, q + 1 < ms.length → ∀ r ∈ ms.getD (q + 1) [], ∀ x ∈ apT p (ds.getD q 0).toNat r (ms.getD q []), x = 0
/-- All that a complex is asked besides. -/
structure PreOk (p : Int) (ds : List Int) (ms : List (List (List Int))) : Prop where
  prime : IsP p
  len0 : 1 ≤ ds.length
  len1 : ds.length ≤ 6
  mlen : ms.length + 1 = ds.length
  dims : ∀ d ∈ ds, 0 ≤ d ∧ d ≤ 8
  tabs : ∀ k, k < ms.length → TabOk p (ds.getD (k + 1) 0) (ds.getD k 0) (ms.getD k [])

theorem PreOk.dim {p : Int} {ds : List Int} {ms : List (List (List Int))} (h : PreOk p ds ms) (k : Nat) : 0 ≤ ds.getD k 0 ∧ ds.getD k 0 ≤ 8 := by
  by_cases hk : k < ds.length
  · rw [getD_of_lt _ hk]; exact h.dims _ (List.getElem_mem _)
  · simp [List.getD, show ds.length ≤ k by omega]
theorem PreOk.ap {p : Int} {ds : List Int} {ms : List (List (List Int))} (h : PreOk p ds ms) {q : Nat} (hq : q + 1 < ms.length) {r : List Int} (hr : r ∈ ms.getD (q + 1) []) : ApOk p (ds.getD q 0).toNat r (ms.getD q []) := by
  have h1 := h.tabs (q + 1) hq
  have h0 := h.tabs q (by omega)
  have hd := h.dim q
  refine ⟨h.prime, ?_, (h1.2 r hr).2, fun r2 hr2 => ⟨?_, (h0.2 r2 hr2).2⟩⟩
  · have e1 := (h1.2 r hr).1
    have e2 := h0.1
    omega
  · have e1 := (h0.2 r2 hr2).1
    omega
theorem apT_length {p : Int} {c : Nat} {v : List Int} {t : List (List Int)} (h : ApOk p c v t) : (apT p c v t).length = c := apTo_length h (Nat.le_refl _)

/-- A call that says whether P, and leaves what was there. -/
def BB (P : Prop) (w : World) (e : Ending) (w' : World) : Prop := ∃ b : Bool, e = .returned (.bool b) ∧ Below w.heap.size w w' ∧ (b = true ↔ P)
theorem bb_true {P : Prop} {w w' : World} (hb : Below w.heap.size w w') (h : P) : BB P w (.returned (.bool true)) w' := ⟨true, rfl, hb, by simp [h]⟩
theorem bb_false {P : Prop} {w w' : World} (hb : Below w.heap.size w w') (h : ¬ P) : BB P w (.returned (.bool false)) w' := ⟨false, rfl, hb, by simp [h]⟩

theorem neq_zero {v : List Int} (hv : v.length ≤ 40) (w : World) : (binOp .neq 95 (.agg (ints (pad v))) (.agg #[.int .i64 0, .int .i64 0, .int .i64 0, .int .i64 0, .int .i64 0, .int .i64 0, .int .i64 0, .int .i64 0, .int .i64 0, .int .i64 0, .int .i64 0, .int .i64 0, .int .i64 0, .int .i64 0, .int .i64 0, .int .i64 0, .int .i64 0, .int .i64 0, .int .i64 0, .int .i64 0, .int .i64 0, .int .i64 0, .int .i64 0, .int .i64 0, .int .i64 0, .int .i64 0, .int .i64 0, .int .i64 0, .int .i64 0, .int .i64 0, .int .i64 0, .int .i64 0, .int .i64 0, .int .i64 0, .int .i64 0, .int .i64 0, .int .i64 0, .int .i64 0, .int .i64 0, .int .i64 0])).run Tryd.prog w = .ok (.bool (!decide (∀ x ∈ v, x = 0))) w := by
  have h := run_neq_ints (P := Tryd.prog) w (pad v) (List.replicate 40 0) Tryd.underlyingV Tryd.underlying2 Tryd.infoI1 (pad_length hv) (by simp)
  rw [show (#[.int .i64 0, .int .i64 0, .int .i64 0, .int .i64 0, .int .i64 0, .int .i64 0, .int .i64 0, .int .i64 0, .int .i64 0, .int .i64 0, .int .i64 0, .int .i64 0, .int .i64 0, .int .i64 0, .int .i64 0, .int .i64 0, .int .i64 0, .int .i64 0, .int .i64 0, .int .i64 0, .int .i64 0, .int .i64 0, .int .i64 0, .int .i64 0, .int .i64 0, .int .i64 0, .int .i64 0, .int .i64 0, .int .i64 0, .int .i64 0, .int .i64 0, .int .i64 0, .int .i64 0, .int .i64 0, .int .i64 0, .int .i64 0, .int .i64 0, .int .i64 0, .int .i64 0, .int .i64 0] : Array Value) = ints (List.replicate 40 0) from by kernel_rfl, h]
  have e := pad_zero hv
  by_cases hh : ∀ x ∈ v, x = 0
  · rw [decide_eq_true hh, decide_eq_true (e.2 hh)]
  · rw [decide_eq_false hh, decide_eq_false (fun h2 => hh (e.1 h2))]

/-- A cell of what was there, read in a later world. -/
theorem later {w w' : World} {b o : Nat} {u : Value} {B : Nat} (hb : Below B w w') (hB : w.heap.size ≤ B) (h : w.cell? ⟨b, o, none⟩ = some u) : w'.cell? ⟨b, o, none⟩ = some u := by
  rw [hb.cell (p := ⟨b, o, none⟩) (Nat.lt_of_lt_of_le (cell_lt h) hB), h]

set_option maxHeartbeats 3200000 in
set_option maxRecDepth 100000 in
theorem squares_any (p : Int) (dv mv : Value) (ds : List Int) (ms : List (List (List Int))) (w : World) (h : Cx 0 w dv mv ds ms) (ok : PreOk p ds ms) :
    Calls Tryd.prog 81 #[.agg #[.int .i64 p, dv, mv]] w (BB (SqOk p ds ms) w) := by
  have hlen0 := ok.len1
  have hmlen := Lib.hid ok.mlen
  have hml : ms.length ≤ 5 := by have := ok.mlen; have := ok.len1; omega
  have OK := Lib.hid ok
  clear ok
  have hb0 : Below w.heap.size w (w.alloc (.cells #[.int .i64 p, dv, mv] 28)) := (Below.refl _ _).alloc (Nat.le_refl _) _
  have HB0 := Lib.hid hb0
  clear hb0
  refine Sl.cases h.maps (fun ad cap hx hv' => ?_) (fun bm om capm hv' _ hpos hcl => ?_)
  · subst hx hv'
    clear h
    go_enter Tryd.func81, Tryd.ntmps81
    go_wp2
    refine wp_loop_rounds 1 ?_
    rw [rounds_succ]
    go_wp2
    go_ret
    exact bb_true HB0.out (fun q hq => absurd hq (by simp))
  · subst hv'
    refine Sl.cases h.dims (fun ad cap hx hv' => absurd hmlen.out (by subst hx; simp)) (fun bd od capd hv' _ hposd hcld => ?_)
    subst hv'
    have HC := Lib.hid hcl
    have HD := Lib.hid hcld
    clear h hcl hcld
    go_enter Tryd.func81, Tryd.ntmps81
    go_wp2
    go_loopw [3, 5, 6, 20] (fun i _ _ _ wr => ∃ (q : Nat), q ≤ ms.length ∧ i = .int .i64 ((q : Int) + 1) ∧ Below (w.heap.size + 1) (w.alloc (.cells #[.int .i64 p, .slice (some ⟨bd, od, none⟩) ds.length capd, .slice (some ⟨bm, om, none⟩) ms.length capm] 28)) wr ∧
      Hid (∀ q2, q2 < q → q2 + 1 < ms.length → ∀ r ∈ ms.getD (q2 + 1) [], ∀ x ∈ apT p (ds.getD q2 0).toNat r (ms.getD q2 []), x = 0)) (fun i _ _ _ _ => ms.length - (intOf i - 1).toNat)
    case atStart => exact ⟨0, Nat.zero_le _, rfl, Below.refl _ _, Lib.hid (fun _ h => absurd h (Nat.not_lt_zero _))⟩
    case round =>
      obtain ⟨q, hq, rfl, hbel, HSQ⟩ := hrel
      have HBEL := Lib.hid hbel
      clear hbel
      have hbw : Below w.heap.size w wr := HB0.out.trans (HBEL.out.mono (Nat.le_succ _))
      have HBW := Lib.hid hbw
      clear hbw
      have c0 : wr.cell? ⟨w.heap.size, 0, none⟩ = some (.int .i64 p) := later HBEL.out (by simp) (by simp)
      have c1 : wr.cell? ⟨w.heap.size, 1, none⟩ = some (.slice (some ⟨bd, od, none⟩) ds.length capd) := later HBEL.out (by simp) (by simp)
      have c2 : wr.cell? ⟨w.heap.size, 2, none⟩ = some (.slice (some ⟨bm, om, none⟩) ms.length capm) := later HBEL.out (by simp) (by simp)
      by_cases hlt : q + 1 < ms.length
      · obtain ⟨u1, hu1, hr1⟩ := HC.out (q + 1) hlt
        obtain ⟨u0, hu0, hr0⟩ := HC.out q (by omega)
        obtain ⟨ud, hud, hrd⟩ := HD.out q (by have := hmlen.out; omega)
        have hu1' : wr.cell? ⟨bm, om + (q + 1), none⟩ = some u1 := later HBW.out (Nat.le_refl _) hu1
        have hu0' : wr.cell? ⟨bm, om + q, none⟩ = some u0 := later HBW.out (Nat.le_refl _) hu0
        have hud' : wr.cell? ⟨bd, od + q, none⟩ = some ud := later HBW.out (Nat.le_refl _) hud
        have hdim := OK.out.dim q
        have hql : q < ds.length := by have := hmlen.out; omega
        obtain ⟨c, hc⟩ := Int.eq_ofNat_of_zero_le hdim.1
        have hc8 : c ≤ 8 := by omega
        have hud2 : wr.cell? ⟨bd, od + q, none⟩ = some (.int .i64 (c : Int)) := by rw [hud', hrd, ← getD_of_lt 0 hql, hc]
        have HCC : Hid ((ds.getD q 0).toNat = c) := Lib.hid (by omega)
        have htab := OK.out.tabs (q + 1) hlt
        rw [getD_of_lt _ hlt] at htab
        have htl : (ms[q + 1]).length ≤ 8 := by have := htab.1; have := OK.out.dim (q + 1 + 1); omega
        have hrl : ∀ r ∈ ms[q + 1], r.length ≤ 8 := fun r hr => by have := (htab.2 r hr).1; have := OK.out.dim (q + 1); omega
        have HRL := Lib.hid hrl
        have HR1 := Lib.hid hr1
        have HR0 := Lib.hid hr0
        have HNEXT : Hid ((∀ r ∈ ms[q + 1], ∀ x ∈ apT p c r (ms.getD q []), x = 0) → ∀ q2, q2 < q + 1 → q2 + 1 < ms.length → ∀ r ∈ ms.getD (q2 + 1) [], ∀ x ∈ apT p (ds.getD q2 0).toNat r (ms.getD q2 []), x = 0) := Lib.hid (fun hall q2 hq2 hlt2 => by
          by_cases e : q2 = q
          · subst e
            rw [HCC.out, getD_of_lt _ hlt]
            exact hall
          · exact HSQ.out q2 (by omega) hlt2)
        obtain ⟨t1, ht1⟩ : ∃ t1, t1 = ms[q + 1] := ⟨_, rfl⟩
        have HT1 := Lib.hid ht1
        rw [← ht1] at htl
        have HR1' : Hid (L2 0 w u1 t1) := Lib.hid (by rw [ht1]; exact HR1.out)
        have HNEXT' : Hid ((∀ j (hj : j < t1.length), ∀ x ∈ apT p c t1[j] (ms.getD q []), x = 0) → ∀ q2, q2 < q + 1 → q2 + 1 < ms.length → ∀ r ∈ ms.getD (q2 + 1) [], ∀ x ∈ apT p (ds.getD q2 0).toNat r (ms.getD q2 []), x = 0) := Lib.hid (fun hall => HNEXT.out (fun r hr => by
          rw [← ht1] at hr
          obtain ⟨j, hj, rfl⟩ := List.getElem_of_mem hr
          exact hall j hj))
        have HAP : Hid (∀ j (hj : j < t1.length), ApOk p c t1[j] (ms.getD q [])) := Lib.hid (fun j hj => by
          have := OK.out.ap hlt (r := t1[j]) (by rw [getD_of_lt _ hlt, ← ht1]; exact List.getElem_mem _)
          rwa [HCC.out] at this)
        have HNOT : Hid (∀ j (hj : j < t1.length), ¬ (∀ x ∈ apT p c t1[j] (ms.getD q []), x = 0) → ¬ SqOk p ds ms) := Lib.hid (fun j hj hne hs => hne (by
          have := hs q hlt t1[j] (by rw [getD_of_lt _ hlt, ← ht1]; exact List.getElem_mem _)
          rwa [HCC.out] at this))
        have HRLL : Hid (∀ j (hj : j < t1.length), (t1[j]).length ≤ 1048576) := Lib.hid (fun j hj => by have := HRL.out t1[j] (by rw [← ht1]; exact List.getElem_mem _); omega)
        have HR0' : Hid (L2 0 w u0 (ms.getD q [])) := Lib.hid (by rw [getD_of_lt _ (by omega)]; exact HR0.out)
        obtain ⟨t0, ht0⟩ : ∃ t0, t0 = ms.getD q [] := ⟨_, rfl⟩
        rw [← ht0] at HNEXT' HAP HNOT HR0'
        have HU0 := Lib.hid hu0
        have HUD : Hid (w.cell? ⟨bd, od + q, none⟩ = some (.int .i64 (c : Int))) := Lib.hid (by rw [hud, hrd, ← getD_of_lt 0 hql, hc])
        clear hu1 hu0 hud hr1 hr0 hrd hud' hdim hc htab hrl ht1 HR1 HR0 HNEXT HRL ht0 HCC
        refine Sl.cases HR1'.out (fun ad1 cap1 hx1 hv1 => ?_) (fun b1 o1 cap1 hv1 _ hpos1 hcl1 => ?_)
        · subst hv1
          have HX1 := Lib.hid hx1
          clear hx1
          go_wp2
          refine wp_loop_rounds 1 ?_
          rw [rounds_succ]
          go_wp2
          go_roundw
          case rel => exact ⟨q + 1, by omega, by go_num, HBEL.out, Lib.hid (HNEXT'.out (fun j hj => absurd hj (by rw [HX1.out]; simp)))⟩
          case measure => simp [intOf]; omega
        · subst hv1
          have HC1 := Lib.hid hcl1
          clear hcl1
          have hdec : decide ((q : Int) + 1 < (ms.length : Int)) = true := by simp; omega
          obtain ⟨wo, hwo⟩ : ∃ wo : World, wo = wr := ⟨_, rfl⟩
          have HWO := Lib.hid hwo
          clear hwo
          go_wp2
          go_loopw [5, 6, 20] (fun _ _ i wr => ∃ (j : Nat), j ≤ t1.length ∧ i = .int .i64 j ∧ Below (w.heap.size + 1) (w.alloc (.cells #[.int .i64 p, .slice (some ⟨bd, od, none⟩) ds.length capd, .slice (some ⟨bm, om, none⟩) ms.length capm] 28)) wr ∧
            Hid (∀ j2 (hj : j2 < t1.length), j2 < j → ∀ x ∈ apT p c t1[j2] t0, x = 0)) (fun _ _ i _ => t1.length - (intOf i).toNat)
          case atStart => exact ⟨0, Nat.zero_le _, rfl, HBEL.out, Lib.hid (fun _ _ h => absurd h (Nat.not_lt_zero _))⟩
          case round =>
            clear c0 c1 c2 hu1' hu0' hud2
            obtain ⟨j, hj, rfl, hbel2, HJ⟩ := hrel
            have HBEL2 := Lib.hid hbel2
            clear hbel2
            have HBW2 := Lib.hid (HB0.out.trans (HBEL2.out.mono (Nat.le_succ _)))
            have c0 : wr.cell? ⟨w.heap.size, 0, none⟩ = some (.int .i64 p) := later HBEL2.out (by simp) (by simp)
            have c1 : wr.cell? ⟨w.heap.size, 1, none⟩ = some (.slice (some ⟨bd, od, none⟩) ds.length capd) := later HBEL2.out (by simp) (by simp)
            have c2 : wr.cell? ⟨w.heap.size, 2, none⟩ = some (.slice (some ⟨bm, om, none⟩) ms.length capm) := later HBEL2.out (by simp) (by simp)
            by_cases hltj : j < t1.length
            · obtain ⟨u2, hu2, hr2⟩ := HC1.out j hltj
              have hu2' : wr.cell? ⟨b1, o1 + j, none⟩ = some u2 := later HBW2.out (Nat.le_refl _) hu2
              have hu0' : wr.cell? ⟨bm, om + q, none⟩ = some u0 := later HBW2.out (Nat.le_refl _) HU0.out
              have hud2 : wr.cell? ⟨bd, od + q, none⟩ = some (.int .i64 (c : Int)) := later HBW2.out (Nat.le_refl _) HUD.out
              have HR2 := Lib.hid hr2
              clear hu2 hr2
              have hql' : q < ms.length := by omega
              go_wp2
              have hw1 : IntKind.i64.wrap ((q : Int) + 1 - 1) = (q : Int) := by rw [show (q : Int) + 1 - 1 = q by omega]; exact IntWalk.i64_in _ (by omega)
              have hw2 : IntKind.i64.wrap (q : Int) = (q : Int) := IntWalk.i64_in _ (by omega)
              have hq0 : (0 : Int) ≤ (q : Int) := by omega
              have hq1 : (q : Int) < (ms.length : Int) := by omega
              have hq2 : (q : Int) < (ds.length : Int) := by omega
              go_still_tail 15, (by kernel_rfl)
              change wpList _ _ _ _ _ wr.drew
              clear hw1 hw2 hq0 hq1 hq2
              have HBD := Lib.hid (HBW2.out.drew)
              have hall := HAP.out j hltj
              have hlen : (apT p c t1[j] t0).length ≤ 40 := by rw [apT_length hall]; omega
              have HALLJ := Lib.hid hall
              have HLEN := Lib.hid hlen
              clear hall hlen
              go_wp2_with fail
              refine (applyTable_any p c u2 u0 t1[j] t0 _ HALLJ.out (HR2.out.below HBD.out) (HR0'.out.below HBD.out) (HRLL.out j hltj) (by omega)).mono ?_
              rintro e w1 ⟨u, rfl, hru, hb1⟩
              have HRU := Lib.hid hru
              have HB1 := Lib.hid (HBEL2.out.drew.trans (hb1.mono (by have := HBEL2.out.size; simp at this; simp; omega)))
              clear hru hb1
              go_wp2_with fail
              refine (vectorOf_any u (apT p c t1[j] t0) _ (HRU.out.lower (Nat.zero_le _)) HLEN.out).mono ?_
              rintro e w2 ⟨rfl, hb2⟩
              have HB2 := Lib.hid (HB1.out.trans (hb2.mono (by have := HB1.out.size; simp at this; omega)))
              have HB2W := Lib.hid (HB0.out.trans (HB2.out.mono (Nat.le_succ _)))
              clear hb2
              have hneq := neq_zero HLEN.out
              by_cases hz : ∀ x ∈ apT p c t1[j] t0, x = 0
              · rw [decide_eq_true hz] at hneq
                have HZ := Lib.hid hz
                clear hz
                go_wp2
                go_roundw
                case rel => exact ⟨j + 1, by omega, by go_num, HB2.out, Lib.hid (fun j2 hj2 hlt2 => by
                  by_cases e : j2 = j
                  · subst e; exact HZ.out
                  · exact HJ.out j2 hj2 (by omega))⟩
                case measure => simp [intOf]; omega
              · rw [decide_eq_false hz] at hneq
                have HZ := Lib.hid hz
                clear hz
                go_wp2
                go_ret
                exact bb_false HB2W.out (HNOT.out j hltj HZ.out)
            · go_wp2
              go_roundw
              case rel => exact ⟨q + 1, by omega, by go_num, HBEL2.out, Lib.hid (HNEXT'.out (fun j2 hj2 => HJ.out j2 hj2 (by omega)))⟩
              case measure => simp [intOf]; omega
      · go_wp2
        go_ret
        exact bb_true HBW.out (fun q2 hq2 => HSQ.out q2 (by omega) hq2)
end Go.Proofs.YtpdkfidmmjlmnabDoor

namespace Go.Proofs.YtpdkfidmmjlmnabDoor
open Go.RowKit

def IsCx (p : Int) (ds : List Int) (ms : List (List (List Int))) : Prop := PreOk p ds ms ∧ SqOk p ds ms

theorem bw_yes {f : FuncId} {args : Array Value} {w : World} {P : Prop} (h : Calls Tryd.prog f args w (BW P w)) (hp : P) : Calls Tryd.prog f args w (QW (.bool true) w) :=
  h.mono fun _ _ ⟨b, he, hw, hb⟩ => ⟨by rw [he, hb.2 hp], hw⟩
theorem bw_no {f : FuncId} {args : Array Value} {w : World} {P : Prop} (h : Calls Tryd.prog f args w (BW P w)) (hp : ¬ P) : Calls Tryd.prog f args w (QW (.bool false) w) :=
  h.mono fun _ _ ⟨b, he, hw, hb⟩ => ⟨by
    have : b = false := by cases b with | false => rfl | true => exact absurd (hb.1 rfl) hp
    rw [he, this], hw⟩
theorem qw_quiet {f : FuncId} {args : Array Value} {w : World} {n : Nat} {v : Value} (h : Calls Tryd.prog f args (w.drewN n) (QW v (w.drewN n))) : Calls Tryd.prog f args (w.drewN n) fun e w'' => e = .returned v ∧ ∃ m, w'' = w.drewN m :=
  h.mono fun _ _ ⟨he, hw⟩ => ⟨he, n, hw.symm⟩

theorem topOf_any (p : Int) (dv mv : Value) (n : Nat) (ad : Option Addr) (cap : Nat) (w : World) (hd : dv = .slice ad n cap) (hn : n ≤ 1048576) :
    Calls Tryd.prog 39 #[.agg #[.int .i64 p, dv, mv]] w (BR (.int .i64 ((n : Int) - 1)) w) := by
  subst hd
  have hb0 : Below w.heap.size w (w.alloc (.cells #[.int .i64 p, .slice ad n cap, mv] 28)) := (Below.refl _ _).alloc (Nat.le_refl _) _
  have HB0 := Lib.hid hb0
  clear hb0
  go_enter Tryd.func39, Tryd.ntmps39
  go_wp2
  go_ret
  exact ⟨rfl, HB0.out⟩

/-- What stands in the boxes of a call over a complex, in whatever later world. -/
structure Bx (w wr : World) (b : Nat) (p : Int) (dv mv : Value) (ds : List Int) (ms : List (List (List Int))) : Prop where
  below : Below w.heap.size w wr
  c0 : wr.cell? ⟨b, 0, none⟩ = some (.int .i64 p)
  c1 : wr.cell? ⟨b, 1, none⟩ = some dv
  c2 : wr.cell? ⟨b, 2, none⟩ = some mv
  lt : b < wr.heap.size
  cx : Cx 0 wr dv mv ds ms
theorem Bx.next {w wr w' : World} {b : Nat} {p : Int} {dv mv : Value} {ds : List Int} {ms : List (List (List Int))} (h : Bx w wr b p dv mv ds ms) (hb : Below wr.heap.size wr w') : Bx w w' b p dv mv ds ms :=
  ⟨h.below.trans (hb.mono h.below.size), later hb (Nat.le_refl _) h.c0, later hb (Nat.le_refl _) h.c1, later hb (Nat.le_refl _) h.c2, Nat.lt_of_lt_of_le h.lt hb.size, h.cx.below hb⟩
theorem Bx.start {w : World} {p : Int} {dv mv : Value} {ds : List Int} {ms : List (List (List Int))} (t : TypeId) (h : Cx 0 w dv mv ds ms) : Bx w (w.alloc (.cells #[.int .i64 p, dv, mv] t)) w.heap.size p dv mv ds ms :=
  ⟨(Below.refl _ _).alloc (Nat.le_refl _) _, by simp, by simp, by simp, by simp, h.below ((Below.refl _ _).alloc (Nat.le_refl _) _)⟩

/-- The sizes that hasSizes asks. -/
structure SizesOk (g lo hi : Int) (ds : List Int) (ms : List (List (List Int))) : Prop where
  len0 : 1 ≤ ds.length
  len1 : ds.length ≤ 6
  mlen : ms.length + 1 = ds.length
  dims : AllIn 0 g ds
  tabs : ∀ k, k < ms.length → TabIn lo hi (ds.getD (k + 1) 0) (ds.getD k 0) (ms.getD k [])
theorem pre_sizes {p : Int} {ds : List Int} {ms : List (List (List Int))} (hp : IsP p) (h : SizesOk 8 0 (p - 1) ds ms) : PreOk p ds ms := ⟨hp, h.len0, h.len1, h.mlen, h.dims, h.tabs⟩
theorem sizes_pre {p : Int} {ds : List Int} {ms : List (List (List Int))} (h : PreOk p ds ms) : SizesOk 8 0 (p - 1) ds ms := ⟨h.len0, h.len1, h.mlen, h.dims, h.tabs⟩

theorem hloadC0 (w : World) {b : Nat} {p : Int} {dv mv : Value} (c0 : w.cell? ⟨b, 0, none⟩ = some (.int .i64 p)) (c1 : w.cell? ⟨b, 1, none⟩ = some dv) (c2 : w.cell? ⟨b, 2, none⟩ = some mv) : (Instr.loadAt 28 (.pointer (some ⟨b, 0, none⟩))).run Tryd.prog w = .ok (.agg #[.int .i64 p, dv, mv]) w := by go_simp
theorem hloadM0 (w : World) {b o : Nat} {x : Value} (h : w.cell? ⟨b, o, none⟩ = some x) : (Instr.loadAt 23 (.pointer (some ⟨b, o, none⟩))).run Tryd.prog w = .ok x w := by go_simp
theorem hloadD0 (w : World) {b o : Nat} {x : Value} (h : w.cell? ⟨b, o, none⟩ = some x) : (Instr.loadAt 22 (.pointer (some ⟨b, o, none⟩))).run Tryd.prog w = .ok x w := by go_simp
theorem hneqI0 {a b : Int} {c : Bool} (h : (a != b) = c) (w : World) : (binOp .neq 2 (.int .i64 a) (.int .i64 b)).run Tryd.prog w = .ok (.bool c) w := by subst h; go_simp
section
variable {P : Program} {md : Region.Mode} {ops : Array Oper} {Q : Exit → Act → World → Prop} {S : World → Prop}
theorem yieldsIf_run0 {o : Oper} {a : Act} {v : Value} (hg : o.guard = none) (hrun : ∀ w, S w → (execOp a.eval o).run P w = .ok (.value v) w) : YieldsIf P ops S o v a :=
  Or.inl ⟨by unfold Region.wanted; rw [hg], hrun⟩
theorem yieldsIf_binG {o : Oper} {a : Act} {x y : Operand} {v u i : Value} {b : BinOp} {t t' : TypeId} (hw : Region.wanted o (yielded ops a.tmps) = true) (ho : o.op = .binOp b t x y t') (hx : a.eval x = u) (hy : a.eval y = i) (hge : ∀ w, (eqGuard b t x y u i).run P w = .ok () w) (hrun : ∀ w, (binOp b t u i).run P w = .ok v w) : YieldsIf P ops S o v a :=
  Or.inl ⟨hw, fun w _ => by
    unfold execOp
    simp only [ho, hx, hy, Sem.run_bind, hge w, hrun w, Result.andThen_ok]
    rfl⟩
end

set_option maxHeartbeats 3200000 in
set_option maxRecDepth 100000 in
theorem hasSizes_any (p g lo hi : Int) (dv mv : Value) (ds : List Int) (ms : List (List (List Int))) (w : World) (h : Cx 0 w dv mv ds ms) (hd : ds.length ≤ 1048576) (hm : Bd3 1048576 ms) :
    Calls Tryd.prog 80 #[.agg #[.int .i64 p, dv, mv], .int .i64 g, .int .i64 lo, .int .i64 hi] w (BB (SizesOk g lo hi ds ms) w) := by
  have hml : ms.length ≤ 1048576 := hm.1
  have HM := Lib.hid hm
  clear hm
  obtain ⟨ad, cap, rfl⟩ := Sl.shape h.dims
  obtain ⟨am, capm, rfl⟩ := Sl.shape h.maps
  have hx0 := Bx.start (p := p) 28 h
  clear h
  obtain ⟨w1, hw1⟩ : ∃ w1, w1 = w.alloc (.cells #[.int .i64 p, .slice ad ds.length cap, .slice am ms.length capm] 28) := ⟨_, rfl⟩
  rw [← hw1] at hx0
  have HX1 := Lib.hid hx0
  have c0 := hx0.c0
  have c1 := hx0.c1
  have c2 := hx0.c2
  clear hx0
  have HTOP := Lib.hid (fun W => topOf_any p (.slice ad ds.length cap) (.slice am ms.length capm) ds.length ad cap W rfl hd)
  have HDIM : Hid (∀ W, Below w1.heap.size w1 W → Calls Tryd.prog 82 #[.slice ad ds.length cap, .int .i64 0, .int .i64 g] W (BW (AllIn 0 g ds) W)) := Lib.hid (fun W h => areWithin_any 0 g _ ds W (HX1.out.cx.below h).dims hd)
  have HDD : Hid (Below w1.heap.size w1 w1.drew) := Lib.hid (Below.refl _ _).drew
  by_cases hr : 0 ≤ (ds.length : Int) - 1 ∧ (ds.length : Int) - 1 ≤ 5
  · have HR := Lib.hid hr
    have HIN := Lib.hid (fun W => in_yes (n := (ds.length : Int) - 1) (lo := 0) (hi := 5) HR.out W)
    by_cases hl : (ms.length : Int) = (ds.length : Int) - 1
    · have HNEQ : Hid (∀ W, (binOp .neq 2 (.int .i64 ms.length) (.int .i64 ((ds.length : Int) - 1))).run Tryd.prog W = .ok (.bool false) W) := Lib.hid (fun W => hneqI0 (by simp [hl]) W)
      have HL := Lib.hid hl
      clear hl hr
      go_enter Tryd.func80, Tryd.ntmps80
      go_upto_region 1 with fail
      rw [← hw1]
      clear hw1
      refine wp_region_held_drew (S := fun W => Hid (Below w1.heap.size w1 W)) (by kernel_rfl) HDD (fun _ => ?_)
      refine held_take (i := 0) (v := (.agg #[.int .i64 p, .slice ad ds.length cap, .slice am ms.length capm])) (some 11) rfl rfl (by kernel_rfl) (by kernel_rfl) (by kernel_rfl) (fun _ _ _ h => h) (yieldsIf_cell (by kernel_rfl) rfl (by kernel_rfl) (fun W h => hloadC0 W (later h.out (Nat.le_refl _) c0) (later h.out (Nat.le_refl _) c1) (later h.out (Nat.le_refl _) c2))) HDD ?_
      refine held_enter (i := 1) (some 12) (f := 39) (args := #[(.agg #[.int .i64 p, .slice ad ds.length cap, .slice am ms.length capm])]) (by kernel_rfl) rfl rfl rfl (by kernel_rfl) (HTOP.out _) ?_ (fun c w' h => by cases h.1) (fun w' h => by cases h.1)
      rintro e4 w4 ⟨he4, hb4⟩
      injection he4 with he4
      subst he4
      have HB4 : Hid (Below w1.heap.size w1 w4) := Lib.hid (HDD.out.trans hb4)
      clear hb4
      refine ⟨HB4, ?_⟩
      refine held_enter (i := 2) (some 13) (f := 55) (args := #[.int .i64 ((ds.length : Int) - 1), .int .i64 0, .int .i64 5]) (by kernel_rfl) rfl rfl rfl (by kernel_rfl) (HIN.out _) ?_ (fun c w' h => by cases h.1) (fun w' h => by cases h.1)
      rintro e5 w5 ⟨he5, hw5⟩
      injection he5 with he5
      subst he5 hw5
      refine ⟨HB4, ?_⟩
      refine held_take (i := 3) (v := .bool false) (some 14) rfl rfl (by kernel_rfl) (by kernel_rfl) (by kernel_rfl) (fun _ _ _ h => h) (yieldsIf_run0 (by kernel_rfl) (fun W _ => by kernel_rfl)) HB4 ?_
      refine held_take (i := 4) (v := .bool false) (some 15) rfl rfl (by kernel_rfl) (by kernel_rfl) (by kernel_rfl) (fun _ _ _ h => h) (yieldsIf_move (by kernel_rfl) rfl (by kernel_rfl)) HB4 ?_
      refine held_take (i := 5) (v := .pointer (some ⟨w.heap.size, 2, none⟩)) (some 16) rfl rfl (by kernel_rfl) (by kernel_rfl) (by kernel_rfl) (fun _ _ _ h => h) (yieldsIf_runG (by kernel_rfl) (fun W _ => by kernel_rfl)) HB4 ?_
      refine held_take (i := 6) (v := .slice am ms.length capm) (some 17) rfl rfl (by kernel_rfl) (by kernel_rfl) (by kernel_rfl) (fun _ _ _ h => h) (yieldsIf_cellG (by kernel_rfl) rfl (by kernel_rfl) (fun W h => hloadM0 W (later h.out (Nat.le_refl _) c2))) HB4 ?_
      refine held_take (i := 7) (v := .int .i64 ms.length) (some 18) rfl rfl (by kernel_rfl) (by kernel_rfl) (by kernel_rfl) (fun _ _ _ h => h) (yieldsIf_runG (by kernel_rfl) (fun W _ => by kernel_rfl)) HB4 ?_
      refine held_take (i := 8) (v := (.agg #[.int .i64 p, .slice ad ds.length cap, .slice am ms.length capm])) (some 19) rfl rfl (by kernel_rfl) (by kernel_rfl) (by kernel_rfl) (fun _ _ _ h => h) (yieldsIf_cellG (by kernel_rfl) rfl (by kernel_rfl) (fun W h => hloadC0 W (later h.out (Nat.le_refl _) c0) (later h.out (Nat.le_refl _) c1) (later h.out (Nat.le_refl _) c2))) HB4 ?_
      refine held_enterG (i := 9) (some 20) (f := 39) (args := #[(.agg #[.int .i64 p, .slice ad ds.length cap, .slice am ms.length capm])]) (by kernel_rfl) rfl (by kernel_rfl) rfl (by kernel_rfl) (HTOP.out _) ?_ (fun c w' h => by cases h.1) (fun w' h => by cases h.1)
      rintro e5 w5 ⟨he5, hb5⟩
      injection he5 with he5
      subst he5
      have HB5 : Hid (Below w1.heap.size w1 w5) := Lib.hid (HB4.out.trans (hb5.mono HB4.out.size))
      clear hb5
      refine ⟨HB5, ?_⟩
      refine held_take (i := 10) (v := .bool false) (some 21) rfl rfl (by kernel_rfl) (by kernel_rfl) (by kernel_rfl) (fun _ _ _ h => h) (yieldsIf_binG (by kernel_rfl) rfl (by kernel_rfl) (by kernel_rfl) (fun _ => by kernel_rfl) (fun W => HNEQ.out W)) HB5 ?_
      refine held_take (i := 11) (v := .bool false) (some 22) rfl rfl (by kernel_rfl) (by kernel_rfl) (by kernel_rfl) (fun _ _ _ h => h) (yieldsIf_run0 (by kernel_rfl) (fun W _ => by kernel_rfl)) HB5 ?_
      refine held_take (i := 12) (v := .bool false) (some 23) rfl rfl (by kernel_rfl) (by kernel_rfl) (by kernel_rfl) (fun _ _ _ h => h) (yieldsIf_move (by kernel_rfl) rfl (by kernel_rfl)) HB5 ?_
      refine held_take (i := 13) (v := .pointer (some ⟨w.heap.size, 1, none⟩)) (some 24) rfl rfl (by kernel_rfl) (by kernel_rfl) (by kernel_rfl) (fun _ _ _ h => h) (yieldsIf_runG (by kernel_rfl) (fun W _ => by kernel_rfl)) HB5 ?_
      refine held_take (i := 14) (v := .slice ad ds.length cap) (some 25) rfl rfl (by kernel_rfl) (by kernel_rfl) (by kernel_rfl) (fun _ _ _ h => h) (yieldsIf_cellG (by kernel_rfl) rfl (by kernel_rfl) (fun W h => hloadD0 W (later h.out (Nat.le_refl _) c1))) HB5 ?_
      refine held_take (i := 15) (v := .int .i64 g) (some 26) rfl rfl (by kernel_rfl) (by kernel_rfl) (by kernel_rfl) (fun _ _ _ h => h) (yieldsIf_runG (by kernel_rfl) (fun W _ => by kernel_rfl)) HB5 ?_
      refine held_enterG (i := 16) (some 27) (f := 82) (args := #[.slice ad ds.length cap, .int .i64 0, .int .i64 g]) (by kernel_rfl) rfl (by kernel_rfl) rfl (by kernel_rfl) (HDIM.out _ HB5.out) ?_ (fun c w' h => by obtain ⟨_, h, _⟩ := h; cases h) (fun w' h => by obtain ⟨_, h, _⟩ := h; cases h)
      rintro e6 w6 ⟨bb, he6, hw6, hbb⟩
      injection he6 with he6
      subst he6 hw6
      have HBB := Lib.hid hbb
      clear hbb
      refine ⟨HB5, ?_⟩
      refine held_take (i := 17) (v := .bool (!bb)) (some 28) rfl rfl (by kernel_rfl) (by kernel_rfl) (by kernel_rfl) (fun _ _ _ h => h) (yieldsIf_runG (by kernel_rfl) (fun W _ => by kernel_rfl)) HB5 ?_
      refine held_take (i := 18) (v := .bool (!bb)) (some 29) rfl rfl (by kernel_rfl) (by kernel_rfl) (by kernel_rfl) (fun _ _ _ h => h) (yieldsIf_run0 (by kernel_rfl) (fun W _ => by kernel_rfl)) HB5 ?_
      refine wpAnyH_done (by kernel_rfl) ?_ _
      simp only [Act.put, List.setIfInBounds_toArray, List.set_cons_zero, List.set_cons_succ]
      have HX5 := Lib.hid (HX1.out.next HB5.out)
      clear c0 c1 c2 HTOP HDIM HDD HNEQ HIN HB4
      cases bb with
      | false =>
        have HBF : Hid (¬ AllIn 0 g ds) := Lib.hid (fun h => absurd (HBB.out.2 h) (by simp))
        clear HBB
        go_wp2
        go_ret
        exact bb_false HX5.out.below (fun h => HBF.out h.dims)
      | true =>
        have HDIMS : Hid (AllIn 0 g ds) := Lib.hid (HBB.out.1 (by simp))
        have c2 := HX5.out.c2
        clear HBB
        simp only [Bool.not_true]
        go_wp2
        clear c2
        go_loopw [9, 10, 33] (fun _ _ i wr => ∃ (k m : Nat), k ≤ ms.length ∧ i = .int .i64 k ∧ wr = w5.drewN m ∧ Hid (∀ j, j < ms.length → j < k → TabIn lo hi (ds.getD (j + 1) 0) (ds.getD j 0) (ms.getD j []))) (fun _ _ i _ => ms.length - (intOf i).toNat)
        case atStart => exact ⟨0, 0, Nat.zero_le _, rfl, rfl, Lib.hid (fun _ _ h => absurd h (Nat.not_lt_zero _))⟩
        case round =>
          obtain ⟨k, m, hk, rfl, hw, HD⟩ := hrel
          have HXR : Hid (Bx w wr w.heap.size p (.slice ad ds.length cap) (.slice am ms.length capm) ds ms) := Lib.hid (by rw [hw]; exact HX5.out.next (drewN_below _ m))
          have HW := Lib.hid hw
          clear hw
          have c0 := HXR.out.c0
          have c1 := HXR.out.c1
          have c2 := HXR.out.c2
          by_cases hlt : k < ms.length
          · refine Sl.cases HXR.out.cx.dims (fun _ _ hx _ => absurd HR.out (by simp [hx])) (fun bd od capd hv _ hposd hcld => ?_)
            injection hv with e1 _ e3
            subst e1 e3
            refine Sl.cases HXR.out.cx.maps (fun _ _ hx _ => absurd hlt (by simp [hx])) (fun bm om capm2 hv _ hposm hclm => ?_)
            injection hv with e1 _ e3
            subst e1 e3
            have hd1 : k + 1 < ds.length := by have := HL.out; omega
            obtain ⟨u, hu, hr⟩ := hclm k hlt
            obtain ⟨v0, hv0, hr0⟩ := hcld k (by omega)
            obtain ⟨v1, hv1, hr1⟩ := hcld (k + 1) hd1
            rw [hr0] at hv0
            rw [hr1] at hv1
            obtain ⟨d0, hd0⟩ : ∃ d, d = ds[k] := ⟨_, rfl⟩
            obtain ⟨d1, hd1'⟩ : ∃ d, d = ds[k + 1] := ⟨_, rfl⟩
            rw [← hd0] at hv0
            rw [← hd1'] at hv1
            have HE := Lib.hid (fun (m2 : Nat) => isTableWithin_any lo hi d1 d0 u ms[k] (wr.drewN m2) (hr.below (drewN_below wr m2)) (HM.out.2 _ (List.getElem_mem hlt)))
            have HT : Hid (TabIn lo hi (ds.getD (k + 1) 0) (ds.getD k 0) (ms.getD k []) ↔ TabIn lo hi d1 d0 ms[k]) := Lib.hid (by rw [getD_of_lt _ hd1, getD_of_lt _ (by omega : k < ds.length), getD_of_lt _ hlt, hd0, hd1'])
            clear hr hr0 hr1 hcld hclm hd0 hd1'
            have hw1 : IntKind.i64.wrap ((k : Int) + 1) = (k : Int) + 1 := IntWalk.i64_in _ (by omega)
            have hq3 : (0 : Int) ≤ (k : Int) + 1 := by omega
            have hq4 : (k : Int) + 1 < (ds.length : Int) := by omega
            have hq5 : ((k : Int) + 1).toNat = k + 1 := by omega
            have hq6 : (k : Int) < (ds.length : Int) := by omega
            by_cases ht : TabIn lo hi d1 d0 ms[k]
            · have HEY : Hid (∀ m2, Calls Tryd.prog 73 #[u, .int .i64 d1, .int .i64 d0, .int .i64 lo, .int .i64 hi] (wr.drewN m2) (QW (.bool true) (wr.drewN m2))) := Lib.hid (fun m2 => bw_yes (HE.out m2) ht)
              have HTY := Lib.hid ht
              clear ht HE
              go_wp2
              go_quiet ((go_at_call 73; exact qw_quiet (HEY.out _)))
              clear hw1 hq3 hq4 hq5 hq6
              go_wp2
              go_roundw
              case rel => exact ⟨k + 1, m + nq, by omega, by go_num, by rw [HW.out, World.drewN_drewN], Lib.hid (fun j h1 hjk => by
                by_cases e : j = k
                · subst e; exact HT.out.2 HTY.out
                · exact HD.out j h1 (by omega))⟩
              case measure => simp [intOf]; omega
            · have HEY : Hid (∀ m2, Calls Tryd.prog 73 #[u, .int .i64 d1, .int .i64 d0, .int .i64 lo, .int .i64 hi] (wr.drewN m2) (QW (.bool false) (wr.drewN m2))) := Lib.hid (fun m2 => bw_no (HE.out m2) ht)
              have HTY := Lib.hid ht
              clear ht HE
              go_wp2
              go_quiet ((go_at_call 73; exact qw_quiet (HEY.out _)))
              clear hw1 hq3 hq4 hq5 hq6
              go_wp2
              go_ret
              exact bb_false (HXR.out.next (drewN_below _ nq)).below (fun h => HTY.out (HT.out.1 (h.tabs k hlt)))
          · go_wp2
            go_ret
            exact bb_true HXR.out.below ⟨by have := HR.out; omega, by have := HR.out; omega, by have := HL.out; omega, HDIMS.out, fun j hj => HD.out j hj (by omega)⟩
    · have HNEQ : Hid (∀ W, (binOp .neq 2 (.int .i64 ms.length) (.int .i64 ((ds.length : Int) - 1))).run Tryd.prog W = .ok (.bool true) W) := Lib.hid (fun W => hneqI0 (by simp [hl]) W)
      have HL := Lib.hid hl
      clear hl hr
      go_enter Tryd.func80, Tryd.ntmps80
      go_upto_region 1 with fail
      rw [← hw1]
      clear hw1
      refine wp_region_held_drew (S := fun W => Hid (Below w1.heap.size w1 W)) (by kernel_rfl) HDD (fun _ => ?_)
      refine held_take (i := 0) (v := (.agg #[.int .i64 p, .slice ad ds.length cap, .slice am ms.length capm])) (some 11) rfl rfl (by kernel_rfl) (by kernel_rfl) (by kernel_rfl) (fun _ _ _ h => h) (yieldsIf_cell (by kernel_rfl) rfl (by kernel_rfl) (fun W h => hloadC0 W (later h.out (Nat.le_refl _) c0) (later h.out (Nat.le_refl _) c1) (later h.out (Nat.le_refl _) c2))) HDD ?_
      refine held_enter (i := 1) (some 12) (f := 39) (args := #[(.agg #[.int .i64 p, .slice ad ds.length cap, .slice am ms.length capm])]) (by kernel_rfl) rfl rfl rfl (by kernel_rfl) (HTOP.out _) ?_ (fun c w' h => by cases h.1) (fun w' h => by cases h.1)
      rintro e4 w4 ⟨he4, hb4⟩
      injection he4 with he4
      subst he4
      have HB4 : Hid (Below w1.heap.size w1 w4) := Lib.hid (HDD.out.trans hb4)
      clear hb4
      refine ⟨HB4, ?_⟩
      refine held_enter (i := 2) (some 13) (f := 55) (args := #[.int .i64 ((ds.length : Int) - 1), .int .i64 0, .int .i64 5]) (by kernel_rfl) rfl rfl rfl (by kernel_rfl) (HIN.out _) ?_ (fun c w' h => by cases h.1) (fun w' h => by cases h.1)
      rintro e5 w5 ⟨he5, hw5⟩
      injection he5 with he5
      subst he5 hw5
      refine ⟨HB4, ?_⟩
      refine held_take (i := 3) (v := .bool false) (some 14) rfl rfl (by kernel_rfl) (by kernel_rfl) (by kernel_rfl) (fun _ _ _ h => h) (yieldsIf_run0 (by kernel_rfl) (fun W _ => by kernel_rfl)) HB4 ?_
      refine held_take (i := 4) (v := .bool false) (some 15) rfl rfl (by kernel_rfl) (by kernel_rfl) (by kernel_rfl) (fun _ _ _ h => h) (yieldsIf_move (by kernel_rfl) rfl (by kernel_rfl)) HB4 ?_
      refine held_take (i := 5) (v := .pointer (some ⟨w.heap.size, 2, none⟩)) (some 16) rfl rfl (by kernel_rfl) (by kernel_rfl) (by kernel_rfl) (fun _ _ _ h => h) (yieldsIf_runG (by kernel_rfl) (fun W _ => by kernel_rfl)) HB4 ?_
      refine held_take (i := 6) (v := .slice am ms.length capm) (some 17) rfl rfl (by kernel_rfl) (by kernel_rfl) (by kernel_rfl) (fun _ _ _ h => h) (yieldsIf_cellG (by kernel_rfl) rfl (by kernel_rfl) (fun W h => hloadM0 W (later h.out (Nat.le_refl _) c2))) HB4 ?_
      refine held_take (i := 7) (v := .int .i64 ms.length) (some 18) rfl rfl (by kernel_rfl) (by kernel_rfl) (by kernel_rfl) (fun _ _ _ h => h) (yieldsIf_runG (by kernel_rfl) (fun W _ => by kernel_rfl)) HB4 ?_
      refine held_take (i := 8) (v := (.agg #[.int .i64 p, .slice ad ds.length cap, .slice am ms.length capm])) (some 19) rfl rfl (by kernel_rfl) (by kernel_rfl) (by kernel_rfl) (fun _ _ _ h => h) (yieldsIf_cellG (by kernel_rfl) rfl (by kernel_rfl) (fun W h => hloadC0 W (later h.out (Nat.le_refl _) c0) (later h.out (Nat.le_refl _) c1) (later h.out (Nat.le_refl _) c2))) HB4 ?_
      refine held_enterG (i := 9) (some 20) (f := 39) (args := #[(.agg #[.int .i64 p, .slice ad ds.length cap, .slice am ms.length capm])]) (by kernel_rfl) rfl (by kernel_rfl) rfl (by kernel_rfl) (HTOP.out _) ?_ (fun c w' h => by cases h.1) (fun w' h => by cases h.1)
      rintro e5 w5 ⟨he5, hb5⟩
      injection he5 with he5
      subst he5
      have HB5 : Hid (Below w1.heap.size w1 w5) := Lib.hid (HB4.out.trans (hb5.mono HB4.out.size))
      clear hb5
      refine ⟨HB5, ?_⟩
      refine held_take (i := 10) (v := .bool true) (some 21) rfl rfl (by kernel_rfl) (by kernel_rfl) (by kernel_rfl) (fun _ _ _ h => h) (yieldsIf_binG (by kernel_rfl) rfl (by kernel_rfl) (by kernel_rfl) (fun _ => by kernel_rfl) (fun W => HNEQ.out W)) HB5 ?_
      refine held_take (i := 11) (v := .bool true) (some 22) rfl rfl (by kernel_rfl) (by kernel_rfl) (by kernel_rfl) (fun _ _ _ h => h) (yieldsIf_run0 (by kernel_rfl) (fun W _ => by kernel_rfl)) HB5 ?_
      refine held_take (i := 12) (v := .bool true) (some 23) rfl rfl (by kernel_rfl) (by kernel_rfl) (by kernel_rfl) (fun _ _ _ h => h) (yieldsIf_move (by kernel_rfl) rfl (by kernel_rfl)) HB5 ?_
      refine held_skip0 (i := 13) (some 24) rfl rfl (by kernel_rfl) (by kernel_rfl) (by kernel_rfl) (fun _ _ _ h => h) (by kernel_rfl) HB5 ?_
      refine held_skip0 (i := 14) (some 25) rfl rfl (by kernel_rfl) (by kernel_rfl) (by kernel_rfl) (fun _ _ _ h => h) (by kernel_rfl) HB5 ?_
      refine held_skip0 (i := 15) (some 26) rfl rfl (by kernel_rfl) (by kernel_rfl) (by kernel_rfl) (fun _ _ _ h => h) (by kernel_rfl) HB5 ?_
      refine held_skip0 (i := 16) (some 27) rfl rfl (by kernel_rfl) (by kernel_rfl) (by kernel_rfl) (fun _ _ _ h => h) (by kernel_rfl) HB5 ?_
      refine held_skip0 (i := 17) (some 28) rfl rfl (by kernel_rfl) (by kernel_rfl) (by kernel_rfl) (fun _ _ _ h => h) (by kernel_rfl) HB5 ?_
      refine held_take (i := 18) (v := .bool true) (some 29) rfl rfl (by kernel_rfl) (by kernel_rfl) (by kernel_rfl) (fun _ _ _ h => h) (yieldsIf_run0 (by kernel_rfl) (fun W _ => by kernel_rfl)) HB5 ?_
      refine wpAnyH_done (by kernel_rfl) ?_ _
      simp only [Act.put, List.setIfInBounds_toArray, List.set_cons_zero, List.set_cons_succ]
      have HX5 := Lib.hid (HX1.out.next HB5.out)
      clear c0 c1 c2 HTOP HDIM HDD HNEQ HIN HB4
      go_wp2
      go_ret
      exact bb_false HX5.out.below (fun h => HL.out (by have := h.mlen; omega))
  · have HR := Lib.hid hr
    have HIN := Lib.hid (fun W => in_no (n := (ds.length : Int) - 1) (lo := 0) (hi := 5) HR.out W)
    clear hr
    go_enter Tryd.func80, Tryd.ntmps80
    go_upto_region 1 with fail
    rw [← hw1]
    clear hw1
    refine wp_region_held_drew (S := fun W => Hid (Below w1.heap.size w1 W)) (by kernel_rfl) HDD (fun _ => ?_)
    refine held_take (i := 0) (v := (.agg #[.int .i64 p, .slice ad ds.length cap, .slice am ms.length capm])) (some 11) rfl rfl (by kernel_rfl) (by kernel_rfl) (by kernel_rfl) (fun _ _ _ h => h) (yieldsIf_cell (by kernel_rfl) rfl (by kernel_rfl) (fun W h => hloadC0 W (later h.out (Nat.le_refl _) c0) (later h.out (Nat.le_refl _) c1) (later h.out (Nat.le_refl _) c2))) HDD ?_
    refine held_enter (i := 1) (some 12) (f := 39) (args := #[(.agg #[.int .i64 p, .slice ad ds.length cap, .slice am ms.length capm])]) (by kernel_rfl) rfl rfl rfl (by kernel_rfl) (HTOP.out _) ?_ (fun c w' h => by cases h.1) (fun w' h => by cases h.1)
    rintro e4 w4 ⟨he4, hb4⟩
    injection he4 with he4
    subst he4
    have HB4 : Hid (Below w1.heap.size w1 w4) := Lib.hid (HDD.out.trans hb4)
    clear hb4
    refine ⟨HB4, ?_⟩
    refine held_enter (i := 2) (some 13) (f := 55) (args := #[.int .i64 ((ds.length : Int) - 1), .int .i64 0, .int .i64 5]) (by kernel_rfl) rfl rfl rfl (by kernel_rfl) (HIN.out _) ?_ (fun c w' h => by cases h.1) (fun w' h => by cases h.1)
    rintro e5 w5 ⟨he5, hw5⟩
    injection he5 with he5
    subst he5 hw5
    refine ⟨HB4, ?_⟩
    refine held_take (i := 3) (v := .bool true) (some 14) rfl rfl (by kernel_rfl) (by kernel_rfl) (by kernel_rfl) (fun _ _ _ h => h) (yieldsIf_run0 (by kernel_rfl) (fun W _ => by kernel_rfl)) HB4 ?_
    refine held_take (i := 4) (v := .bool true) (some 15) rfl rfl (by kernel_rfl) (by kernel_rfl) (by kernel_rfl) (fun _ _ _ h => h) (yieldsIf_move (by kernel_rfl) rfl (by kernel_rfl)) HB4 ?_
    refine held_skip0 (i := 5) (some 16) rfl rfl (by kernel_rfl) (by kernel_rfl) (by kernel_rfl) (fun _ _ _ h => h) (by kernel_rfl) HB4 ?_
    refine held_skip0 (i := 6) (some 17) rfl rfl (by kernel_rfl) (by kernel_rfl) (by kernel_rfl) (fun _ _ _ h => h) (by kernel_rfl) HB4 ?_
    refine held_skip0 (i := 7) (some 18) rfl rfl (by kernel_rfl) (by kernel_rfl) (by kernel_rfl) (fun _ _ _ h => h) (by kernel_rfl) HB4 ?_
    refine held_skip0 (i := 8) (some 19) rfl rfl (by kernel_rfl) (by kernel_rfl) (by kernel_rfl) (fun _ _ _ h => h) (by kernel_rfl) HB4 ?_
    refine held_skip0 (i := 9) (some 20) rfl rfl (by kernel_rfl) (by kernel_rfl) (by kernel_rfl) (fun _ _ _ h => h) (by kernel_rfl) HB4 ?_
    refine held_skip0 (i := 10) (some 21) rfl rfl (by kernel_rfl) (by kernel_rfl) (by kernel_rfl) (fun _ _ _ h => h) (by kernel_rfl) HB4 ?_
    refine held_take (i := 11) (v := .bool true) (some 22) rfl rfl (by kernel_rfl) (by kernel_rfl) (by kernel_rfl) (fun _ _ _ h => h) (yieldsIf_run0 (by kernel_rfl) (fun W _ => by kernel_rfl)) HB4 ?_
    refine held_take (i := 12) (v := .bool true) (some 23) rfl rfl (by kernel_rfl) (by kernel_rfl) (by kernel_rfl) (fun _ _ _ h => h) (yieldsIf_move (by kernel_rfl) rfl (by kernel_rfl)) HB4 ?_
    refine held_skip0 (i := 13) (some 24) rfl rfl (by kernel_rfl) (by kernel_rfl) (by kernel_rfl) (fun _ _ _ h => h) (by kernel_rfl) HB4 ?_
    refine held_skip0 (i := 14) (some 25) rfl rfl (by kernel_rfl) (by kernel_rfl) (by kernel_rfl) (fun _ _ _ h => h) (by kernel_rfl) HB4 ?_
    refine held_skip0 (i := 15) (some 26) rfl rfl (by kernel_rfl) (by kernel_rfl) (by kernel_rfl) (fun _ _ _ h => h) (by kernel_rfl) HB4 ?_
    refine held_skip0 (i := 16) (some 27) rfl rfl (by kernel_rfl) (by kernel_rfl) (by kernel_rfl) (fun _ _ _ h => h) (by kernel_rfl) HB4 ?_
    refine held_skip0 (i := 17) (some 28) rfl rfl (by kernel_rfl) (by kernel_rfl) (by kernel_rfl) (fun _ _ _ h => h) (by kernel_rfl) HB4 ?_
    refine held_take (i := 18) (v := .bool true) (some 29) rfl rfl (by kernel_rfl) (by kernel_rfl) (by kernel_rfl) (fun _ _ _ h => h) (yieldsIf_run0 (by kernel_rfl) (fun W _ => by kernel_rfl)) HB4 ?_
    refine wpAnyH_done (by kernel_rfl) ?_ _
    simp only [Act.put, List.setIfInBounds_toArray, List.set_cons_zero, List.set_cons_succ]
    have HX5 := Lib.hid (HX1.out.next HB4.out)
    clear c0 c1 c2 HTOP HDIM HDD HIN
    go_wp2
    go_ret
    exact bb_false HX5.out.below (fun h => HR.out (by have := h.len0; have := h.len1; omega))

set_option maxHeartbeats 3200000 in
set_option maxRecDepth 100000 in
theorem isComplex_any (p : Int) (dv mv : Value) (ds : List Int) (ms : List (List (List Int))) (w : World) (h : Cx 0 w dv mv ds ms) (hd : ds.length ≤ 1048576) (hm : Bd3 1048576 ms) :
    Calls Tryd.prog 72 #[.agg #[.int .i64 p, dv, mv]] w (BB (IsCx p ds ms) w) := by
  have HM := Lib.hid hm
  have HD := Lib.hid hd
  clear hm hd
  obtain ⟨ad, cap, rfl⟩ := Sl.shape h.dims
  obtain ⟨am, capm, rfl⟩ := Sl.shape h.maps
  have hx0 := Bx.start (p := p) 28 h
  clear h
  obtain ⟨w1, hw1⟩ : ∃ w1, w1 = w.alloc (.cells #[.int .i64 p, .slice ad ds.length cap, .slice am ms.length capm] 28) := ⟨_, rfl⟩
  rw [← hw1] at hx0
  have HX1 := Lib.hid hx0
  have c0 := hx0.c0
  have c1 := hx0.c1
  have c2 := hx0.c2
  clear hx0
  by_cases hp : IsP p
  · have HP := Lib.hid hp
    have hp0 := hp.lo
    have hp1 := hp.hi
    clear hp
    go_enter Tryd.func72, Tryd.ntmps72
    go_upto_region 1 with fail
    rw [← hw1]
    clear hw1
    go_wp2_with fail
    refine (prime_yes HP.out _).mono ?_
    rintro e w' ⟨rfl, rfl⟩
    go_wp2_with fail
    refine (hasSizes_any p 8 0 (p - 1) _ _ ds ms _ HX1.out.cx HD.out HM.out).mono ?_
    rintro e w2 ⟨bb, rfl, hb2, hbb⟩
    have HX2 := Lib.hid (HX1.out.next hb2)
    have HBB := Lib.hid hbb
    clear hbb hb2 c0 c1 c2
    cases bb with
    | true =>
      have HPRE : Hid (PreOk p ds ms) := Lib.hid (pre_sizes HP.out (HBB.out.1 (by simp)))
      have c0 := HX2.out.c0
      have c1 := HX2.out.c1
      have c2 := HX2.out.c2
      clear HBB
      go_wp2_with fail
      refine (squares_any p _ _ ds ms _ HX2.out.cx HPRE.out).mono ?_
      rintro e w3 ⟨bb, rfl, hb3, hbb⟩
      have HBB := Lib.hid hbb
      have HB3 := Lib.hid (HX2.out.next hb3).below
      clear hbb hb3
      go_wp2
      go_ret
      exact ⟨bb, rfl, HB3.out, ⟨fun h => ⟨HPRE.out, HBB.out.1 h⟩, fun h => HBB.out.2 h.2⟩⟩
    | false =>
      have HNO : Hid (¬ IsCx p ds ms) := Lib.hid (fun h => absurd (HBB.out.2 (sizes_pre h.1)) (by simp))
      clear HBB
      go_wp2
      go_ret
      exact bb_false HX2.out.below HNO.out
  · have HP := Lib.hid hp
    clear hp
    go_enter Tryd.func72, Tryd.ntmps72
    go_upto_region 1 with fail
    rw [← hw1]
    clear hw1
    go_wp2_with fail
    refine (prime_no HP.out _).mono ?_
    rintro e w' ⟨rfl, rfl⟩
    go_wp2
    go_ret
    exact bb_false HX1.out.below (fun h => HP.out h.1.prime)
end Go.Proofs.YtpdkfidmmjlmnabDoor

namespace Go.Proofs.YtpdkfidmmjlmnabDoor
open Go.RowKit

theorem IsCx.tab {p : Int} {ds : List Int} {ms : List (List (List Int))} (h : IsCx p ds ms) {k : Nat} (hk : k < ms.length) : TabOk p (ds.getD (k + 1) 0) (ds.getD k 0) (ms.getD k []) := h.1.tabs k hk

theorem leadOf_neg {xs : List Int} (h : ∀ x ∈ xs, x = 0) : leadOf xs = -1 := leadOf_zero (fun _ hj => h _ (List.getElem_mem hj))
theorem leadOf_pos {xs : List Int} (h : ¬ ∀ x ∈ xs, x = 0) : 0 ≤ leadOf xs := by
  induction xs with
  | nil => exact absurd (by simp) h
  | cons x xs ih =>
    by_cases h0 : x = 0
    · have h2 : ¬ ∀ y ∈ xs, y = 0 := fun hh => h (fun y hy => by
        rcases List.mem_cons.1 hy with e | e
        · rw [e]; exact h0
        · exact hh y e)
      have := ih h2
      simp only [leadOf, h0, if_true]
      rw [if_neg (by omega)]
      omega
    · simp [leadOf, h0]
theorem Sl.at {α : Type} {lo : Nat} {R : World → Value → α → Prop} {w : World} {b o n cap : Nat} {xs : List α} (h : Sl lo R w (.slice (some ⟨b, o, none⟩) n cap) xs) {k : Nat} (hk : k < xs.length) :
    ∃ u, w.cell? ⟨b, o + k, none⟩ = some u ∧ R w u xs[k] := by
  refine Sl.cases h (fun _ _ hx _ => absurd hk (by simp [hx])) (fun b2 o2 cap2 hv _ _ hc => ?_)
  injection hv with e1 _ _
  injection e1 with e1
  injection e1 with e1 e2
  subst e1 e2
  exact hc k hk

/-- A table in front of another one: what spec and program compute of a row of it. -/
theorem pre_ap {p : Int} {ds : List Int} {ms : List (List (List Int))} {k : Nat} (hp : IsP p) (hd : ∀ d ∈ ds, 0 ≤ d ∧ d ≤ 8) (hk : 1 ≤ k) (hkd : k < ds.length) (h1 : TabOk p (ds.getD (k + 1) 0) (ds.getD k 0) (ms.getD k []))
    (h0 : TabOk p (ds.getD k 0) (ds.getD (k - 1) 0) (ms.getD (k - 1) [])) {r : List Int} (hr : r ∈ ms.getD k []) : ApOk p (ds.getD (k - 1) 0).toNat r (ms.getD (k - 1) []) := by
  have hdim : 0 ≤ ds.getD (k - 1) 0 := by rw [getD_of_lt _ (by omega)]; exact (hd _ (List.getElem_mem _)).1
  refine ⟨hp, ?_, (h1.2 r hr).2, fun r2 hr2 => ⟨?_, (h0.2 r2 hr2).2⟩⟩
  · have e1 := (h1.2 r hr).1
    have e2 := h0.1
    omega
  · have e1 := (h0.2 r2 hr2).1
    omega

set_option maxHeartbeats 3200000 in
set_option maxRecDepth 100000 in
theorem l01Is_no (p : Int) (dv mv : Value) (ds : List Int) (ms : List (List (List Int))) (w : World) (h : Cx 0 w dv mv ds ms) (hd : ds.length ≤ 1048576) (hm : Bd3 1048576 ms)
    (hno : ¬ IsP p ∨ ds.length < 1 ∨ 6 < ds.length ∨ ms.length + 1 ≠ ds.length) :
    Calls Tryd.prog 60 #[.agg #[.int .i64 p, dv, mv]] w (BB (IsCx p ds ms) w) := by
  have hml : ms.length ≤ 1048576 := hm.1
  have hfalse : ¬ IsCx p ds ms := fun hh => by
    have := hh.1.prime
    have := hh.1.len0
    have := hh.1.len1
    have := hh.1.mlen
    rcases hno with h1 | h1 | h1 | h1
    · exact h1 hh.1.prime
    · omega
    · omega
    · omega
  have HF := Lib.hid hfalse
  clear hfalse
  obtain ⟨ad, cap, rfl⟩ := Sl.shape h.dims
  obtain ⟨am, capm, rfl⟩ := Sl.shape h.maps
  have HB := Lib.hid (Bx.start (p := p) 28 h).below
  clear h hm
  by_cases hp : IsP p
  · have HP := Lib.hid hp
    by_cases h1 : ds.length < 1
    · clear hno hp
      go_enter Tryd.func60, Tryd.ntmps60
      go_wp2_with fail
      refine (spprime_yes HP.out _).mono ?_
      rintro e w' ⟨rfl, rfl⟩
      go_wp2
      go_ret
      exact bb_false HB.out HF.out
    · by_cases h6 : 6 < ds.length
      · clear hno hp
        go_enter Tryd.func60, Tryd.ntmps60
        go_wp2_with fail
        refine (spprime_yes HP.out _).mono ?_
        rintro e w' ⟨rfl, rfl⟩
        go_wp2
        go_ret
        exact bb_false HB.out HF.out
      · have hl : ¬ (ms.length : Int) = (ds.length : Int) - 1 := by
          rcases hno with h2 | h2 | h2 | h2
          · exact absurd hp h2
          · omega
          · omega
          · omega
        have hq1 : ((ms.length : Int) != (ds.length : Int) - 1) = true := by simp [hl]
        have hq2 : ((ms.length : Int) == (ds.length : Int) - 1) = false := by simp [hl]
        clear hno hl hp
        go_enter Tryd.func60, Tryd.ntmps60
        go_wp2_with fail
        refine (spprime_yes HP.out _).mono ?_
        rintro e w' ⟨rfl, rfl⟩
        go_wp2
        go_ret
        exact bb_false HB.out HF.out
  · have HP := Lib.hid hp
    clear hp hno
    go_enter Tryd.func60, Tryd.ntmps60
    go_wp2_with fail
    refine (spprime_no HP.out _).mono ?_
    rintro e w' ⟨rfl, rfl⟩
    go_wp2
    go_ret
    exact bb_false HB.out HF.out

set_option maxHeartbeats 6400000 in
set_option maxRecDepth 100000 in
theorem l01Is_yes (p : Int) (dv mv : Value) (ds : List Int) (ms : List (List (List Int))) (w : World) (h : Cx 0 w dv mv ds ms) (hm : Bd3 1048576 ms)
    (hp : IsP p) (hl1 : 1 ≤ ds.length) (hl6 : ds.length ≤ 6) (hl : ms.length + 1 = ds.length) :
    Calls Tryd.prog 60 #[.agg #[.int .i64 p, dv, mv]] w (BB (IsCx p ds ms) w) := by
  have hml : ms.length ≤ 1048576 := hm.1
  have HM := Lib.hid hm
  obtain ⟨ad, cap, rfl⟩ := Sl.shape h.dims
  obtain ⟨am, capm, rfl⟩ := Sl.shape h.maps
  have HX0 := Lib.hid (Bx.start (p := p) 28 h)
  have HP := Lib.hid hp
  have hq1 : ((ms.length : Int) != (ds.length : Int) - 1) = false := by simp; omega
  have hq2 : ((ms.length : Int) == (ds.length : Int) - 1) = true := by simp; omega
  have hdq1 : decide ((ds.length : Int) < 1) = false := by simp; omega
  have hdq2 : decide ((6 : Int) < (ds.length : Int)) = false := by simp; omega
  have HL := Lib.hid hl
  clear h hm hp hl
  go_enter Tryd.func60, Tryd.ntmps60
  go_wp2_with fail
  refine (spprime_yes HP.out _).mono ?_
  rintro e w' ⟨rfl, rfl⟩
  go_wp2
  obtain ⟨w1, hw1⟩ : ∃ w1, w1 = w.alloc (.cells #[.int .i64 p, .slice ad ds.length cap, .slice am ms.length capm] 28) := ⟨_, rfl⟩
  rw [← hw1]
  rw [← hw1] at HX0
  have c0 := HX0.out.c0
  have c1 := HX0.out.c1
  have c2 := HX0.out.c2
  clear hw1
  go_loop [3] (fun i => ∃ (k : Nat), k ≤ ds.length ∧ i = .int .i64 k ∧ Hid (∀ j (h1 : j < ds.length), j < k → 0 ≤ ds[j] ∧ ds[j] ≤ 8)) (fun i => ds.length - (intOf i).toNat)
  case atStart => exact ⟨0, Nat.zero_le _, rfl, Lib.hid (fun _ _ h => absurd h (Nat.not_lt_zero _))⟩
  case round =>
    obtain ⟨k, hk, rfl, HD⟩ := hrel
    by_cases hlt : k < ds.length
    · refine Sl.cases HX0.out.cx.dims (fun _ _ hx _ => absurd hlt (by simp [hx])) (fun bd od capd hv _ hposd hcld => ?_)
      injection hv with e1 _ e3
      subst e1 e3
      obtain ⟨u, hu, hr⟩ := hcld k hlt
      obtain ⟨x, hx⟩ : ∃ x, x = ds[k] := ⟨_, rfl⟩
      rw [hr, ← hx] at hu
      have HX := Lib.hid hx
      clear hx hr hcld
      by_cases hxy : 0 ≤ x ∧ x ≤ 8
      · have HXY := Lib.hid hxy
        clear hxy
        go_wp2_with fail
        refine (spin_yes HXY.out _).mono ?_
        rintro e w' ⟨rfl, rfl⟩
        go_wp2
        go_round
        case rel => exact ⟨k + 1, by omega, by go_num, Lib.hid (fun j h1 hjk => by
          by_cases e : j = k
          · subst e; rw [← HX.out]; exact HXY.out
          · exact HD.out j h1 (by omega))⟩
        case measure => simp [intOf]; omega
      · have HXY := Lib.hid hxy
        clear hxy
        go_wp2_with fail
        refine (spin_no HXY.out _).mono ?_
        rintro e w' ⟨rfl, rfl⟩
        go_wp2
        go_ret
        exact bb_false HX0.out.below (fun h => HXY.out (by rw [HX.out]; exact h.1.dims _ (List.getElem_mem hlt)))
    · have HDIMS : Hid (∀ d ∈ ds, 0 ≤ d ∧ d ≤ 8) := Lib.hid (all_of_lt (fun j hj => HD.out j hj (by omega)))
      clear HD
      go_wp2
      clear c0 c1 c2
      go_loopw [4, 5] (fun i _ wr => ∃ (k : Nat), k ≤ ms.length ∧ i = .int .i64 k ∧ Hid (Bx w wr w.heap.size p (.slice ad ds.length cap) (.slice am ms.length capm) ds ms) ∧ Hid (∀ j, j < ms.length → j < k → TabOk p (ds.getD (j + 1) 0) (ds.getD j 0) (ms.getD j [])) ∧
        Hid (∀ q, q + 1 < k → ∀ r ∈ ms.getD (q + 1) [], ∀ x ∈ apT p (ds.getD q 0).toNat r (ms.getD q []), x = 0)) (fun i _ _ => ms.length - (intOf i).toNat)
      case atStart => exact ⟨0, Nat.zero_le _, rfl, HX0, Lib.hid (fun _ _ h => absurd h (Nat.not_lt_zero _)), Lib.hid (fun _ h => absurd h (Nat.not_lt_zero _))⟩
      case round =>
        obtain ⟨k, hk, rfl, HXR, HD, HS⟩ := hrel
        have c0 := HXR.out.c0
        have c1 := HXR.out.c1
        have c2 := HXR.out.c2
        by_cases hlt : k < ms.length
        · refine Sl.cases HXR.out.cx.dims (fun _ _ hx _ => absurd hl1 (by simp [hx])) (fun bd od capd hv _ hposd hcld => ?_)
          injection hv with e1 _ e3
          subst e1 e3
          refine Sl.cases HXR.out.cx.maps (fun _ _ hx _ => absurd hlt (by simp [hx])) (fun bm om capm2 hv _ hposm hclm => ?_)
          injection hv with e1 _ e3
          subst e1 e3
          have hd1 : k + 1 < ds.length := by have := HL.out; omega
          obtain ⟨u, hu, hr⟩ := hclm k hlt
          obtain ⟨v0, hv0, hr0⟩ := hcld k (by omega)
          obtain ⟨v1, hv1, hr1⟩ := hcld (k + 1) hd1
          rw [hr0] at hv0
          rw [hr1] at hv1
          obtain ⟨d0, hd0⟩ : ∃ d, d = ds[k] := ⟨_, rfl⟩
          obtain ⟨d1, hd1'⟩ : ∃ d, d = ds[k + 1] := ⟨_, rfl⟩
          rw [← hd0] at hv0
          rw [← hd1'] at hv1
          have HE := Lib.hid (fun (m2 : Nat) => l01Table_any p d1 d0 u ms[k] (wr.drewN m2) HP.out (hr.below (drewN_below wr m2)) (HM.out.2 _ (List.getElem_mem hlt)))
          have HT : Hid (TabOk p (ds.getD (k + 1) 0) (ds.getD k 0) (ms.getD k []) ↔ TabOk p d1 d0 ms[k]) := Lib.hid (by rw [getD_of_lt _ hd1, getD_of_lt _ (by omega : k < ds.length), getD_of_lt _ hlt, hd0, hd1'])
          have HR := Lib.hid hr
          clear hr hr0 hr1 hcld hclm hd0 hd1'
          have hw1 : IntKind.i64.wrap ((k : Int) + 1) = (k : Int) + 1 := IntWalk.i64_in _ (by omega)
          have hq3 : (0 : Int) ≤ (k : Int) + 1 := by omega
          have hq4 : (k : Int) + 1 < (ds.length : Int) := by omega
          have hq5 : ((k : Int) + 1).toNat = k + 1 := by omega
          have hq6 : (k : Int) < (ds.length : Int) := by omega
          have hdec1 : decide ((k : Int) < (ms.length : Int)) = true := by simp; omega
          by_cases ht : TabOk p d1 d0 ms[k]
          · have HEY : Hid (∀ m2, Calls Tryd.prog 70 #[.int .i64 p, u, .int .i64 d1, .int .i64 d0] (wr.drewN m2) (QW (.bool true) (wr.drewN m2))) := Lib.hid (fun m2 => bw_yes (HE.out m2) ht)
            have HTY := Lib.hid ht
            clear ht HE
            go_wp2
            go_quiet ((go_at_call 70; exact qw_quiet (HEY.out _)))
            clear hw1 hq3 hq4 hq5 hq6
            go_wp2
            have HXO := Lib.hid (HXR.out.next (drewN_below _ nq))
            have HRO := Lib.hid (HR.out.below (drewN_below _ nq))
            have hv0' : (wr.drewN nq).cell? ⟨bm, om + k, none⟩ = some u := hu
            clear c0 c1 c2 hu hv0 hv1 HXR HR
            generalize wr.drewN nq = wo at *
            have HU := Lib.hid hv0'
            clear hv0'
            have HNX : Hid ((1 ≤ k → ∀ r ∈ ms.getD k [], ∀ x ∈ apT p (ds.getD (k - 1) 0).toNat r (ms.getD (k - 1) []), x = 0) → (∀ j, j < ms.length → j < k + 1 → TabOk p (ds.getD (j + 1) 0) (ds.getD j 0) (ms.getD j [])) ∧
                ∀ q, q + 1 < k + 1 → ∀ r ∈ ms.getD (q + 1) [], ∀ x ∈ apT p (ds.getD q 0).toNat r (ms.getD q []), x = 0) := Lib.hid (fun hz => ⟨fun j h1 hjk => by
              by_cases e : j = k
              · subst e; exact HT.out.2 HTY.out
              · exact HD.out j h1 (by omega), fun q hqk => by
              by_cases e : q + 1 = k
              · subst e; exact hz (by omega)
              · exact HS.out q (by omega)⟩)
            by_cases hk0 : 1 ≤ k
            · obtain ⟨t1, ht1⟩ : ∃ t, t = ms[k] := ⟨_, rfl⟩
              obtain ⟨t0, ht0⟩ : ∃ t, t = ms.getD (k - 1) [] := ⟨_, rfl⟩
              have HRO' : Hid (L2 0 wo u t1) := Lib.hid (by rw [ht1]; exact HRO.out)
              have hdim : 0 ≤ ds.getD (k - 1) 0 ∧ ds.getD (k - 1) 0 ≤ 8 := by rw [getD_of_lt _ (by omega)]; exact HDIMS.out _ (List.getElem_mem _)
              obtain ⟨c, hc⟩ := Int.eq_ofNat_of_zero_le hdim.1
              have hc8 : c ≤ 8 := by omega
              have HC : Hid (ds.getD (k - 1) 0 = (c : Int)) := Lib.hid hc
              have HCN : Hid ((ds.getD (k - 1) 0).toNat = c) := Lib.hid (by rw [hc]; rfl)
              have HAP : Hid (∀ j (hj : j < t1.length), ApOk p c t1[j] t0) := Lib.hid (fun j hj => by
                have h1 : TabOk p (ds.getD (k + 1) 0) (ds.getD k 0) (ms.getD k []) := HT.out.2 HTY.out
                have h0 := HD.out (k - 1) (by omega) (by omega)
                rw [show k - 1 + 1 = k by omega] at h0
                have := pre_ap HP.out HDIMS.out hk0 (by omega) h1 h0 (r := t1[j]) (by rw [getD_of_lt _ hlt, ← ht1]; exact List.getElem_mem _)
                rwa [HCN.out, ← ht0] at this)
              have HNX2 : Hid ((∀ j (hj : j < t1.length), ∀ x ∈ apT p c t1[j] t0, x = 0) → (∀ j, j < ms.length → j < k + 1 → TabOk p (ds.getD (j + 1) 0) (ds.getD j 0) (ms.getD j [])) ∧
                ∀ q, q + 1 < k + 1 → ∀ r ∈ ms.getD (q + 1) [], ∀ x ∈ apT p (ds.getD q 0).toNat r (ms.getD q []), x = 0) := Lib.hid (fun hall => HNX.out (fun _ r hr => by
                rw [getD_of_lt _ hlt, ← ht1] at hr
                obtain ⟨j, hj, rfl⟩ := List.getElem_of_mem hr
                rw [HCN.out, ← ht0]
                exact hall j hj))
              have HNOT : Hid (∀ j (hj : j < t1.length), ¬ (∀ x ∈ apT p c t1[j] t0, x = 0) → ¬ IsCx p ds ms) := Lib.hid (fun j hj hne hs => hne (by
                have := hs.2 (k - 1) (by omega) t1[j] (by rw [show k - 1 + 1 = k by omega, getD_of_lt _ hlt, ← ht1]; exact List.getElem_mem _)
                rwa [HCN.out, ← ht0] at this))
              have HRL : Hid (∀ j (hj : j < t1.length), (t1[j]).length ≤ 1048576) := Lib.hid (fun j hj => (HM.out.2 _ (List.getElem_mem hlt)).2 _ (by rw [← ht1]; exact List.getElem_mem _))
              have htl : t1.length ≤ 1048576 := by rw [ht1]; exact (HM.out.2 _ (List.getElem_mem hlt)).1
              have hk1 : k - 1 < ms.length := by omega
              have hk2 : k - 1 < ds.length := by omega
              obtain ⟨u0, hu0, hr0⟩ := Sl.at HXO.out.cx.maps hk1
              obtain ⟨ud, hud, hrd⟩ := Sl.at HXO.out.cx.dims hk2
              have HU0 := Lib.hid hu0
              have HUD : Hid (wo.cell? ⟨bd, od + (k - 1), none⟩ = some (.int .i64 (c : Int))) := Lib.hid (by rw [hud, hrd, ← getD_of_lt 0 hk2, hc])
              have HR0 : Hid (L2 0 wo u0 t0) := Lib.hid (by rw [ht0, getD_of_lt _ hk1]; exact hr0)
              clear ht1 ht0 hdim hc hu0 hr0 hud hrd HNX HRO HT HTY HD HS HCN HC
              refine Sl.cases HRO'.out (fun ad1 cap1 hx1 hv1 => ?_) (fun b1 o1 cap1 hv1 _ hpos1 hcl1 => ?_)
              · subst hv1
                have c0 := HXO.out.c0
                have c1 := HXO.out.c1
                have c2 := HXO.out.c2
                have hu := HU.out
                have HX1 := Lib.hid hx1
                clear hx1
                refine wp_loop_rounds 1 ?_
                rw [rounds_succ]
                go_wp2
                go_roundw
                case rel =>
                  have hh := HNX2.out (fun j hj => absurd hj (by rw [HX1.out]; simp))
                  exact ⟨k + 1, by omega, by go_num, HXO, Lib.hid hh.1, Lib.hid hh.2⟩
                case measure => simp [intOf]; omega
              · subst hv1
                have HC1 := Lib.hid hcl1
                clear hcl1
                go_loopw [5] (fun i wr => ∃ (j : Nat), j ≤ t1.length ∧ i = .int .i64 j ∧ Hid (Below wo.heap.size wo wr) ∧ Hid (∀ j2 (hj : j2 < t1.length), j2 < j → ∀ x ∈ apT p c t1[j2] t0, x = 0)) (fun i _ => t1.length - (intOf i).toNat)
                case atStart => exact ⟨0, Nat.zero_le _, rfl, Lib.hid (Below.refl _ _), Lib.hid (fun _ _ h => absurd h (Nat.not_lt_zero _))⟩
                case round =>
                  obtain ⟨j, hj, rfl, HBO, HJ⟩ := hrel
                  have HXI := Lib.hid (HXO.out.next HBO.out)
                  have c0 := HXI.out.c0
                  have c1 := HXI.out.c1
                  have c2 := HXI.out.c2
                  have hu := later HBO.out (Nat.le_refl _) HU.out
                  have hdec2 : decide (0 < (k : Int)) = true := by simp; omega
                  by_cases hltj : j < t1.length
                  · obtain ⟨u2, hu2, hr2⟩ := HC1.out j hltj
                    have hu2' := later HBO.out (Nat.le_refl _) hu2
                    have hu0 := later HBO.out (Nat.le_refl _) HU0.out
                    have hud := later HBO.out (Nat.le_refl _) HUD.out
                    have HR2 := Lib.hid (hr2.below HBO.out)
                    have HR0' := Lib.hid (HR0.out.below HBO.out)
                    clear hu2 hr2
                    have hw1 : IntKind.i64.wrap ((k : Int) - 1) = (k : Int) - 1 := IntWalk.i64_in _ (by omega)
                    have hq3 : (0 : Int) ≤ (k : Int) - 1 := by omega
                    have hq4 : (k : Int) - 1 < (ds.length : Int) := by omega
                    have hq5 : ((k : Int) - 1).toNat = k - 1 := by omega
                    have hq6 : (k : Int) - 1 < (ms.length : Int) := by omega
                    have hq7 : (k : Int) < (ms.length : Int) := by omega
                    have hq8 : (0 : Int) ≤ (k : Int) := by omega
                    have hq9 : (j : Int) < (t1.length : Int) := by omega
                    have hq10 : (0 : Int) ≤ (j : Int) := by omega
                    have hq11 : (1 : Int) ≤ (k : Int) := by omega
                    have hq12 : (k : Int) ≤ (ms.length : Int) := by omega
                    have hq13 : (k : Int) ≤ (ds.length : Int) := by omega
                    have hq14 : (0 : Int) < (k : Int) := by omega
                    go_wp2
                    go_still_tail 22, (by kernel_rfl)
                    change wpList _ _ _ _ _ wr.drew
                    clear hw1 hq3 hq4 hq5 hq6 hq7 hq8 hq9 hq10 hq11 hq12 hq13 hq14
                    have hall := HAP.out j hltj
                    have hlen : (apT p c t1[j] t0).length ≤ 1048576 := by rw [apT_length hall]; omega
                    have HALLJ := Lib.hid hall
                    have HLEN := Lib.hid hlen
                    clear hall hlen
                    go_wp2_with fail
                    refine (l01Apply_any p c u2 u0 t1[j] t0 _ HALLJ.out ((HR2.out.below (Below.refl _ _).drew)) (HR0'.out.below (Below.refl _ _).drew) (HRL.out j hltj) (by omega)).mono ?_
                    rintro e w2 ⟨u3, rfl, hru, hb2⟩
                    have HRU := Lib.hid hru
                    have HB2 := Lib.hid (HBO.out.drew.trans (hb2.mono (by have := HBO.out.size; simpa using this)))
                    clear hru hb2
                    go_wp2_with fail
                    have hlead := l01Lead_any u3 (apT p c t1[j] t0) w2 (HRU.out.lower (Nat.zero_le _)) HLEN.out
                    by_cases hz : ∀ x ∈ apT p c t1[j] t0, x = 0
                    · rw [leadOf_neg hz] at hlead
                      have HZ := Lib.hid hz
                      clear hz
                      refine hlead.mono ?_
                      clear hlead
                      rintro e w' ⟨rfl, rfl⟩
                      go_wp2
                      go_roundw
                      case rel => exact ⟨j + 1, by omega, by go_num, HB2, Lib.hid (fun j2 hj2 hlt2 => by
                        by_cases e : j2 = j
                        · subst e; exact HZ.out
                        · exact HJ.out j2 hj2 (by omega))⟩
                      case measure => simp [intOf]; omega
                    · obtain ⟨r, hr0, hr⟩ : ∃ r, 0 ≤ r ∧ leadOf (apT p c t1[j] t0) = r := ⟨_, leadOf_pos hz, rfl⟩
                      rw [hr] at hlead
                      have HZ := Lib.hid hz
                      clear hz hr
                      refine hlead.mono ?_
                      clear hlead
                      rintro e w' ⟨rfl, rfl⟩
                      go_wp2
                      go_ret
                      exact bb_false (HXO.out.next HB2.out).below (HNOT.out j hltj HZ.out)
                  · go_wp2
                    go_roundw
                    case rel =>
                      have hh := HNX2.out (fun j2 hj2 => HJ.out j2 hj2 (by omega))
                      exact ⟨k + 1, by omega, by go_num, HXI, Lib.hid hh.1, Lib.hid hh.2⟩
                    case measure => simp [intOf]; omega
            · have HNX' : Hid _ := Lib.hid (HNX.out (fun h => absurd h hk0))
              obtain ⟨a1, cap1, rfl⟩ := Sl.shape HRO.out
              have c0 := HXO.out.c0
              have c1 := HXO.out.c1
              have c2 := HXO.out.c2
              have hu := HU.out
              have htl : (ms[k]).length ≤ 1048576 := (HM.out.2 _ (List.getElem_mem hlt)).1
              obtain ⟨n1, hn1⟩ : ∃ n, n = (ms[k]).length := ⟨_, rfl⟩
              rw [← hn1] at hu htl
              have HN1 := Lib.hid hn1
              clear hn1
              have hdec2 : decide (0 < (k : Int)) = false := by simp; omega
              refine wp_loop_rounds 1 ?_
              rw [rounds_succ]
              by_cases hn0 : 0 < n1
              all_goals
                go_wp2
                go_roundw
                case rel => exact ⟨k + 1, by omega, by go_num, HXO, Lib.hid HNX'.out.1, Lib.hid HNX'.out.2⟩
                case measure => simp [intOf]; omega
          · have HEY : Hid (∀ m2, Calls Tryd.prog 70 #[.int .i64 p, u, .int .i64 d1, .int .i64 d0] (wr.drewN m2) (QW (.bool false) (wr.drewN m2))) := Lib.hid (fun m2 => bw_no (HE.out m2) ht)
            have HTY := Lib.hid ht
            clear ht HE
            go_wp2
            go_quiet ((go_at_call 70; exact qw_quiet (HEY.out _)))
            clear hw1 hq3 hq4 hq5 hq6
            go_wp2
            go_ret
            exact bb_false (HXR.out.next (drewN_below _ nq)).below (fun h => HTY.out (HT.out.1 (h.1.tabs k hlt)))
        · go_wp2
          go_ret
          exact bb_true HXR.out.below ⟨⟨HP.out, hl1, hl6, HL.out, HDIMS.out, fun j hj => HD.out j hj (by omega)⟩, fun q hq => HS.out q (by omega)⟩

theorem l01Is_any (p : Int) (dv mv : Value) (ds : List Int) (ms : List (List (List Int))) (w : World) (h : Cx 0 w dv mv ds ms) (hd : ds.length ≤ 1048576) (hm : Bd3 1048576 ms) :
    Calls Tryd.prog 60 #[.agg #[.int .i64 p, dv, mv]] w (BB (IsCx p ds ms) w) := by
  by_cases h1 : IsP p
  · by_cases h2 : 1 ≤ ds.length ∧ ds.length ≤ 6 ∧ ms.length + 1 = ds.length
    · exact l01Is_yes p dv mv ds ms w h hm h1 h2.1 h2.2.1 h2.2.2
    · exact l01Is_no p dv mv ds ms w h hd hm (Or.inr (by omega))
  · exact l01Is_no p dv mv ds ms w h hd hm (Or.inl h1)

theorem below_alloc1 (w : World) (A : Obj) : Below w.heap.size w (w.alloc A) := (Below.refl _ _).alloc (Nat.le_refl _) _
theorem cx_drew {lo : Nat} {w : World} {dv mv : Value} {ds : List Int} {ms : List (List (List Int))} (h : Cx lo w dv mv ds ms) : Cx lo w.drew dv mv ds ms := h.below (Below.refl _ _).drew
theorem Cx.zero {lo : Nat} {w : World} {dv mv : Value} {ds : List Int} {ms : List (List (List Int))} (h : Cx lo w dv mv ds ms) : Cx 0 w dv mv ds ms := h.lower (Nat.zero_le _)
theorem Cx.shapes {lo : Nat} {w : World} {dv mv : Value} {ds : List Int} {ms : List (List (List Int))} (h : Cx lo w dv mv ds ms) : (∃ a c, dv = .slice a ds.length c) ∧ ∃ a c, mv = .slice a ms.length c := ⟨Sl.shape h.dims, Sl.shape h.maps⟩
theorem qr_below {v : Value} {w : World} {e : Ending} {w' : World} (h : QR v w e w') : e = .returned v ∧ Below w.heap.size w w' := by
  obtain ⟨h1, m, h2⟩ := h
  exact ⟨h1, by rw [h2]; exact drewN_below w m⟩
end Go.Proofs.YtpdkfidmmjlmnabDoor


namespace Go.Proofs.YtpdkfidmmjlmnabDoor
open Go.RowKit

/-- The first n numbers. -/
def toL (n : Nat) (v : Lin.V) : List Int := (List.range n).map v
/-- The cells of a vector. -/
def vl (v : Lin.V) : List Value := (toL 40 v).map (Value.int .i64)
def vv (v : Lin.V) : Value := .agg (vl v).toArray
theorem toL_length (n : Nat) (v : Lin.V) : (toL n v).length = n := by simp [toL]
theorem toL_get {n k : Nat} (v : Lin.V) (h : k < (toL n v).length) : (toL n v)[k] = v k := by simp [toL]
theorem vl_length (v : Lin.V) : (vl v).length = 40 := by simp [vl, toL_length]
theorem vl_get (v : Lin.V) {k : Nat} (h : k < 40) : (vl v)[k]? = some (.int .i64 (v k)) := by
  have : k < (toL 40 v).length := by rw [toL_length]; exact h
  simp [vl, this, toL_get]
theorem vl_congr {v w : Lin.V} (h : ∀ i, i < 40 → v i = w i) : vl v = vl w := by
  unfold vl toL
  rw [List.map_congr_left (fun i hi => h i (List.mem_range.1 hi))]
/-- Where a vector lies. -/
def At (w : World) (b o : Nat) (v : Lin.V) : Prop := w.rangeAt b o (vl v)
theorem At.range {w : World} {b o : Nat} {v : Lin.V} (h : At w b o v) : w.rangeAt b o (vl v) := h
theorem At.cell {w : World} {b o : Nat} {v : Lin.V} (h : At w b o v) {k : Nat} (hk : k < 40) : w.cell? ⟨b, o + k, none⟩ = some (.int .i64 (v k)) := h k _ (vl_get v hk)
theorem At.lt {w : World} {b o : Nat} {v : Lin.V} (h : At w b o v) : b < w.heap.size := cell_lt (h.cell (k := 0) (by omega))
theorem At.below {w w' : World} {b o B : Nat} {v : Lin.V} (h : At w b o v) (hb : Below B w w') (hB : b < B) : At w' b o v := fun j u hu => by
  rw [hb.cell (p := ⟨b, o + j, none⟩) hB]
  exact h j u hu
theorem At.later {w w' : World} {b o : Nat} {v : Lin.V} (h : At w b o v) (hb : Below w.heap.size w w') : At w' b o v := h.below hb h.lt
end Go.Proofs.YtpdkfidmmjlmnabDoor

namespace Go.Proofs.YtpdkfidmmjlmnabDoor
open Go.RowKit

theorem IsP.lo1 {p : Int} (hp : IsP p) : 1 < p := by rcases hp with rfl | rfl | rfl | rfl <;> decide
theorem IsP.hi7 {p : Int} (hp : IsP p) : p ≤ 7 := by rcases hp with rfl | rfl | rfl | rfl <;> decide

theorem there_new (w : World) (C : Array Value) (t : TypeId) {n : Nat} (h : n ≤ C.size) : (w.alloc (.cells C t)).there w.heap.size 0 n := fun j hj => by
  have hb := heap_alloc_new w (.cells C t)
  constructor
  · rw [cell_of_row _ _ _ _ _ _ hb, Nat.zero_add, Array.getElem?_eq_getElem (by omega)]
    rfl
  · simp
theorem there_set {w : World} {b o n : Nat} (h : w.there b o n) (a : Addr) (u : Value) : (w.setCell a u).there b o n := fun j hj => by
  obtain ⟨h1, h2⟩ := h j hj
  refine ⟨?_, by rw [World.frozen?_setCell]; exact h2⟩
  obtain ⟨x, hx⟩ := Option.isSome_iff_exists.1 h1
  by_cases e : a = ⟨b, o + j, none⟩
  · rw [e, World.cell?_setCell_same _ _ _ hx]; rfl
  · rw [World.cell?_setCell_other _ _ _ _ e, hx]; rfl
theorem there_below {w w' : World} {b o n B : Nat} (h : w.there b o n) (hb : Below B w w') (hB : b < B) : w'.there b o n := fun j hj => by
  rw [hb.cell (p := ⟨b, o + j, none⟩) hB, hb.frozen (p := ⟨b, o + j, none⟩) hB]
  exact h j hj
theorem below_setCells {B : Nat} {w : World} (b : Nat) (hB : B ≤ b) : ∀ (vs : List Value) (o : Nat) (w' : World), Below B w w' → Below B w (w'.setCells b o vs) := by
  intro vs
  induction vs with
  | nil => intro o w' h; exact h
  | cons v vs ih => intro o w' h; exact ih (o + 1) _ (h.setCell hB v)
theorem addr_ne {b o o' : Nat} (h : o ≠ o') : (⟨b, o, none⟩ : Addr) ≠ ⟨b, o', none⟩ := fun e => h (by injection e)
theorem At.set {w : World} {b o : Nat} {v : Lin.V} (h : At w b o v) {k : Nat} (hk : k < 40) (x : Int) : At (w.setCell ⟨b, o + k, none⟩ (.int .i64 x)) b o (fun i => if i = k then x else v i) := fun j u hu => by
  have hj : j < 40 := by have := (List.getElem?_eq_some_iff.1 hu).1; rwa [vl_length] at this
  rw [vl_get _ hj] at hu
  by_cases e : j = k
  · subst e
    rw [World.cell?_setCell_same _ _ _ (h.cell hj)]
    simpa using hu
  · rw [World.cell?_setCell_other _ _ _ _ (addr_ne (by omega)), h.cell hj]
    simpa [e] using hu
theorem At.setOther {w : World} {b o : Nat} {v : Lin.V} (h : At w b o v) {a : Addr} (ha : a.block ≠ b) (u : Value) : At (w.setCell a u) b o v := fun j x hx => by
  rw [World.cell?_setCell_other _ _ _ _ (by intro e; exact ha (by rw [e]))]
  exact h j x hx
theorem At.congr {w : World} {b o : Nat} {v v' : Lin.V} (h : At w b o v) (e : ∀ i, i < 40 → v i = v' i) : At w b o v' := by
  unfold At
  rw [← vl_congr e]
  exact h
theorem at_setCells (w : World) (b o : Nat) (v : Lin.V) (ht : w.there b o 40) : At (w.setCells b o (vl v)) b o v := World.rangeAt_setCells_same w b o (vl v) (by rw [vl_length]; exact ht)
theorem At.apart {w : World} {b o b' o' : Nat} {v : Lin.V} (h : At w b o v) (v' : Lin.V) (ha : b ≠ b' ∨ o + 40 ≤ o' ∨ o' + 40 ≤ o) : At (w.setCells b' o' (vl v')) b o v := World.rangeAt_setCells_apart h b' o' (vl v') (by rw [vl_length, vl_length]; exact ha)
/-- A vector in a box, and a place for a vector. -/
structure Boxed (w W : World) (b g : Nat) (v : Lin.V) : Prop where
  below : Below w.heap.size w W
  lo : w.heap.size ≤ b ∧ w.heap.size ≤ g
  ne : b ≠ g
  at' : At W b 0 v
  there : W.there b 0 40
  res : W.there g 0 40
theorem Boxed.next {w W W' : World} {b g : Nat} {v : Lin.V} (h : Boxed w W b g v) (hb : Below W.heap.size W W') : Boxed w W' b g v := by
  have hg : g < W.heap.size := by
    obtain ⟨x, hx⟩ := Option.isSome_iff_exists.1 (h.res 0 (by omega)).1
    exact cell_lt hx
  exact ⟨h.below.trans (hb.mono h.below.size), h.lo, h.ne, h.at'.later hb, there_below h.there hb h.at'.lt, there_below h.res hb hg⟩
theorem Boxed.set {w W : World} {b g : Nat} {v : Lin.V} (h : Boxed w W b g v) {k : Nat} (hk : k < 40) (x : Int) : Boxed w (W.setCell ⟨b, k, none⟩ (.int .i64 x)) b g (fun i => if i = k then x else v i) := by
  have := h.at'.set hk x
  rw [Nat.zero_add] at this
  exact ⟨h.below.setCell h.lo.1 _, h.lo, h.ne, this, there_set h.there _ _, there_set h.res _ _⟩
theorem Boxed.congr {w W : World} {b g : Nat} {v v' : Lin.V} (h : Boxed w W b g v) (e : ∀ i, i < 40 → v i = v' i) : Boxed w W b g v' := ⟨h.below, h.lo, h.ne, h.at'.congr e, h.there, h.res⟩
end Go.Proofs.YtpdkfidmmjlmnabDoor

namespace Go.Proofs.YtpdkfidmmjlmnabDoor
open Go.RowKit

/-- The slice s reads as the vectors L, its cells in blocks from lo on. -/
def Vs (lo : Nat) (w : World) (s : Value) (L : List Lin.V) : Prop :=
  (L = [] ∧ ∃ ad cap, s = .slice ad 0 cap) ∨
  ∃ b o cap, s = .slice (some ⟨b, o, none⟩) L.length cap ∧ lo ≤ b ∧ 0 < L.length ∧ ∀ k (h : k < L.length), At w b (o + k * 40) L[k]
theorem Vs.keep {lo : Nat} {w w' : World} {s : Value} {L : List Lin.V} (h : Vs lo w s L) (hk : Keep lo w w') : Vs lo w' s L := by
  rcases h with h | ⟨b, o, cap, hs, hlo, hpos, hc⟩
  · exact Or.inl h
  · refine Or.inr ⟨b, o, cap, hs, hlo, hpos, fun k h j u hu => ?_⟩
    have h1 := hc k h j u hu
    rw [hk.2 b _ hlo (cell_lt h1)]
    exact h1
theorem Vs.below {lo : Nat} {w w' : World} {s : Value} {L : List Lin.V} (h : Vs lo w s L) (hb : Below w.heap.size w w') : Vs lo w' s L := h.keep (Keep.of_below hb)
theorem Vs.lower {lo lo' : Nat} (hl : lo' ≤ lo) {w : World} {s : Value} {L : List Lin.V} (h : Vs lo w s L) : Vs lo' w s L := by
  rcases h with h | ⟨b, o, cap, hs, hlo, hpos, hc⟩
  · exact Or.inl h
  · exact Or.inr ⟨b, o, cap, hs, by omega, hpos, hc⟩
theorem Vs.shape {lo : Nat} {w : World} {s : Value} {L : List Lin.V} (h : Vs lo w s L) : ∃ ad cap, s = .slice ad L.length cap := by
  rcases h with ⟨h, ad, cap, hs⟩ | ⟨b, o, cap, hs, _⟩
  · exact ⟨ad, cap, by rw [hs, h]; rfl⟩
  · exact ⟨_, cap, hs⟩
theorem Vs.cases {lo : Nat} {w : World} {s : Value} {L : List Lin.V} (h : Vs lo w s L) {C : Prop} (h0 : ∀ ad cap, L = [] → s = .slice ad 0 cap → C)
    (h1 : ∀ b o cap, s = .slice (some ⟨b, o, none⟩) L.length cap → lo ≤ b → 0 < L.length → (∀ k (h : k < L.length), At w b (o + k * 40) L[k]) → C) : C := by
  rcases h with ⟨h, ad, cap, hs⟩ | ⟨b, o, cap, hs, hlo, hpos, hc⟩
  · exact h0 ad cap h hs
  · exact h1 b o cap hs hlo hpos hc

/-- The making of a vector's box. -/
structure NewV (w W : World) : Prop where
  below : Below w.heap.size w W
  size : W.heap.size = w.heap.size + 1
  there : W.there w.heap.size 0 40
theorem Boxed.put {w W : World} {b g : Nat} {v : Lin.V} (h : Boxed w W b g v) (u : Lin.V) : Boxed w (W.setCells b 0 (vl u)) b g u :=
  ⟨below_setCells _ h.lo.1 _ _ _ h.below, h.lo, h.ne, at_setCells _ _ _ _ h.there, World.there_setCells h.there _ _ _, World.there_setCells h.res _ _ _⟩
theorem hload (w : World) {b o : Nat} {x : Int} (h : w.cell? ⟨b, o, none⟩ = some (.int .i64 x)) : (Instr.loadAt 2 (.pointer (some ⟨b, o, none⟩))).run Tryd.prog w = .ok (.int .i64 x) w := by go_simp
end Go.Proofs.YtpdkfidmmjlmnabDoor

namespace Go.Proofs.YtpdkfidmmjlmnabDoor
open Go.RowKit

/-- The key's datum. -/
def keyLit (v : Lin.V) : Lit := .string (keyBytes ((List.range 40).map fun i => .int .i64 (v i)))
/-- The map in block b bears true at vectors of M alone. -/
def Seen (w : World) (b n : Nat) (M : List Lin.V) : Prop := ∃ D : DataW Unit, w.ownsMap Tryd.prog 95 (plainElem Tryd.prog 4) b n D ∧ Maps.IsMap D ∧
  ∀ v : Lin.V, (∀ i, 0 ≤ v i ∧ v i ≤ 7) → D.atKey (keyLit v) (.lit (.bool false)) = .lit (.bool true) → ∃ u ∈ M, vv u = vv v
theorem Seen.made (w : World) : Seen (w.alloc (.map #[] 0)) w.heap.size 0 [] := ⟨.map [], World.ownsMap_made _ _ _ _, ⟨[], rfl⟩, fun v _ h => by
  have : (DataW.map [] : DataW Unit).atKey (keyLit v) (.lit (.bool false)) = .lit (.bool false) := rfl
  rw [this] at h
  cases h⟩
theorem Seen.lt {w : World} {b n : Nat} {M : List Lin.V} (h : Seen w b n M) : b < w.heap.size := by obtain ⟨D, hd, _⟩ := h; exact hd.lt
theorem Seen.block {w w' : World} {b n : Nat} {M : List Lin.V} (h : Seen w b n M) (hb : w'.heap[b]? = w.heap[b]?) : Seen w' b n M := by
  obtain ⟨D, ⟨es, clock, h1, F, h2, h3⟩, r⟩ := h
  exact ⟨D, ⟨es, clock, hb.trans h1, F, h2, h3⟩, r⟩
theorem Seen.below {w w' : World} {b n : Nat} {M : List Lin.V} (h : Seen w b n M) (hb : Below w.heap.size w w') : Seen w' b n M := h.block (hb.block b h.lt)
theorem Seen.more {w : World} {b n n' : Nat} {M M' : List Lin.V} (h : Seen w b n M) (hn : n ≤ n') (hM : ∀ u ∈ M, u ∈ M') : Seen w b n' M' := by
  obtain ⟨D, h1, h2, h3⟩ := h
  exact ⟨D, h1.mono hn, h2, fun v hv h => by obtain ⟨u, hu, e⟩ := h3 v hv h; exact ⟨u, hM u hu, e⟩⟩

section
variable {ops : Array Oper} {rest : List Oper} {o : Oper} {a : Act} {w : World} {Q : Exit → Act → World → Prop}
end
end Go.Proofs.YtpdkfidmmjlmnabDoor

namespace Go.Proofs.YtpdkfidmmjlmnabDoor
open Go.RowKit

/-- The cells of a list of vectors, one behind the other. -/
def cellsOf (L : List Lin.V) : List Value := L.flatMap vl
theorem cellsOf_length (L : List Lin.V) : (cellsOf L).length = L.length * 40 := by
  induction L with
  | nil => rfl
  | cons v L ih => rw [cellsOf, List.flatMap_cons, List.length_append, vl_length]; unfold cellsOf at ih; rw [ih, List.length_cons]; omega
theorem cellsOf_at {L : List Lin.V} : ∀ {k : Nat} (h : k < L.length) {j : Nat}, j < 40 → (cellsOf L)[k * 40 + j]? = some (.int .i64 (L[k] j)) := by
  induction L with
  | nil => intro k h; simp at h
  | cons v L ih =>
    intro k h j hj
    rw [cellsOf, List.flatMap_cons]
    cases k with
    | zero =>
      rw [List.getElem?_append_left (by rw [vl_length]; omega)]
      simp only [Nat.zero_mul, Nat.zero_add, List.getElem_cons_zero]
      exact vl_get v hj
    | succ k =>
      rw [List.getElem?_append_right (by rw [vl_length]; omega), vl_length, show (k + 1) * 40 + j - 40 = k * 40 + j by omega]
      simp only [List.getElem_cons_succ]
      exact ih (by simpa using h) hj
theorem cellsOf_append (L M : List Lin.V) : cellsOf (L ++ M) = cellsOf L ++ cellsOf M := by simp [cellsOf]
/-- A slice of vectors that the call has made, in blocks from base on. -/
def Ow (base : Nat) (w : World) (s : Value) (L : List Lin.V) : Prop := w.ownsRow base 95 40 s L.length (cellsOf L)
theorem Ow.nil (base : Nat) (w : World) : Ow base w (.slice none 0 0) [] := ⟨rfl, Or.inl ⟨rfl, rfl⟩⟩
theorem Ow.below {base : Nat} {w w' : World} {s : Value} {L : List Lin.V} (h : Ow base w s L) (hb : Below w.heap.size w w') : Ow base w' s L := owns_below h hb
theorem Ow.vs {base : Nat} {w : World} {s : Value} {L : List Lin.V} (h : Ow base w s L) : Vs base w s L := by
  obtain ⟨_, h2⟩ := h
  rcases h2 with ⟨hs, h0⟩ | ⟨g, cap, cur, hs, hg, hb, hn, _, hcur, ht⟩
  · exact Or.inl ⟨List.eq_nil_of_length_eq_zero h0, none, 0, by rw [hs]⟩
  · by_cases h0 : L.length = 0
    · exact Or.inl ⟨List.eq_nil_of_length_eq_zero h0, _, cap, by rw [hs, h0]⟩
    · refine Or.inr ⟨g, 0, cap, hs, hg, by omega, fun k hk j u hu => ?_⟩
      have hj : j < 40 := by have := (List.getElem?_eq_some_iff.1 hu).1; rwa [vl_length] at this
      rw [vl_get _ hj] at hu
      rw [cell_of_row _ _ _ _ _ _ hb, Nat.zero_add]
      have h1 := cellsOf_at hk hj
      rw [← ht, List.getElem?_take] at h1
      have h2 : k * 40 + j < L.length * 40 := by
        have : (k + 1) * 40 ≤ L.length * 40 := Nat.mul_le_mul_right 40 hk
        omega
      rw [if_pos h2] at h1
      rw [← hu, ← h1]
      simp
theorem Ow.shape {base : Nat} {w : World} {s : Value} {L : List Lin.V} (h : Ow base w s L) : ∃ ad cap, s = .slice ad L.length cap := h.vs.shape

section
variable {ops : Array Oper} {rest : List Oper} {o : Oper} {a : Act} {w : World} {Q : Exit → Act → World → Prop}
end
end Go.Proofs.YtpdkfidmmjlmnabDoor

namespace Go.Proofs.YtpdkfidmmjlmnabDoor
open Go.RowKit

theorem NewV.put {w W : World} (h : NewV w W) (v : Lin.V) : Below w.heap.size w (W.setCells w.heap.size 0 (vl v)) ∧ At (W.setCells w.heap.size 0 (vl v)) w.heap.size 0 v ∧ (W.setCells w.heap.size 0 (vl v)).heap.size = w.heap.size + 1 := by
  refine ⟨below_setCells _ (Nat.le_refl _) _ _ _ h.below, at_setCells _ _ _ _ h.there, ?_⟩
  have key : ∀ (vs : List Value) (o : Nat) (W : World), (W.setCells w.heap.size o vs).heap.size = W.heap.size := by
    intro vs
    induction vs with
    | nil => intro o W; rfl
    | cons x vs ih => intro o W; rw [World.setCells, ih]; simp
  rw [key, h.size]
theorem At.grown {w w' : World} {b o : Nat} {v : Lin.V} {row : Option Nat} (h : At w b o v) (hg : w.grownBy w' row) (hne : some b ≠ row) : At w' b o v := fun j u hu => by
  rw [World.cell?_of_block (w := w) (a := ⟨b, o + j, none⟩) (hg.block b h.lt hne)]
  exact h j u hu
theorem Ow.grown {base : Nat} {w w' : World} {s : Value} {L : List Lin.V} {row : Option Nat} (h : Ow base w s L) (hg : w.grownBy w' row) (hne : s.ownBlock = none ∨ s.ownBlock ≠ row) : Ow base w' s L := by
  refine ⟨h.1, ?_⟩
  rcases h.2 with h2 | ⟨g, cap, cur, hv, hgb, hh, r⟩
  · exact Or.inl h2
  · refine Or.inr ⟨g, cap, cur, hv, hgb, ?_, r⟩
    rw [hg.block g (Array.getElem?_eq_some_iff.1 hh).1 (by
      rw [hv] at hne
      simpa [Value.ownBlock] using hne)]
    exact hh
end Go.Proofs.YtpdkfidmmjlmnabDoor

namespace Go.Proofs.YtpdkfidmmjlmnabDoor
open Go.RowKit

theorem cellsOf_cons (v : Lin.V) (L : List Lin.V) : cellsOf (v :: L) = vl v ++ cellsOf L := by simp [cellsOf]
theorem cellsOf_take (L : List Lin.V) : ∀ i, cellsOf (L.take i) = (cellsOf L).take (i * 40) := by
  induction L with
  | nil => intro i; simp [cellsOf]
  | cons v L ih =>
    intro i
    cases i with
    | zero => simp [cellsOf]
    | succ i =>
      rw [List.take_succ_cons, cellsOf_cons, cellsOf_cons, ih, List.take_append, vl_length, List.take_of_length_le (l := vl v) (by rw [vl_length]; omega), show (i + 1) * 40 - 40 = i * 40 by omega]
theorem cellsOf_drop (L : List Lin.V) : ∀ i, cellsOf (L.drop i) = (cellsOf L).drop (i * 40) := by
  induction L with
  | nil => intro i; simp [cellsOf]
  | cons v L ih =>
    intro i
    cases i with
    | zero => simp
    | succ i =>
      rw [List.drop_succ_cons, cellsOf_cons, ih, List.drop_append, vl_length, List.drop_of_length_le (l := vl v) (by rw [vl_length]; omega), show (i + 1) * 40 - 40 = i * 40 by omega, List.nil_append]
end Go.Proofs.YtpdkfidmmjlmnabDoor

namespace Go.Proofs.YtpdkfidmmjlmnabDoor
open Go.RowKit

theorem block_setCell' {w : World} {g i : Nat} {cs : Array Value} {t : TypeId} {fr : Nat × Nat} (h : w.heap[g]? = some (.cells cs t fr)) (v : Value) : (w.setCell ⟨g, i, none⟩ v).heap[g]? = some (.cells (cs.setIfInBounds i v) t fr) := by
  rw [setCell_eq_setRow w g i cs t fr v h]
  exact setRow_heap w g _ _ t _ h
theorem setCells_row (g : Nat) (t : TypeId) (fr : Nat × Nat) : ∀ (vs : List Value) (o : Nat) (cur : Array Value) (w : World), w.heap[g]? = some (.cells cur t fr) → o + vs.length ≤ cur.size →
    (w.setCells g o vs).heap[g]? = some (.cells (cur.toList.take o ++ vs ++ cur.toList.drop (o + vs.length)).toArray t fr)
  | [], o, cur, w, h, _ => by simpa [World.setCells] using h
  | v :: rest, o, cur, w, h, hl => by
    have ih := setCells_row g t fr rest (o + 1) (cur.setIfInBounds o v) (w.setCell ⟨g, o, none⟩ v) (block_setCell' h v) (by simp at hl ⊢; omega)
    rw [World.setCells, ih]
    congr 3
    have e := list_seg_step cur.toList o v rest (by simp at hl ⊢; omega)
    simpa [Array.toList_setIfInBounds] using e
theorem setCells_other (g k : Nat) (h : k ≠ g) : ∀ (vs : List Value) (o : Nat) (w : World), (w.setCells g o vs).heap[k]? = w.heap[k]?
  | [], _, _ => rfl
  | v :: rest, o, w => by
    rw [World.setCells, setCells_other g k h rest (o + 1)]
    exact Below.heap_setCell w ⟨g, o, none⟩ v k h
theorem setCells_rest (g : Nat) : ∀ (vs : List Value) (o : Nat) (w : World), (w.setCells g o vs).os = w.os ∧ (w.setCells g o vs).tape = w.tape ∧ (w.setCells g o vs).output = w.output ∧ (w.setCells g o vs).heap.size = w.heap.size
  | [], _, _ => ⟨rfl, rfl, rfl, rfl⟩
  | v :: rest, o, w => by
    rw [World.setCells]
    obtain ⟨h1, h2, h3, h4⟩ := setCells_rest g rest (o + 1) (w.setCell ⟨g, o, none⟩ v)
    exact ⟨h1, h2, h3, h4.trans (by simp [World.setCell])⟩
theorem grown_setCells (w : World) (g o : Nat) (vs : List Value) : w.grownBy (w.setCells g o vs) (some g) := by
  obtain ⟨h1, h2, h3, h4⟩ := setCells_rest g vs o w
  exact ⟨h1, h2, h3, by omega, fun k _ hne => setCells_other g k (fun e => hne (by rw [e])) vs o w⟩
/-- An owned slice of vectors that is not empty. -/
structure Ox (base : Nat) (w : World) (g cap : Nat) (L : List Lin.V) : Prop where
  lo : base ≤ g
  own : Ow base w (.slice (some ⟨g, 0, none⟩) L.length cap) L
theorem Ox.lt {base : Nat} {w : World} {g cap : Nat} {L : List Lin.V} (h : Ox base w g cap L) : g < w.heap.size := by
  rcases h.own.2 with ⟨h0, _⟩ | ⟨g', c', cur, hv, _, hh, _⟩
  · cases h0
  · injection hv with e1 _ _
    injection e1 with e1
    injection e1 with e1
    subst e1
    exact (Array.getElem?_eq_some_iff.1 hh).1
theorem Ox.at' {base : Nat} {w : World} {g cap : Nat} {L : List Lin.V} (h : Ox base w g cap L) {k : Nat} (hk : k < L.length) : At w g (k * 40) L[k] := by
  rcases h.own.vs with ⟨h0, _⟩ | ⟨b, o, c, hv, _, _, hc⟩
  · rw [h0] at hk; exact absurd hk (Nat.not_lt_zero _)
  · injection hv with e1 _ _
    injection e1 with e1
    injection e1 with e1 e2
    subst e1 e2
    have := hc k hk
    rwa [Nat.zero_add] at this
theorem Ox.below {base : Nat} {w w' : World} {g cap : Nat} {L : List Lin.V} (h : Ox base w g cap L) (hb : Below w.heap.size w w') : Ox base w' g cap L := ⟨h.lo, h.own.below hb⟩
theorem cellsOf_set {L : List Lin.V} {k : Nat} (hk : k < L.length) (x : Lin.V) : cellsOf (L.set k x) = (cellsOf L).take (k * 40) ++ vl x ++ (cellsOf L).drop (k * 40 + 40) := by
  rw [List.set_eq_take_append_cons_drop, if_pos hk, cellsOf_append, cellsOf_cons, cellsOf_take, cellsOf_drop, show (k + 1) * 40 = k * 40 + 40 by omega, List.append_assoc]
theorem Ox.put {base : Nat} {w : World} {g cap : Nat} {L : List Lin.V} (h : Ox base w g cap L) {k : Nat} (hk : k < L.length) (x : Lin.V) : Ox base (w.setCells g (k * 40) (vl x)) g cap (L.set k x) ∧ w.there g (k * 40) 40 := by
  rcases h.own.2 with ⟨h0, _⟩ | ⟨g', c', cur, hv, hlo, hh, hnc, hcm, hcs, htk⟩
  · cases h0
  · injection hv with e1 _ e3
    injection e1 with e1
    injection e1 with e1
    subst e1 e3
    have hkc : k * 40 + 40 ≤ cap * 40 := by
      have : (k + 1) * 40 ≤ cap * 40 := Nat.mul_le_mul_right 40 (by omega)
      omega
    have hb := setCells_row g 95 (0, 0) (vl x) (k * 40) cur w hh (by rw [vl_length, hcs]; exact hkc)
    refine ⟨⟨h.lo, ⟨cellsOf_length _, Or.inr ⟨g, cap, _, rfl, hlo, hb, by simpa using hnc, hcm, ?_, ?_⟩⟩⟩, fun j hj => ⟨?_, by simp [World.frozen?, hh]⟩⟩
    · have hsz : cur.toList.length = cap * 40 := by simpa using hcs
      simp only [List.size_toArray, List.length_append, List.length_take, List.length_drop, vl_length, hsz]
      omega
    · rw [cellsOf_set hk, ← htk]
      have hkn : k * 40 + 40 ≤ L.length * 40 := by
        have : (k + 1) * 40 ≤ L.length * 40 := Nat.mul_le_mul_right 40 hk
        omega
      have hnc' : L.length * 40 ≤ cap * 40 := Nat.mul_le_mul_right 40 hnc
      have hsz : cur.toList.length = cap * 40 := by simpa using hcs
      rw [List.length_set, vl_length, List.take_take, Nat.min_eq_left (by omega), List.drop_take]
      simp only [List.append_assoc]
      rw [List.take_append, List.take_append, List.length_take, vl_length, hsz, Nat.min_eq_left (by omega), List.take_of_length_le (l := cur.toList.take (k * 40)) (by rw [List.length_take]; omega), List.take_of_length_le (l := vl x) (by rw [vl_length]; omega),
        show L.length * 40 - k * 40 - 40 = L.length * 40 - (k * 40 + 40) by omega]
    · rw [cell_of_row _ _ _ _ _ _ hh, Array.getElem?_eq_getElem (by rw [hcs]; omega)]
      rfl
theorem Ow.cases {base : Nat} {w : World} {s : Value} {L : List Lin.V} (h : Ow base w s L) {C : Prop} (h0 : s = .slice none 0 0 → L = [] → C) (h1 : ∀ g cap, s = .slice (some ⟨g, 0, none⟩) L.length cap → Ox base w g cap L → C) : C := by
  rcases h.2 with ⟨hs, hl⟩ | ⟨g, cap, cur, hs, hlo, r⟩
  · exact h0 hs (List.eq_nil_of_length_eq_zero hl)
  · exact h1 g cap hs ⟨hlo, by rw [← hs]; exact h⟩
/-- The rows, the first k of them cleared at the new row's lead. -/
noncomputable def clr (p : Int) (u : Lin.V) (x : Lin.V) : Lin.V := Lin.add p x (-(x (Lin.ld u))) u
noncomputable def part (p : Int) (u : Lin.V) (L : List Lin.V) (k : Nat) : List Lin.V := (L.take k).map (clr p u) ++ L.drop k
end Go.Proofs.YtpdkfidmmjlmnabDoor

namespace Go.Proofs.YtpdkfidmmjlmnabDoor
open Go.RowKit

/-- A reduced list that a call is gathering, a vector in a box of its own. -/
structure Inn (w1 W : World) (sv : Value) (R : List Lin.V) (vb : Nat) (r : Lin.V) : Prop where
  below : Below w1.heap.size w1 W
  own : Ow w1.heap.size W sv R
  lo : w1.heap.size ≤ vb
  at' : At W vb 0 r
  there : W.there vb 0 40
  ne : some vb ≠ sv.ownBlock
theorem Inn.next {w1 W W' : World} {sv : Value} {R : List Lin.V} {vb : Nat} {r : Lin.V} (h : Inn w1 W sv R vb r) (hb : Below W.heap.size W W') : Inn w1 W' sv R vb r :=
  ⟨h.below.trans (hb.mono h.below.size), h.own.below hb, h.lo, h.at'.later hb, there_below h.there hb h.at'.lt, h.ne⟩
theorem Inn.put {w1 W : World} {sv : Value} {R : List Lin.V} {vb : Nat} {r : Lin.V} (h : Inn w1 W sv R vb r) (x : Lin.V) : Inn w1 (W.setCells vb 0 (vl x)) sv R vb x :=
  ⟨below_setCells _ h.lo _ _ _ h.below, h.own.grown (grown_setCells W vb 0 (vl x)) (Or.inr h.ne.symm), h.lo, at_setCells _ _ _ _ h.there, World.there_setCells h.there _ _ _, h.ne⟩
theorem Ow.apart {base : Nat} {w : World} {s : Value} {L : List Lin.V} (h : Ow base w s L) {b : Nat} (hb : w.heap.size ≤ b) : some b ≠ s.ownBlock := fun e => by
  have := ((World.ownsRow.lt h) b e.symm).1
  have := ((World.ownsRow.lt h) b e.symm).2
  omega

/-- What a reduced list has to do with a list. -/
structure RedOf (p : Int) (R T : List Lin.V) : Prop where
  red : Lin.Red p R
  wd : ∀ u ∈ R, Lin.Wd 40 u
  eqv : Lin.Eqv p R T
theorem RedOf.nil (p : Int) : RedOf p [] [] := ⟨Lin.Red.nil p, by simp, Lin.Eqv.refl _ _⟩
theorem RedOf.skip {p : Int} (hp : 0 < p) {R T : List Lin.V} (h : RedOf p R T) {v : Lin.V} (hT : ∀ w ∈ T, Lin.Md p w) (hv : Lin.Md p v) (hr : Lin.Rest p R v R.length Lin.zv) : RedOf p R (T ++ [v]) :=
  ⟨h.red, h.wd, Lin.skip_eqv hp h.red hT hv h.eqv hr⟩
theorem RedOf.put {p : Int} (hp : 1 < p) {R T : List Lin.V} (h : RedOf p R T) {v r u : Lin.V} {k : Nat} (hT : ∀ w ∈ T, Lin.Md p w) (hv : Lin.Md p v) (hr : Lin.Rest p R v R.length r) (hne : r ≠ Lin.zv) (hu : Lin.Unit p r u) (huw : Lin.Wd 40 u) (hk : k ≤ R.length)
    (hlo : ∀ w ∈ R.take k, Lin.ld w < Lin.ld u) (hhi : ∀ w ∈ R.drop k, ¬ Lin.ld w < Lin.ld u) : RedOf p (Lin.put p R k u) (T ++ [v]) := by
  have hf := Lin.fits_of hr hne hu hk hlo hhi
  refine ⟨hf.red hp h.red, fun x hx => ?_, Lin.put_eqv hp h.red hT hv h.eqv hr hu hf⟩
  rcases Lin.put_mem.1 hx with rfl | ⟨y, hy, rfl⟩
  · exact huw
  · exact Lin.add_wd _ (h.wd y hy) huw
theorem put_length (p : Int) (R : List Lin.V) (k : Nat) (u : Lin.V) (hk : k ≤ R.length) : (Lin.put p R k u).length = R.length + 1 := by simp [Lin.put]; omega

end Go.Proofs.YtpdkfidmmjlmnabDoor

